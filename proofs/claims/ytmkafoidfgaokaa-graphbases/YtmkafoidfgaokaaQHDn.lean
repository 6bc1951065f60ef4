/- container/heap's down, at a queue of commits. Over the translation. -/
import Derived.Test.YtmkafoidfgaokaaQHUp
namespace Go.Proofs.Ytmkafoidfgaokaa
open Go.RowKit Apo
variable {uv : Value × Value}
/-- what down leaves -/
def DnP (w : World) (p : Nat) (uv : Value × Value) (g n cap : Nat) (d : List CmA) (ex : List Value) (m b : Nat) (e : Ending) (w' : World) : Prop :=
  (∃ r : Bool, e = .returned (.bool r)) ∧ ∃ d', Qu w' p uv g n cap d' ex ∧ d'.Perm d ∧ Hp.HeapFrom ltQ (fq d') m b ∧ (∀ k, m ≤ k → fq d' k = fq d k) ∧ Onl (fun k => k = g) w w'
theorem sw_out {f : Nat → CmA} {i c m k : Nat} (hi : i < m) (hc : c < m) (hk : m ≤ k) : Hp.sw f i c k = f k := by
  unfold Hp.sw
  rw [if_neg (by omega), if_neg (by omega)]
/-- a round that swaps with c -/
theorem dn_round {d d' : List CmA} {n m b i c : Nat} (hn : n = d'.length) (hm : m ≤ n) (hi : i < c) (hp : d'.Perm d) (hu : Hp.DownInv ltQ (fq d') m b i) (hc : Hp.Least ltQ (fq d') m i c) (hl : ltQ (fq d' c) (fq d' i) = true) (ho : ∀ k, m ≤ k → fq d' k = fq d k) :
    (Hp.swL d' i c).Perm d ∧ Hp.DownInv ltQ (fq (Hp.swL d' i c)) m b c ∧ (∀ k, m ≤ k → fq (Hp.swL d' i c) k = fq d k) ∧ (Hp.swL d' i c).length = d'.length := by
  have hcm := hc.1
  have e : fq (Hp.swL d' i c) = Hp.sw (fq d') i c := by
    unfold fq
    exact Hp.swL_fn (by omega) (by omega)
  refine ⟨(Hp.swL_perm _ _ _).trans hp, ?_, fun k hk => ?_, Hp.swL_len _ _ _⟩
  · rw [e]; exact Hp.down_step ltQ_ord hu hc hl
  · rw [e, sw_out (by omega) hcm hk]; exact ho k hk
set_option maxRecDepth 100000 in
set_option maxHeartbeats 4000000 in
theorem down_q {w : World} {p g n cap : Nat} {d : List CmA} {ex : List Value} (h : Qu w p uv g n cap d ex) (hn : n ≤ 1000000) {m b i : Nat} (hm : m ≤ n) (hi : i ≤ 1000000) (hu : Hp.DownInv ltQ (fq d) m b i) :
    Calls Try.prog 67 #[.iface 88 (.pointer (some ⟨p, 2, none⟩)), .int .i64 i, .int .i64 m] w (DnP w p uv g n cap d ex m b) := by
  have HQ := hide h
  have HU := hide hu
  obtain ⟨i0, hi0⟩ : ∃ i0, i0 = i := ⟨_, rfl⟩
  rw [← hi0] at HU hi ⊢
  clear h hu hi0
  go_enter Try.func67, Try.ntmps67
  go_wp2
  go_loopw [7] (fun v wr => ∃ (i : Nat) (d' : List CmA), v = .int .i64 i ∧ i ≤ 1000000 ∧ Hid (Qu wr p uv g n cap d' ex) ∧ Hid (d'.Perm d) ∧ Hid (Hp.DownInv ltQ (fq d') m b i) ∧ Hid (∀ k, m ≤ k → fq d' k = fq d k) ∧ Hid (Onl (fun k => k = g) w wr)) (fun v _ => 1000001 - (intOf v).toNat)
  case atStart => exact ⟨i0, d, rfl, hi, HQ, hide (List.Perm.refl _), HU, hide (fun _ _ => rfl), hide (Onl.refl _ _)⟩
  case round =>
    clear hi HU
    obtain ⟨i, d', rfl, hi, HQ, HP, HU, HK, HO⟩ := hrel
    have x0 := HQ.out.ob.cell 2
    simp only [List.getElem?_cons_succ, List.getElem?_cons_zero] at x0
    by_cases hleaf : m ≤ 2 * i + 1
    · have HF : Hid (DnP w p uv g n cap d ex m b (.returned (.bool (decide (i0 < i)))) wr) := hide ⟨⟨_, rfl⟩, d', HQ.out, HP.out, Hp.down_leaf HU.out hleaf, HK.out, HO.out⟩
      clear HU
      go_wp2
      go_ret
      exact HF.out
    · have hc1 : ((2 * i + 1 : Nat) : Int) = 2 * (i : Int) + 1 := by omega
      have hc2 : ((2 * i + 2 : Nat) : Int) = 2 * (i : Int) + 1 + 1 := by omega
      have hnl : ¬ ((m : Int) ≤ 2 * (i : Int) + 1) := by omega
      have hng : ¬ (2 * (i : Int) + 1 < 0) := by omega
      have w1 : IntKind.i64.wrap (2 * (i : Int)) = 2 * (i : Int) := by rw [IntKind.wrap_i64]; omega
      have w2 : IntKind.i64.wrap (2 * (i : Int) + 1) = 2 * (i : Int) + 1 := by rw [IntKind.wrap_i64]; omega
      have w3 : IntKind.i64.wrap (2 * (i : Int) + 1 + 1) = 2 * (i : Int) + 1 + 1 := by rw [IntKind.wrap_i64]; omega
      by_cases hr : 2 * i + 2 < m
      · have hrr : 2 * (i : Int) + 1 + 1 < (m : Int) := by omega
        have e2 := fq_at (d := d') (i := 2 * i + 2) (by have := HQ.out.n; omega)
        have e1 := fq_at (d := d') (i := 2 * i + 1) (by have := HQ.out.n; omega)
        have HC1 := hide (less_q HQ.out.ro n cap HQ.out.n e2 e1)
        rw [hc2, hc1] at HC1
        have hm1 := meth_less x0
        cases hl1 : ltQ (fq d' (2 * i + 2)) (fq d' (2 * i + 1)) with
        | true =>
          have HLE : Hid (Hp.Least ltQ (fq d') m i (2 * i + 2)) := hide ⟨hr, .inr ⟨rfl, ltQ_ord.as _ _ hl1⟩⟩
          rw [hl1] at HC1
          clear e1 e2
          go_wp2_with fail
          refine HC1.out.mono ?_
          rintro e w1 ⟨rfl, q1, rfl⟩
          have HQA := hide (HQ.out.drewN q1)
          have HOA := hide (HO.out.trans (onl_drewN (fun k => k = g) wr q1))
          generalize wr.drewN q1 = WA at HQA HOA ⊢
          clear HC1 x0 hm1 hl1
          have ec := fq_at (d := d') (i := 2 * i + 2) (by have := HQA.out.n; have := HLE.out.1; omega)
          have ei := fq_at (d := d') (i := i) (by have := HQA.out.n; have := HLE.out.1; omega)
          have HCL := hide (less_q HQA.out.ro n cap HQA.out.n ec ei)
          rw [hc2] at HCL
          have xa := HQA.out.ob.cell 2
          simp only [List.getElem?_cons_succ, List.getElem?_cons_zero] at xa
          have hma := meth_less xa
          cases hl : ltQ (fq d' (2 * i + 2)) (fq d' i) with
          | false =>
            rw [hl] at HCL
            have HFS : Hid (Hp.HeapFrom ltQ (fq d') m b) := hide (Hp.down_stop ltQ_ord HU.out HLE.out hl)
            clear HU ec ei hl HLE
            go_wp2_with fail
            refine HCL.out.mono ?_
            rintro e w2 ⟨rfl, q, rfl⟩
            have HQ2 := hide (HQA.out.drewN q)
            have HO2 := hide (HOA.out.trans (onl_drewN (fun k => k = g) WA q))
            generalize WA.drewN q = W2 at HQ2 HO2 ⊢
            have HF : Hid (DnP w p uv g n cap d ex m b (.returned (.bool (decide (i0 < i)))) W2) := hide ⟨⟨_, rfl⟩, d', HQ2.out, HP.out, HFS.out, HK.out, HO2.out⟩
            go_wp2
            go_ret
            exact HF.out
          | true =>
            rw [hl] at HCL
            have HRR := hide (dn_round HQA.out.n hm (by omega) HP.out HU.out HLE.out hl HK.out)
            have hcm : (2 * i + 2) < m := HLE.out.1
            clear HU ec ei hl HLE
            go_wp2_with fail
            refine HCL.out.mono ?_
            rintro e w2 ⟨rfl, q, rfl⟩
            have HQ2 := hide (HQA.out.drewN q)
            have HO2 := hide (HOA.out.trans (onl_drewN (fun k => k = g) WA q))
            generalize WA.drewN q = W2 at HQ2 HO2 ⊢
            have y0 := HQ2.out.ob.cell 2
            simp only [List.getElem?_cons_succ, List.getElem?_cons_zero] at y0
            have hs := meth_swap y0
            have HCS := hide (swap_q HQ2.out.ro n cap HQ2.out.n (i := i) (j := 2 * i + 2) (by omega) (by omega))
            rw [hc2] at HCS
            clear xa hma
            go_wp2_with fail
            refine HCS.out.mono ?_
            rintro e w3 ⟨rfl, ro, on⟩
            have HQ3 := hide (HQ2.out.swp ro on HRR.out.2.2.2)
            have HO3 := hide (HO2.out.trans on)
            clear ro on y0 hs
            go_wp2
            go_roundw
            case rel => exact ⟨2 * i + 2, _, by simp; omega, by omega, HQ3, hide HRR.out.1, hide HRR.out.2.1, hide HRR.out.2.2.1, HO3⟩
            case measure => simp [intOf]; omega
        | false =>
          have HLE : Hid (Hp.Least ltQ (fq d') m i (2 * i + 1)) := hide ⟨by omega, .inl ⟨rfl, fun _ => hl1⟩⟩
          rw [hl1] at HC1
          clear e1 e2
          go_wp2_with fail
          refine HC1.out.mono ?_
          rintro e w1 ⟨rfl, q1, rfl⟩
          have HQA := hide (HQ.out.drewN q1)
          have HOA := hide (HO.out.trans (onl_drewN (fun k => k = g) wr q1))
          generalize wr.drewN q1 = WA at HQA HOA ⊢
          clear HC1 x0 hm1 hl1
          have ec := fq_at (d := d') (i := 2 * i + 1) (by have := HQA.out.n; have := HLE.out.1; omega)
          have ei := fq_at (d := d') (i := i) (by have := HQA.out.n; have := HLE.out.1; omega)
          have HCL := hide (less_q HQA.out.ro n cap HQA.out.n ec ei)
          rw [hc1] at HCL
          have xa := HQA.out.ob.cell 2
          simp only [List.getElem?_cons_succ, List.getElem?_cons_zero] at xa
          have hma := meth_less xa
          cases hl : ltQ (fq d' (2 * i + 1)) (fq d' i) with
          | false =>
            rw [hl] at HCL
            have HFS : Hid (Hp.HeapFrom ltQ (fq d') m b) := hide (Hp.down_stop ltQ_ord HU.out HLE.out hl)
            clear HU ec ei hl HLE
            go_wp2_with fail
            refine HCL.out.mono ?_
            rintro e w2 ⟨rfl, q, rfl⟩
            have HQ2 := hide (HQA.out.drewN q)
            have HO2 := hide (HOA.out.trans (onl_drewN (fun k => k = g) WA q))
            generalize WA.drewN q = W2 at HQ2 HO2 ⊢
            have HF : Hid (DnP w p uv g n cap d ex m b (.returned (.bool (decide (i0 < i)))) W2) := hide ⟨⟨_, rfl⟩, d', HQ2.out, HP.out, HFS.out, HK.out, HO2.out⟩
            go_wp2
            go_ret
            exact HF.out
          | true =>
            rw [hl] at HCL
            have HRR := hide (dn_round HQA.out.n hm (by omega) HP.out HU.out HLE.out hl HK.out)
            have hcm : (2 * i + 1) < m := HLE.out.1
            clear HU ec ei hl HLE
            go_wp2_with fail
            refine HCL.out.mono ?_
            rintro e w2 ⟨rfl, q, rfl⟩
            have HQ2 := hide (HQA.out.drewN q)
            have HO2 := hide (HOA.out.trans (onl_drewN (fun k => k = g) WA q))
            generalize WA.drewN q = W2 at HQ2 HO2 ⊢
            have y0 := HQ2.out.ob.cell 2
            simp only [List.getElem?_cons_succ, List.getElem?_cons_zero] at y0
            have hs := meth_swap y0
            have HCS := hide (swap_q HQ2.out.ro n cap HQ2.out.n (i := i) (j := 2 * i + 1) (by omega) (by omega))
            rw [hc1] at HCS
            clear xa hma
            go_wp2_with fail
            refine HCS.out.mono ?_
            rintro e w3 ⟨rfl, ro, on⟩
            have HQ3 := hide (HQ2.out.swp ro on HRR.out.2.2.2)
            have HO3 := hide (HO2.out.trans on)
            clear ro on y0 hs
            go_wp2
            go_roundw
            case rel => exact ⟨2 * i + 1, _, by simp, by omega, HQ3, hide HRR.out.1, hide HRR.out.2.1, hide HRR.out.2.2.1, HO3⟩
            case measure => simp [intOf]; omega
      · have hrr : ¬ (2 * (i : Int) + 1 + 1 < (m : Int)) := by omega
        have HLE : Hid (Hp.Least ltQ (fq d') m i (2 * i + 1)) := hide ⟨by omega, .inl ⟨rfl, fun q => absurd q (by omega)⟩⟩
        have HQA := HQ
        have HOA := HO
        obtain ⟨WA, hWA⟩ : ∃ WA, WA = wr := ⟨_, rfl⟩
        rw [← hWA] at HQA HOA x0 ⊢
        clear hWA HQ HO
        have ec := fq_at (d := d') (i := 2 * i + 1) (by have := HQA.out.n; have := HLE.out.1; omega)
        have ei := fq_at (d := d') (i := i) (by have := HQA.out.n; have := HLE.out.1; omega)
        have HCL := hide (less_q HQA.out.ro n cap HQA.out.n ec ei)
        rw [hc1] at HCL
        have xa := HQA.out.ob.cell 2
        simp only [List.getElem?_cons_succ, List.getElem?_cons_zero] at xa
        have hma := meth_less xa
        cases hl : ltQ (fq d' (2 * i + 1)) (fq d' i) with
        | false =>
          rw [hl] at HCL
          have HFS : Hid (Hp.HeapFrom ltQ (fq d') m b) := hide (Hp.down_stop ltQ_ord HU.out HLE.out hl)
          clear HU ec ei hl HLE
          go_wp2_with fail
          refine HCL.out.mono ?_
          rintro e w2 ⟨rfl, q, rfl⟩
          have HQ2 := hide (HQA.out.drewN q)
          have HO2 := hide (HOA.out.trans (onl_drewN (fun k => k = g) WA q))
          generalize WA.drewN q = W2 at HQ2 HO2 ⊢
          have HF : Hid (DnP w p uv g n cap d ex m b (.returned (.bool (decide (i0 < i)))) W2) := hide ⟨⟨_, rfl⟩, d', HQ2.out, HP.out, HFS.out, HK.out, HO2.out⟩
          go_wp2
          go_ret
          exact HF.out
        | true =>
          rw [hl] at HCL
          have HRR := hide (dn_round HQA.out.n hm (by omega) HP.out HU.out HLE.out hl HK.out)
          have hcm : (2 * i + 1) < m := HLE.out.1
          clear HU ec ei hl HLE
          go_wp2_with fail
          refine HCL.out.mono ?_
          rintro e w2 ⟨rfl, q, rfl⟩
          have HQ2 := hide (HQA.out.drewN q)
          have HO2 := hide (HOA.out.trans (onl_drewN (fun k => k = g) WA q))
          generalize WA.drewN q = W2 at HQ2 HO2 ⊢
          have y0 := HQ2.out.ob.cell 2
          simp only [List.getElem?_cons_succ, List.getElem?_cons_zero] at y0
          have hs := meth_swap y0
          have HCS := hide (swap_q HQ2.out.ro n cap HQ2.out.n (i := i) (j := 2 * i + 1) (by omega) (by omega))
          rw [hc1] at HCS
          clear xa hma
          go_wp2_with fail
          refine HCS.out.mono ?_
          rintro e w3 ⟨rfl, ro, on⟩
          have HQ3 := hide (HQ2.out.swp ro on HRR.out.2.2.2)
          have HO3 := hide (HO2.out.trans on)
          clear ro on y0 hs
          go_wp2
          go_roundw
          case rel => exact ⟨2 * i + 1, _, by simp, by omega, HQ3, hide HRR.out.1, hide HRR.out.2.1, hide HRR.out.2.2.1, HO3⟩
          case measure => simp [intOf]; omega
end Go.Proofs.Ytmkafoidfgaokaa
