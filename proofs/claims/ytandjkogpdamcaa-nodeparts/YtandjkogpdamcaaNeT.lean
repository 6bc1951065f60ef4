/- The program's texts and fits of layer 9, over the translation. -/
import Derived.Test.YtandjkogpdamcaaNeK
import Derived.BigQuiet
namespace Apo
open Go Go.RowKit
def textsE (n : Nd) : Int := if firstE enE n.es ≠ 0 then firstE enE n.es else firstE kiE n.ks
theorem enE_key {e : En} (h : keyE e.k ≠ 0) : enE e = keyE e.k := by unfold enE; rw [if_pos h]
theorem enE_val {e : En} (h : keyE e.k = 0) : enE e = valE e.v := by unfold enE; rw [if_neg (by simp [h])]
end Apo
namespace Go.Proofs.Ytandjkogpdamcaa
open Go.RowKit Apo
set_option maxRecDepth 100000 in
set_option maxHeartbeats 4000000 in
theorem texts_any (w : World) (x : NdA) (hx : OkN w x) :
    Calls Try.prog 40 #[.agg x.cells.toArray] w fun e w' => e = .returned (.int .i64 (textsE x.n)) ∧ Below w.heap.size w w' := by
  obtain ⟨⟨lv, es, ks⟩, ea, ec, ka, kc⟩ := x
  simp only [NdA.cells] at *
  obtain ⟨ne, hne⟩ : ∃ ne, ne = es.length := ⟨_, rfl⟩
  obtain ⟨n, hn⟩ : ∃ n, n = ks.length := ⟨_, rfl⟩
  obtain ⟨W0, hW0⟩ : ∃ W0, W0 = w.alloc (.cells #[.int .i64 lv, .slice ea ne ec, .slice ka n kc] 25) := ⟨_, rfl⟩
  have kb : Ob W0 w.heap.size 25 [.int .i64 lv, .slice ea ne ec, .slice ka n kc] := by rw [hW0]; exact Ob.new w [.int .i64 lv, .slice ea ne ec, .slice ka n kc] 25
  have b0 : Below w.heap.size w W0 := by rw [hW0]; exact (Below.refl _ w).alloc (Nat.le_refl _) _
  have s0 : W0.heap.size = w.heap.size + 1 := by rw [hW0]; simp
  have x0 := hx.below b0
  have hle : ne ≤ 9223372036854775807 := by have h1 := x0.el; have h2 := x0.eb; unfold maxLen at h2; simp only at h1 h2; omega
  have hlk : n ≤ 9223372036854775807 := by have h1 := x0.kl; have h2 := x0.kb; unfold maxLen at h2; simp only at h1 h2; omega
  have HE := hide x0.es
  have HK := hide x0.ks
  have HZ := hide x0.sz
  have HKZ := hide x0.kz
  have HBX := hide (fun (W : World) (b : Below W0.heap.size W0 W) => kb.old b)
  have HN := hide hn
  have HNE := hide hne
  have HB0 := hide b0
  have c1 := kb.cell 1
  simp only [List.getElem?_cons_zero, List.getElem?_cons_succ] at c1
  simp only at HE HK HZ HKZ
  rw [← hne, ← hn]
  clear hx x0 kb b0 hn hne
  go_enter Try.func40, Try.ntmps40
  rw [hW0] at c1
  go_wp2
  rw [← hW0]
  go_loopw [13] (fun i wr => ∃ k : Nat, k ≤ ne ∧ i = .int .i64 k ∧ Hid (∀ e ∈ es.take k, enE e = 0) ∧ Hid (Below W0.heap.size W0 wr)) (fun i _ => ne - (intOf i).toNat)
  case atStart => exact ⟨0, Nat.zero_le _, rfl, hide (by simp), hide (Below.refl _ _)⟩
  case round =>
    obtain ⟨k, hk, rfl, HS, HB⟩ := hrel
    by_cases hkn : k < ne
    · obtain ⟨e, hek⟩ : ∃ e, es[k]? = some e := ⟨es[k]'(by have := HNE.out; omega), List.getElem?_eq_getElem _⟩
      obtain ⟨g, o, rfl, q1, q2⟩ := HE.out k e hek
      have q1' := (HB.out.cell (p := ⟨g, o + k * 2, none⟩) (World.block_lt_of_cell? _ _ q1)).trans q1
      have q2' := (HB.out.cell (p := ⟨g, o + k * 2 + 1, none⟩) (World.block_lt_of_cell? _ _ q2)).trans q2
      have hsz := HZ.out _ (List.mem_of_getElem? hek)
      obtain ⟨ek, ev⟩ := e
      simp only at q1' q2' hsz
      unfold maxLen at hsz
      have HEK := hide hek
      have HBA := hide (HB.out.alloc HB.out.size (.cells #[.string ek, .string ev] 55))
      have HC1 := hide (key_any ek (wr.alloc (.cells #[.string ek, .string ev] 55)) (by omega))
      have HC2 := hide (val_any ev (wr.alloc (.cells #[.string ek, .string ev] 55)) (by omega))
      clear q1 q2 hek
      by_cases hke : keyE ek = 0
      · have HE1 : Hid (enE ⟨ek, ev⟩ = valE ev) := hide (enE_val hke)
        rw [hke] at HC1
        by_cases hve : valE ev = 0
        · have HS2 : Hid (∀ e ∈ es.take (k + 1), enE e = 0) := by
            refine hide (fun e he => ?_)
            rw [List.take_add_one, HEK.out] at he
            rcases List.mem_append.1 he with q | q
            · exact HS.out e q
            · simp at q
              subst q
              rw [HE1.out]
              exact hve
          rw [hve] at HC2
          clear hke hve HE1
          go_wp2_with fail
          refine HC1.out.mono ?_
          rintro e w1 ⟨rfl, rfl⟩
          go_wp2_with fail
          refine HC2.out.mono ?_
          rintro e w1 ⟨rfl, rfl⟩
          go_wp2
          go_roundw
          case rel => exact ⟨k + 1, by omega, by simp, HS2, HBA⟩
          case measure => simp [intOf]; omega
        · have hve2 : (valE ev != 0) = true := by simpa using hve
          have HX : Hid (textsE ⟨lv, es, ks⟩ = valE ev) := by
            refine hide ?_
            have q := firstE_at (f := enE) HEK.out HS.out (by rw [HE1.out]; exact hve)
            unfold textsE
            simp only
            rw [q, HE1.out, if_pos hve]
          obtain ⟨ve, hvv⟩ : ∃ ve, ve = valE ev := ⟨_, rfl⟩
          rw [← hvv] at HC2 hve2 HX
          clear hke hve HE1 hvv
          go_wp2_with fail
          refine HC1.out.mono ?_
          rintro e w1 ⟨rfl, rfl⟩
          go_wp2_with fail
          refine HC2.out.mono ?_
          rintro e w1 ⟨rfl, rfl⟩
          go_wp2
          go_ret
          rw [HX.out]
          exact ⟨rfl, HB0.out.trans (HBA.out.mono (by omega))⟩
      · have hke2 : (keyE ek != 0) = true := by simpa using hke
        have HX : Hid (textsE ⟨lv, es, ks⟩ = keyE ek) := by
          refine hide ?_
          have q := firstE_at (f := enE) HEK.out HS.out (by rw [enE_key hke]; exact hke)
          unfold textsE
          simp only
          rw [q, enE_key hke, if_pos hke]
        obtain ⟨ve, hvv⟩ : ∃ ve, ve = keyE ek := ⟨_, rfl⟩
        rw [← hvv] at HC1 hke2 HX
        clear hke hvv
        go_wp2_with fail
        refine HC1.out.mono ?_
        rintro e w1 ⟨rfl, rfl⟩
        go_wp2
        go_ret
        rw [HX.out]
        exact ⟨rfl, HB0.out.trans (HBA.out.mono (by omega))⟩
    · obtain rfl : k = ne := by omega
      have HA : Hid (firstE enE es = 0) := by
        refine hide ?_
        have q := HS.out
        rw [HNE.out, List.take_length] at q
        exact firstE_none q
      have kx := HBX.out wr HB.out
      have e2 := kx.cell 2
      simp only [List.getElem?_cons_zero, List.getElem?_cons_succ] at e2
      obtain ⟨W1, hW1⟩ : ∃ W1, W1 = wr := ⟨_, rfl⟩
      have HT : Hid (textsE ⟨lv, es, ks⟩ = firstE kiE ks) := hide (by unfold textsE; simp only; rw [HA.out]; simp)
      have HBW := HB
      have HS1 := hide HB.out.size
      clear kx
      go_wp2
      go_loopw [33] (fun i wr => ∃ k : Nat, k ≤ n ∧ i = .int .i64 k ∧ Hid (∀ e ∈ ks.take k, kiE e = 0) ∧ Hid (Below W0.heap.size W0 wr)) (fun i _ => n - (intOf i).toNat)
      case atStart => exact ⟨0, Nat.zero_le _, rfl, hide (by simp), HBW⟩
      case round =>
        clear HB HS HBW
        obtain ⟨k, hk, rfl, HS, HB⟩ := hrel
        by_cases hkn : k < n
        · obtain ⟨e, hek⟩ : ∃ e, ks[k]? = some e := ⟨ks[k]'(by have := HN.out; omega), List.getElem?_eq_getElem _⟩
          obtain ⟨g, o, rfl, q1, q2⟩ := HK.out k e hek
          have q1' := (HB.out.cell (p := ⟨g, o + k * 2, none⟩) (World.block_lt_of_cell? _ _ q1)).trans q1
          have q2' := (HB.out.cell (p := ⟨g, o + k * 2 + 1, none⟩) (World.block_lt_of_cell? _ _ q2)).trans q2
          have hsz := HKZ.out _ (List.mem_of_getElem? hek)
          obtain ⟨ek, ei⟩ := e
          simp only at q1' q2' hsz
          unfold maxLen at hsz
          have HEK := hide hek
          have HBA := hide (HB.out.alloc HB.out.size (.cells #[.string ek, .int .u64 ei] 58))
          have HC1 := hide (key_any ek (wr.alloc (.cells #[.string ek, .int .u64 ei] 58)) (by omega))
          clear q1 q2 hek
          by_cases hke : keyE ek = 0
          · have HS2 : Hid (∀ e ∈ ks.take (k + 1), kiE e = 0) := by
              refine hide (fun e he => ?_)
              rw [List.take_add_one, HEK.out] at he
              rcases List.mem_append.1 he with q | q
              · exact HS.out e q
              · simp at q
                subst q
                exact hke
            rw [hke] at HC1
            clear hke
            go_wp2_with fail
            refine HC1.out.mono ?_
            rintro e w1 ⟨rfl, rfl⟩
            go_wp2
            go_roundw
            case rel => exact ⟨k + 1, by omega, by simp, HS2, HBA⟩
            case measure => simp [intOf]; omega
          · have hke2 : (keyE ek != 0) = true := by simpa using hke
            have HX : Hid (textsE ⟨lv, es, ks⟩ = keyE ek) := by
              refine hide ?_
              rw [HT.out]
              exact firstE_at (f := kiE) HEK.out HS.out hke
            obtain ⟨ve, hvv⟩ : ∃ ve, ve = keyE ek := ⟨_, rfl⟩
            rw [← hvv] at HC1 hke2 HX
            clear hke hvv
            go_wp2_with fail
            refine HC1.out.mono ?_
            rintro e w1 ⟨rfl, rfl⟩
            go_wp2
            go_ret
            rw [HX.out]
            exact ⟨rfl, HB0.out.trans (HBA.out.mono (by omega))⟩
        · obtain rfl : k = n := by omega
          have HX : Hid (textsE ⟨lv, es, ks⟩ = 0) := by
            refine hide ?_
            have q := HS.out
            rw [HN.out, List.take_length] at q
            rw [HT.out]
            exact firstE_none q
          go_wp2
          go_ret
          rw [HX.out]
          exact ⟨rfl, HB0.out.trans (HB.out.mono (by omega))⟩
set_option maxRecDepth 100000 in
set_option maxHeartbeats 2000000 in
theorem fits_any (w : World) (x : NdA) (hx : OkN w x) :
    Calls Try.prog 41 #[.agg x.cells.toArray] w fun e w' => e = .returned (.bool (x.n.leaf || x.n.inner)) ∧ Below w.heap.size w w' := by
  obtain ⟨⟨lv, es, ks⟩, ea, ec, ka, kc⟩ := x
  simp only [NdA.cells] at *
  obtain ⟨ne, hne⟩ : ∃ ne, ne = es.length := ⟨_, rfl⟩
  obtain ⟨n, hn⟩ : ∃ n, n = ks.length := ⟨_, rfl⟩
  have hle : ne ≤ 9223372036854775807 := by have h1 := hx.el; have h2 := hx.eb; unfold maxLen at h2; simp only at h1 h2; omega
  have hlk : n ≤ 9223372036854775807 := by have h1 := hx.kl; have h2 := hx.kb; unfold maxLen at h2; simp only at h1 h2; omega
  have hlv := hx.lv
  simp only at hlv
  unfold Nd.leaf Nd.inner
  simp only
  rw [← hne, ← hn]
  clear hx hne hn
  have HBA := hide ((Below.refl w.heap.size w).alloc (Nat.le_refl _) (.cells #[.int .i64 lv, .slice ea ne ec, .slice ka n kc] 25))
  obtain ⟨b1, d1⟩ : ∃ b, decide ((0 : Int) < (ne : Int)) = b := ⟨_, rfl⟩
  obtain ⟨b2, d2⟩ : ∃ b, decide ((0 : Int) < (n : Int)) = b := ⟨_, rfl⟩
  obtain ⟨b3, d3⟩ : ∃ b, (lv == 0) = b := ⟨_, rfl⟩
  obtain ⟨b4, d4⟩ : ∃ b, decide (0 < lv) = b := ⟨_, rfl⟩
  obtain ⟨b5, d5⟩ : ∃ b, decide (lv ≤ 20) = b := ⟨_, rfl⟩
  have e1 : decide (0 < ne) = b1 := by rw [← d1]; by_cases q : 0 < ne <;> simp [q]
  have e2 : decide (0 < n) = b2 := by rw [← d2]; by_cases q : 0 < n <;> simp [q]
  have e3 : decide (ne = 0) = !b1 := by rw [← e1]; by_cases q : 0 < ne <;> simp [q] <;> omega
  have e4 : decide (n = 0) = !b2 := by rw [← e2]; by_cases q : 0 < n <;> simp [q] <;> omega
  rw [e1, e2, e3, e4, d3, d4, d5]
  have HH : Hid (b3 = true → b4 = false) := hide (by rw [← d3, ← d4]; simp; intro q; omega)
  clear e3 e4
  cases b3 with
  | true =>
    have h4 := HH.out rfl
    subst h4
    cases b1 <;> cases b2
    all_goals
      go_enter Try.func41, Try.ntmps41
      go_wp2
      go_quiet (fail)
      go_wp2
      go_ret
      exact ⟨rfl, below_drewN HBA.out _⟩
  | false =>
    cases b1 <;> cases b2 <;> cases b4 <;> cases b5
    all_goals
      go_enter Try.func41, Try.ntmps41
      go_wp2
      go_quiet (fail)
      go_wp2
      go_ret
      exact ⟨rfl, below_drewN HBA.out _⟩
end Go.Proofs.Ytandjkogpdamcaa
