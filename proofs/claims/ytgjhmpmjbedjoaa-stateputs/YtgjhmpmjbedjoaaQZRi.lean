/- state.pendingMay, state.Right. Over the translation. -/
import Derived.Test.YtgjhmpmjbedjoaaQZMa
import Derived.Test.YtgjhmpmjbedjoaaQZRf
import Derived.Test.YtgjhmpmjbedjoaaQCRi
namespace Go.Proofs.Ytgjhmpmjbedjoaa
open Go.RowKit Apo
noncomputable def pendB (s : Sv) : Bool := if s.pd = 0 then decide (s.cl.length = 0) else (madeG s.md s.pd).isSome && (clashE s.cl == 0)
set_option maxRecDepth 100000 in
set_option maxHeartbeats 8000000 in
theorem pendmay_any (x : SvA) (w : World) (h : SvR w x) (hlc : x.s.cl.length ≤ 1000000) :
    Calls Try.prog 32 #[.agg (cSv x).toArray] w fun e w' => e = .returned (.bool (pendB x.s)) ∧ Below w.heap.size w w' := by
  obtain ⟨s, ra, rc, ma, mc, ca, cc⟩ := x
  unfold cSv
  simp only at hlc ⊢
  have hb2 : s.md.length ≤ 9223372036854775807 := by have := h.ml; simp only at this; unfold maxLen at this; omega
  have bA : Below w.heap.size w (w.alloc (.cells #[.string s.hd, .int .u64 s.wk, .int .u64 s.nx, .int .u64 s.pd, .slice ra s.rf.length rc, .slice ma s.md.length mc, .slice ca s.cl.length cc] 27)) := (Below.refl _ w).alloc (Nat.le_refl _) _
  have HBA := hide bA
  have hk := Ob.new w [.string s.hd, .int .u64 s.wk, .int .u64 s.nx, .int .u64 s.pd, .slice ra s.rf.length rc, .slice ma s.md.length mc, .slice ca s.cl.length cc] 27
  have HK := hide hk
  have HFD := hide (find_of (.string s.hd) (.int .u64 s.wk) (.int .u64 s.nx) (.int .u64 s.pd) (.slice ra s.rf.length rc) (.slice ca s.cl.length cc) ma mc s.md s.pd _ (h.mr.below bA) hb2)
  have HRI := hide (fun W (b : Below w.heap.size w W) => right_any W ca cc s.cl (h.cr.below b) hlc h.cz)
  have x0 := hk.cell 0
  have x1 := hk.cell 1
  have x2 := hk.cell 2
  have x3 := hk.cell 3
  have x4 := hk.cell 4
  have x5 := hk.cell 5
  have x6 := hk.cell 6
  simp only [List.getElem?_cons_zero, List.getElem?_cons_succ] at x0 x1 x2 x3 x4 x5 x6
  obtain ⟨P, hP⟩ : ∃ P, P = pendB s := ⟨_, rfl⟩
  rw [← hP]
  unfold pendB at hP
  obtain ⟨C, hC⟩ : ∃ C, C = chG s.md s.pd := ⟨_, rfl⟩
  obtain ⟨S, hS⟩ : ∃ S, S = (madeG s.md s.pd).isSome := ⟨_, rfl⟩
  obtain ⟨E, hE⟩ : ∃ E, E = clashE s.cl := ⟨_, rfl⟩
  rw [← hC, ← hS] at HFD
  rw [← hE] at HRI
  rw [← hS, ← hE] at hP
  have HP := hide hP
  generalize s.rf.length = n1 at *
  generalize s.md.length = n2 at *
  generalize s.cl.length = n3 at *
  clear h bA hk hP hC hS hE
  by_cases h0 : s.pd = 0
  · have d0 : (s.pd == 0) = true := by simpa using h0
    have HF : Hid (P = decide (n3 = 0)) := hide (by rw [HP.out, if_pos h0])
    clear h0
    by_cases hn : n3 = 0
    · have dn : ((n3 : Int) == 0) = true := by simp; omega
      have HF2 : Hid (P = true) := hide (by rw [HF.out]; simpa using hn)
      clear hn
      go_enter Try.func32, Try.ntmps32
      go_wp2
      go_ret
      exact ⟨by rw [HF2.out]; rfl, HBA.out⟩
    · have dn : ((n3 : Int) == 0) = false := by simp; omega
      have HF2 : Hid (P = false) := hide (by rw [HF.out]; simpa using hn)
      clear hn
      go_enter Try.func32, Try.ntmps32
      go_wp2
      go_ret
      exact ⟨by rw [HF2.out]; rfl, HBA.out⟩
  have d0 : (s.pd == 0) = false := by simpa using h0
  have HF : Hid (P = (S && (E == 0))) := hide (by rw [HP.out, if_neg h0])
  clear h0
  go_enter Try.func32, Try.ntmps32
  go_wp2_with fail
  refine HFD.out.mono ?_
  rintro e w2 ⟨rfl, b2⟩
  have HB2 := hide (HBA.out.trans (b2.mono HBA.out.size))
  have k2 := HK.out.old b2
  have z6 := k2.cell 6
  simp only [List.getElem?_cons_zero, List.getElem?_cons_succ] at z6
  have HCR := hide (HRI.out _ HB2.out)
  clear b2 k2 x0 x1 x2 x3 x4 x5 x6 HFD HRI
  cases S with
  | false =>
    have HF2 : Hid (P = false) := hide (by rw [HF.out]; rfl)
    go_wp2
    go_ret
    exact ⟨by rw [HF2.out]; rfl, HB2.out⟩
  | true =>
    have HF2 : Hid (P = (E == 0)) := hide (by rw [HF.out]; rfl)
    go_wp2_with fail
    refine HCR.out.mono ?_
    rintro e w3 ⟨rfl, b3⟩
    have HB3 := hide (HB2.out.trans (b3.mono HB2.out.size))
    clear b3
    go_wp2
    go_ret
    exact ⟨by rw [HF2.out]; rfl, HB3.out⟩
open Classical in
theorem stateE_is (s : Sv) : stateE s = if s.nx = 0 ∨ ¬ madeOk s ∨ ¬ refsOk s ∨ pendB s = false then 150 else 0 := by
  by_cases h0 : stateE s = 0
  · obtain ⟨h1, h2, h3⟩ : (∀ i r, s.rf[i]? = some r → refB s i r = false) ∧ (∀ i m, s.md[i]? = some m → mkB s i m = false) ∧ finB s = false := by
      refine ⟨fun i r hi => ?_, fun i m hi => ?_, ?_⟩
      · cases q : refB s i r with
        | false => rfl
        | true => rw [stateE_ref hi q] at h0; cases h0
      · cases q : mkB s i m with
        | false => rfl
        | true => rw [stateE_mk hi q] at h0; cases h0
      · cases q : finB s with
        | false => rfl
        | true => rw [stateE_fin q] at h0; cases h0
    rw [h0, if_neg]
    unfold finB at h3
    simp only [Bool.or_eq_false_iff, Bool.not_eq_false', bne_eq_false_iff_eq, decide_eq_false_iff_not, Bool.and_eq_false_iff, beq_eq_false_iff_ne] at h3
    obtain ⟨⟨⟨⟨⟨⟨a1, a2⟩, a3⟩, a4⟩, a5⟩, a6⟩, a7⟩ := h3
    rintro (q | q | q | q)
    · exact a2 (by simpa using q)
    · exact q ⟨by omega, h2⟩
    · exact q ⟨by omega, h1, a1⟩
    · unfold pendB at q
      split at q
      · rename_i hz
        simp only [decide_eq_false_iff_not] at q
        rcases a6 with a6 | a6
        · exact a6 hz
        · omega
      · rename_i hz
        simp only [Bool.and_eq_false_iff, beq_eq_false_iff_ne] at q
        rcases q with q | q
        · rcases a5 with a5 | a5
          · exact hz a5
          · rw [q] at a5; cases a5
        · exact q a7
  · by_cases hc : s.nx = 0 ∨ ¬ madeOk s ∨ ¬ refsOk s ∨ pendB s = false
    · rw [if_pos hc]
      unfold stateE at h0 ⊢
      split at h0
      · rename_i q; rw [if_pos q]
      · exact absurd rfl h0
    · exfalso
      apply h0
      have c1 : s.nx ≠ 0 := fun q => hc (.inl q)
      have c2 : madeOk s := Decidable.not_not.1 (fun q => hc (.inr (.inl q)))
      have c3 : refsOk s := Decidable.not_not.1 (fun q => hc (.inr (.inr (.inl q))))
      have c4 : pendB s = true := by
        cases q : pendB s with
        | true => rfl
        | false => exact absurd (.inr (.inr (.inr q))) hc
      refine stateE_ok c3.2.1 c2.2 ?_
      unfold finB
      unfold pendB at c4
      have d1 : (s.nx == 0) = false := by simpa using c1
      have d2 : decide (40 < s.rf.length) = false := by have := c3.1; simp; omega
      have d3 : decide (200 < s.md.length) = false := by have := c2.1; simp; omega
      rw [c3.2.2, d1, d2, d3]
      split at c4
      · rename_i hz
        have hl : s.cl = [] := List.eq_nil_of_length_eq_zero (by simpa using c4)
        have hce : clashE ([] : List Cl) = 0 := clashE_zero (fun j hj => by simp at hj)
        rw [hz, hl, hce]
        simp
      · rename_i hz
        simp only [Bool.and_eq_true, beq_iff_eq] at c4
        have hz2 : (s.pd == 0) = false := by simpa using hz
        rw [c4.1, c4.2, hz2]
        simp
set_option maxRecDepth 100000 in
set_option maxHeartbeats 8000000 in
theorem right17 (x : SvA) (w : World) (h : SvR w x) (hlc : x.s.cl.length ≤ 1000000) :
    Calls Try.prog 12 #[.agg (cSv x).toArray] w fun e w' => e = .returned (.int .i64 (stateE x.s)) ∧ Below w.heap.size w w' := by
  classical
  rw [stateE_is]
  have HM := hide (fun W (b : Below w.heap.size w W) => mademay_any x W (h.below b))
  have HR := hide (fun W (b : Below w.heap.size w W) => refsmay_any x W (h.below b))
  have HP := hide (fun W (b : Below w.heap.size w W) => pendmay_any x W (h.below b) hlc)
  obtain ⟨s, ra, rc, ma, mc, ca, cc⟩ := x
  unfold cSv at HM HR HP ⊢
  simp only at HM HR HP hlc ⊢
  have bA : Below w.heap.size w (w.alloc (.cells #[.string s.hd, .int .u64 s.wk, .int .u64 s.nx, .int .u64 s.pd, .slice ra s.rf.length rc, .slice ma s.md.length mc, .slice ca s.cl.length cc] 27)) := (Below.refl _ w).alloc (Nat.le_refl _) _
  have HBA := hide bA
  have hk := Ob.new w [.string s.hd, .int .u64 s.wk, .int .u64 s.nx, .int .u64 s.pd, .slice ra s.rf.length rc, .slice ma s.md.length mc, .slice ca s.cl.length cc] 27
  have HK := hide hk
  have x0 := hk.cell 0
  have x1 := hk.cell 1
  have x2 := hk.cell 2
  have x3 := hk.cell 3
  have x4 := hk.cell 4
  have x5 := hk.cell 5
  have x6 := hk.cell 6
  simp only [List.getElem?_cons_zero, List.getElem?_cons_succ] at x0 x1 x2 x3 x4 x5 x6
  have HC1 := hide (HM.out _ bA)
  obtain ⟨M, hM⟩ : ∃ M, M = decide (madeOk s) := ⟨_, rfl⟩
  obtain ⟨R, hR⟩ : ∃ R, R = decide (refsOk s) := ⟨_, rfl⟩
  obtain ⟨P, hP⟩ : ∃ P, P = pendB s := ⟨_, rfl⟩
  rw [← hM] at HC1
  rw [← hR] at HR
  rw [← hP] at HP ⊢
  obtain ⟨E, hE⟩ : ∃ E : Int, E = if s.nx = 0 ∨ ¬ madeOk s ∨ ¬ refsOk s ∨ P = false then 150 else 0 := ⟨_, rfl⟩
  rw [← hE]
  have HE : Hid (E = if s.nx = 0 ∨ M = false ∨ R = false ∨ P = false then 150 else 0) := hide (by rw [hE, hM, hR]; simp only [decide_eq_false_iff_not])
  generalize s.rf.length = n1 at *
  generalize s.md.length = n2 at *
  generalize s.cl.length = n3 at *
  clear h bA hk HM hM hR hP hE
  by_cases h0 : s.nx = 0
  · have d0 : (s.nx == 0) = true := by simpa using h0
    have HF : Hid (E = 150) := hide (by rw [HE.out, if_pos (.inl h0)])
    clear h0
    go_enter Try.func12, Try.ntmps12
    go_wp2
    go_ret
    exact ⟨by rw [HF.out]; rfl, HBA.out⟩
  have d0 : (s.nx == 0) = false := by simpa using h0
  have H0 := hide h0
  clear h0
  go_enter Try.func12, Try.ntmps12
  go_wp2_with fail
  refine HC1.out.mono ?_
  rintro e w2 ⟨rfl, b2⟩
  have HB2 := hide (HBA.out.trans (b2.mono HBA.out.size))
  have k2 := HK.out.old b2
  have HK2 := hide k2
  have y0 := k2.cell 0
  have y1 := k2.cell 1
  have y2 := k2.cell 2
  have y3 := k2.cell 3
  have y4 := k2.cell 4
  have y5 := k2.cell 5
  have y6 := k2.cell 6
  simp only [List.getElem?_cons_zero, List.getElem?_cons_succ] at y0 y1 y2 y3 y4 y5 y6
  have HC2 := hide (HR.out _ HB2.out)
  clear x0 x1 x2 x3 x4 x5 x6 b2 k2 HC1 HR HK
  cases M with
  | false =>
    have HF : Hid (E = 150) := hide (by rw [HE.out, if_pos (.inr (.inl rfl))])
    go_wp2
    go_ret
    exact ⟨by rw [HF.out]; rfl, HB2.out⟩
  | true =>
  go_wp2_with fail
  refine HC2.out.mono ?_
  rintro e w3 ⟨rfl, b3⟩
  have HB3 := hide (HB2.out.trans (b3.mono HB2.out.size))
  have k3 := HK2.out.old b3
  have z0 := k3.cell 0
  have z1 := k3.cell 1
  have z2 := k3.cell 2
  have z3 := k3.cell 3
  have z4 := k3.cell 4
  have z5 := k3.cell 5
  have z6 := k3.cell 6
  simp only [List.getElem?_cons_zero, List.getElem?_cons_succ] at z0 z1 z2 z3 z4 z5 z6
  have HC3 := hide (HP.out _ HB3.out)
  clear y0 y1 y2 y3 y4 y5 y6 b3 k3 HC2 HP HK2
  cases R with
  | false =>
    have HF : Hid (E = 150) := hide (by rw [HE.out, if_pos (.inr (.inr (.inl rfl)))])
    go_wp2
    go_ret
    exact ⟨by rw [HF.out]; rfl, HB3.out⟩
  | true =>
  go_wp2_with fail
  refine HC3.out.mono ?_
  rintro e w4 ⟨rfl, b4⟩
  have HB4 := hide (HB3.out.trans (b4.mono HB3.out.size))
  clear b4 HC3
  cases P with
  | false =>
    have HF : Hid (E = 150) := hide (by rw [HE.out, if_pos (.inr (.inr (.inr rfl)))])
    go_wp2
    go_ret
    exact ⟨by rw [HF.out]; rfl, HB4.out⟩
  | true =>
    have HF : Hid (E = 0) := hide (by
      rw [HE.out, if_neg]
      have := H0.out
      simp [this])
    go_wp2
    go_ret
    exact ⟨by rw [HF.out]; rfl, HB4.out⟩
end Go.Proofs.Ytgjhmpmjbedjoaa
