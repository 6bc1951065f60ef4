/- Law 12's awake and MergeKeys, over the translation. -/
import Derived.Test.YtoneedobhopkkaaMKy
import Derived.Test.YtoneedobhopkkaaMPk
import Derived.Test.YtoneedobhopkkaaMPr
namespace Go.Proofs.Ytoneedobhopkkaa
open Go.RowKit Apo
theorem pick_abc : pickS ⟨true, ⟨#[97]⟩⟩ ⟨true, ⟨#[98]⟩⟩ ⟨true, ⟨#[99]⟩⟩ = (⟨true, ⟨#[98]⟩⟩, false) := by
  have h1 : ¬ (⟨true, ⟨#[98]⟩⟩ : Si) = ⟨true, ⟨#[99]⟩⟩ := fun e => absurd (Si.mk.inj e).2 (by decide)
  have h2 : ¬ (⟨true, ⟨#[98]⟩⟩ : Si) = ⟨true, ⟨#[97]⟩⟩ := fun e => absurd (Si.mk.inj e).2 (by decide)
  have h3 : ¬ (⟨true, ⟨#[99]⟩⟩ : Si) = ⟨true, ⟨#[97]⟩⟩ := fun e => absurd (Si.mk.inj e).2 (by decide)
  show pickP ⟨true, ⟨#[97]⟩⟩ ⟨true, ⟨#[98]⟩⟩ ⟨true, ⟨#[99]⟩⟩ = _
  unfold pickP
  rw [if_neg h1, if_neg h2]
  simp [h3]
theorem pick_aac : pickS ⟨true, ⟨#[97]⟩⟩ ⟨true, ⟨#[97]⟩⟩ ⟨true, ⟨#[99]⟩⟩ = (⟨true, ⟨#[99]⟩⟩, true) := by
  unfold pickS
  rw [pickP_theirs]
  rfl
open Classical in
set_option maxRecDepth 100000 in
set_option maxHeartbeats 4000000 in
theorem awake12 (w : World) : Calls Try.prog 8 #[] w fun e w' => e = .returned (.bool true) ∧ Below w.heap.size w w' := by
  obtain ⟨W0, hW0⟩ : ∃ W0, W0 = ((w.alloc (.cells #[.bool true, .string ⟨#[97]⟩] 23)).alloc (.cells #[.bool true, .string ⟨#[98]⟩] 23)).alloc (.cells #[.bool true, .string ⟨#[99]⟩] 23) := ⟨_, rfl⟩
  have b0 : Below w.heap.size w W0 := by rw [hW0]; exact (((Below.refl _ w).alloc (Nat.le_refl _) _).alloc (by simp) _).alloc (by simp; omega) _
  have ka : Ob W0 w.heap.size 23 [.bool true, .string ⟨#[97]⟩] := by rw [hW0]; exact ((Ob.new w [.bool true, .string ⟨#[97]⟩] 23).alloc _).alloc _
  have kb : Ob W0 (w.heap.size + 1) 23 [.bool true, .string ⟨#[98]⟩] := by rw [hW0]; exact Ob.alloc (ob_push (cs := [.bool true, .string ⟨#[98]⟩]) (by simp)) _
  have kc : Ob W0 (w.heap.size + 1 + 1) 23 [.bool true, .string ⟨#[99]⟩] := by rw [hW0]; exact ob_push (cs := [.bool true, .string ⟨#[99]⟩]) (by simp)
  have C1 := key_any ⟨true, ⟨#[97]⟩⟩ ⟨true, ⟨#[98]⟩⟩ ⟨true, ⟨#[99]⟩⟩ W0
  have C2 := fun W => key_any ⟨true, ⟨#[97]⟩⟩ ⟨true, ⟨#[97]⟩⟩ ⟨true, ⟨#[99]⟩⟩ W
  unfold KyP at C1 C2
  rw [pick_abc] at C1
  rw [pick_aac] at C2
  simp only at C1 C2
  have HC1 := hide C1
  have HC2 := hide C2
  have HB := hide b0
  have HKA := hide ka
  have HKB := hide kb
  have HKC := hide kc
  have hgd : Try.prog.eqGuardType Try.prog.depth 23 = false := by kernel_rfl
  have e1 := eqlSd true true ⟨#[98]⟩ ⟨#[98]⟩
  have e2 := eqlSd true true ⟨#[99]⟩ ⟨#[99]⟩
  rw [decide_eq_true rfl] at e1 e2
  clear C1 C2 b0 ka kb kc
  go_enter Try.func8, Try.ntmps8
  go_wp2_with fail
  rw [← hW0]
  clear hW0
  refine HC1.out.mono ?_
  rintro e w1 ⟨rfl, u1⟩
  obtain ⟨W2, hW2⟩ : ∃ W2, W2 = w1.alloc (.cells #[.bool true, .string ⟨#[98]⟩] 23) := ⟨_, rfl⟩
  have u2 : Below w1.heap.size w1 W2 := by rw [hW2]; exact (Below.refl _ w1).alloc (Nat.le_refl _) _
  have hb2 : Below W0.heap.size W0 W2 := u1.trans (u2.mono u1.size)
  have ka2 := HKA.out.old hb2
  have kb2 := HKB.out.old hb2
  have kc2 := HKC.out.old hb2
  have kd2 : Ob W2 w1.heap.size 23 [.bool true, .string ⟨#[98]⟩] := by rw [hW2]; exact Ob.new w1 [.bool true, .string ⟨#[98]⟩] 23
  have HKB2 := hide kb2
  have HKC2 := hide kc2
  have HKD2 := hide kd2
  have HB2 := hide (HB.out.trans (hb2.mono HB.out.size))
  rw [hW2] at ka2 kc2
  have x0 := ka2.cell 0
  have x1 := ka2.cell 1
  have y0 := kc2.cell 0
  have y1 := kc2.cell 1
  simp only [List.getElem?_cons_zero, List.getElem?_cons_succ] at x0 x1 y0 y1
  clear u1 u2 hb2 ka2 kb2 kc2 kd2 HC1 HB HKA HKB HKC
  go_wp2_with fail
  rw [← hW2]
  clear hW2
  refine (HC2.out W2).mono ?_
  rintro e w3 ⟨rfl, u3⟩
  obtain ⟨W4, hW4⟩ : ∃ W4, W4 = w3.alloc (.cells #[.bool true, .string ⟨#[99]⟩] 23) := ⟨_, rfl⟩
  have u4 : Below w3.heap.size w3 W4 := by rw [hW4]; exact (Below.refl _ w3).alloc (Nat.le_refl _) _
  have hb4 : Below W2.heap.size W2 W4 := u3.trans (u4.mono u3.size)
  have kb4 := HKB2.out.old hb4
  have kc4 := HKC2.out.old hb4
  have kd4 := HKD2.out.old hb4
  have HF := hide (HB2.out.trans (hb4.mono HB2.out.size))
  rw [hW4] at kb4 kc4 kd4 HF
  have p0 := kb4.cell 0
  have p1 := kb4.cell 1
  have q0 := kc4.cell 0
  have q1 := kc4.cell 1
  have r0 := kd4.cell 0
  have r1 := kd4.cell 1
  simp only [List.getElem?_cons_zero, List.getElem?_cons_succ] at p0 p1 q0 q1 r0 r1
  clear u3 u4 hb4 kb4 kc4 kd4 hW4 HKB2 HKC2 HKD2 x0 x1 y0 y1 HB2 HC2
  go_wp2
  go_ret
  exact ⟨rfl, HF.out⟩
open Classical in
set_option maxRecDepth 100000 in
set_option maxHeartbeats 4000000 in
theorem mergeKeys12 (w : World) (a b c : Si) : Calls Try.prog 3 #[.agg #[.bool a.b, .string a.v], .agg #[.bool b.b, .string b.v], .agg #[.bool c.b, .string c.v]] w fun e w' => e = .returned (.bool true) ∧ Below w.heap.size w w' := by
  obtain ⟨W0, hW0⟩ : ∃ W0, W0 = ((w.alloc (.cells #[.bool a.b, .string a.v] 23)).alloc (.cells #[.bool b.b, .string b.v] 23)).alloc (.cells #[.bool c.b, .string c.v] 23) := ⟨_, rfl⟩
  have b0 : Below w.heap.size w W0 := by rw [hW0]; exact (((Below.refl _ w).alloc (Nat.le_refl _) _).alloc (by simp) _).alloc (by simp; omega) _
  have ka : Ob W0 w.heap.size 23 [.bool a.b, .string a.v] := by rw [hW0]; exact ((Ob.new w [.bool a.b, .string a.v] 23).alloc _).alloc _
  have kb : Ob W0 (w.heap.size + 1) 23 [.bool b.b, .string b.v] := by rw [hW0]; exact Ob.alloc (ob_push (cs := [.bool b.b, .string b.v]) (by simp)) _
  have kc : Ob W0 (w.heap.size + 1 + 1) 23 [.bool c.b, .string c.v] := by rw [hW0]; exact ob_push (cs := [.bool c.b, .string c.v]) (by simp)
  obtain ⟨⟨⟨sb, sv⟩, is⟩, hps⟩ : ∃ p, pickS a b c = p := ⟨_, rfl⟩
  have C1 := fun W => key_any a b c W
  have C2 := fun W => pick_any a b c W
  unfold KyP at C1 C2
  rw [hps] at C1 C2
  simp only at C1 C2
  have CA := awake12 W0
  have HCA := hide CA
  have HC1 := hide C1
  have HC2 := hide C2
  have HB := hide b0
  have HKA := hide ka
  have HKB := hide kb
  have HKC := hide kc
  have hgd : Try.prog.eqGuardType Try.prog.depth 23 = false := by kernel_rfl
  have e1 := eqlSd sb sb sv sv
  rw [decide_eq_true rfl] at e1
  clear C1 C2 CA b0 ka kb kc hps
  go_enter Try.func3, Try.ntmps3
  go_wp2_with fail
  rw [← hW0]
  clear hW0
  refine HCA.out.mono ?_
  rintro e w1 ⟨rfl, u1⟩
  have ka1 := HKA.out.old u1
  have kb1 := HKB.out.old u1
  have kc1 := HKC.out.old u1
  have x0 := ka1.cell 0
  have x1 := ka1.cell 1
  have y0 := kb1.cell 0
  have y1 := kb1.cell 1
  have z0 := kc1.cell 0
  have z1 := kc1.cell 1
  simp only [List.getElem?_cons_zero, List.getElem?_cons_succ] at x0 x1 y0 y1 z0 z1
  have HB1 := hide (HB.out.trans (u1.mono HB.out.size))
  have HKA1 := hide ka1
  have HKB1 := hide kb1
  have HKC1 := hide kc1
  clear u1 ka1 kb1 kc1 HCA HB HKA HKB HKC
  go_wp2_with fail
  refine (HC1.out w1).mono ?_
  rintro e w2 ⟨rfl, u2⟩
  obtain ⟨W3, hW3⟩ : ∃ W3, W3 = w2.alloc (.cells #[.bool sb, .string sv] 23) := ⟨_, rfl⟩
  have u3 : Below w2.heap.size w2 W3 := by rw [hW3]; exact (Below.refl _ w2).alloc (Nat.le_refl _) _
  have hb3 : Below w1.heap.size w1 W3 := u2.trans (u3.mono u2.size)
  have ka3 := HKA1.out.old hb3
  have kb3 := HKB1.out.old hb3
  have kc3 := HKC1.out.old hb3
  have kd3 : Ob W3 w2.heap.size 23 [.bool sb, .string sv] := by rw [hW3]; exact Ob.new w2 [.bool sb, .string sv] 23
  have HKD3 := hide kd3
  have HB3 := hide (HB1.out.trans (hb3.mono HB1.out.size))
  rw [hW3] at ka3 kb3 kc3
  clear x0 x1 y0 y1 z0 z1
  have x0 := ka3.cell 0
  have x1 := ka3.cell 1
  have y0 := kb3.cell 0
  have y1 := kb3.cell 1
  have z0 := kc3.cell 0
  have z1 := kc3.cell 1
  simp only [List.getElem?_cons_zero, List.getElem?_cons_succ] at x0 x1 y0 y1 z0 z1
  clear u2 u3 hb3 ka3 kb3 kc3 kd3 HC1 HB1 HKA1 HKB1 HKC1
  go_wp2_with fail
  rw [← hW3]
  clear hW3
  refine (HC2.out W3).mono ?_
  rintro e w4 ⟨rfl, u4⟩
  obtain ⟨W5, hW5⟩ : ∃ W5, W5 = w4.alloc (.cells #[.bool sb, .string sv] 23) := ⟨_, rfl⟩
  have u5 : Below w4.heap.size w4 W5 := by rw [hW5]; exact (Below.refl _ w4).alloc (Nat.le_refl _) _
  have hb5 : Below W3.heap.size W3 W5 := u4.trans (u5.mono u4.size)
  have kd5 := HKD3.out.old hb5
  have HF := hide (HB3.out.trans (hb5.mono HB3.out.size))
  rw [hW5] at kd5 HF
  have r0 := kd5.cell 0
  have r1 := kd5.cell 1
  simp only [List.getElem?_cons_zero, List.getElem?_cons_succ] at r0 r1
  clear u4 u5 hb5 kd5 hW5 HKD3 x0 x1 y0 y1 z0 z1 HB3 HC2
  have hbb : (is == is) = true := by simp
  go_wp2
  go_ret
  refine ⟨?_, HF.out⟩
  simp
end Go.Proofs.Ytoneedobhopkkaa
