/- MergeIdle, over the translation. -/
import Derived.Test.YtoneedobhopkkaaMMg
import Derived.Test.YtoneedobhopkkaaMWa
import Derived.Test.YtoneedobhopkkaaMMp
namespace Go.Proofs.Ytoneedobhopkkaa
open Go.RowKit Apo
open Classical in
set_option maxRecDepth 100000 in
set_option maxHeartbeats 8000000 in
theorem mergeIdle12 (w : World) (x y : EsA) (hx : OkEs w x) (hy : OkEs w y) : Calls Try.prog 7 #[.slice x.a x.l.length x.c, .slice y.a y.l.length y.c] w fun e w' => e = .returned (.bool true) ∧ Below w.heap.size w w' := by
  have CM0 : ∀ W, Below w.heap.size w W → Calls Try.prog 11 #[.slice x.a x.l.length x.c] W fun e w' => e = .returned (.bool (mapB x.l)) ∧ Below W.heap.size W w' := fun W u => map11 W x (hx.below u)
  have CM1 : ∀ W, Below w.heap.size w W → Calls Try.prog 11 #[.slice y.a y.l.length y.c] W fun e w' => e = .returned (.bool (mapB y.l)) ∧ Below W.heap.size W w' := fun W u => map11 W y (hy.below u)
  have CA := awake12 w
  have HCA := hide CA
  have HOx := hide hx
  obtain ⟨n0, hn0⟩ : ∃ n, n = x.l.length := ⟨_, rfl⟩
  have HN0 := hide hn0
  rw [← hn0] at CM0 ⊢
  have HM0 := hide CM0
  have HOy := hide hy
  obtain ⟨n1, hn1⟩ : ∃ n, n = y.l.length := ⟨_, rfl⟩
  have HN1 := hide hn1
  rw [← hn1] at CM1 ⊢
  have HM1 := hide CM1
  clear CA CM0 hn0 hx CM1 hn1 hy
  cases q0 : mapB x.l with
  | false =>
    rw [q0] at HM0
    clear q0
    go_enter Try.func7, Try.ntmps7
    go_wp2_with fail
    refine HCA.out.mono ?_
    rintro e' w0 ⟨rfl, u0⟩
    have HU0 := hide u0
    have HK0 := hide (HM0.out w0 u0)
    clear u0
    go_wp2_with fail
    refine HK0.out.mono ?_
    rintro e' w1 ⟨rfl, t1⟩
    have u1 := HU0.out.trans (t1.mono HU0.out.size)
    clear t1 HK0 HU0 HM0
    have HF := hide u1
    clear u1
    go_wp2
    go_ret
    exact ⟨rfl, HF.out⟩
  | true =>
    rw [q0] at HM0
    have HX0 := hide (mapB_ok q0)
    clear q0
    cases q1 : mapB y.l with
    | false =>
      rw [q1] at HM1
      clear q1
      go_enter Try.func7, Try.ntmps7
      go_wp2_with fail
      refine HCA.out.mono ?_
      rintro e' w0 ⟨rfl, u0⟩
      have HU0 := hide u0
      have HK0 := hide (HM0.out w0 u0)
      clear u0
      go_wp2_with fail
      refine HK0.out.mono ?_
      rintro e' w1 ⟨rfl, t1⟩
      have u1 := HU0.out.trans (t1.mono HU0.out.size)
      clear t1 HK0 HU0 HM0
      have HU1 := hide u1
      have HK1 := hide (HM1.out w1 u1)
      clear u1
      go_wp2_with fail
      refine HK1.out.mono ?_
      rintro e' w2 ⟨rfl, t2⟩
      have u2 := HU1.out.trans (t2.mono HU1.out.size)
      clear t2 HK1 HU1 HM1
      have HF := hide u2
      clear u2
      go_wp2
      go_ret
      exact ⟨rfl, HF.out⟩
    | true =>
      rw [q1] at HM1
      have HX1 := hide (mapB_ok q1)
      clear q1
      go_enter Try.func7, Try.ntmps7
      go_wp2_with fail
      refine HCA.out.mono ?_
      rintro e' w0 ⟨rfl, u0⟩
      have HU0 := hide u0
      have HK0 := hide (HM0.out w0 u0)
      clear u0
      go_wp2_with fail
      refine HK0.out.mono ?_
      rintro e' w1 ⟨rfl, t1⟩
      have u1 := HU0.out.trans (t1.mono HU0.out.size)
      clear t1 HK0 HU0 HM0
      have HU1 := hide u1
      have HK1 := hide (HM1.out w1 u1)
      clear u1
      go_wp2_with fail
      refine HK1.out.mono ?_
      rintro e' w2 ⟨rfl, t2⟩
      have u2 := HU1.out.trans (t2.mono HU1.out.size)
      clear t2 HK1 HU1 HM1
      have HBM := hide u2
      clear u2 HCA
      have C1 := mof_any w2 x.a x.a x.a x.c x.c x.c x.l x.l x.l (HOx.out.below HBM.out).rd (HOx.out.below HBM.out).rd (HOx.out.below HBM.out).rd (by have := HX0.out.1; omega) (by have := HX0.out.1; omega) (by have := HX0.out.1; omega) HX0.out.2.2 HX0.out.2.2 HX0.out.2.2 (fun e he => (HOx.out.sz e he).1) (fun e he => (HOx.out.sz e he).1) (fun e he => (HOx.out.sz e he).1)
      rw [← HN0.out] at C1
      have HC1 := hide C1
      clear C1
      go_wp2_with fail
      refine HC1.out.mono ?_
      rintro e' v1 ⟨ks1, va1, vc1, ua1, uc1, rfl, hks1, T1, t1⟩
      obtain ⟨E1, F1⟩ := tell_idle hks1 HX0.out.2.2
      rw [E1, F1] at T1 ⊢
      rw [List.length_nil, ← HN0.out]
      have HB1 := hide (HBM.out.trans (t1.mono HBM.out.size))
      have HR1 := hide T1.rd.1
      clear t1 T1 E1 F1 hks1 HC1
      have C2 := mof_any v1 y.a x.a x.a y.c x.c x.c y.l x.l x.l (HOy.out.below HB1.out).rd (HOx.out.below HB1.out).rd (HOx.out.below HB1.out).rd (by have := HX1.out.1; omega) (by have := HX0.out.1; omega) (by have := HX0.out.1; omega) HX1.out.2.2 HX0.out.2.2 HX0.out.2.2 (fun e he => (HOy.out.sz e he).1) (fun e he => (HOx.out.sz e he).1) (fun e he => (HOx.out.sz e he).1)
      rw [← HN0.out, ← HN1.out] at C2
      have HC2 := hide C2
      clear C2
      go_wp2_with fail
      refine HC2.out.mono ?_
      rintro e' v2 ⟨ks2, va2, vc2, ua2, uc2, rfl, hks2, T2, t2⟩
      obtain ⟨E2, F2⟩ := tell_idle hks2 HX0.out.2.2
      rw [E2, F2] at T2 ⊢
      rw [List.length_nil, ← HN0.out]
      have HB2 := hide (HB1.out.trans (t2.mono HB1.out.size))
      have HR2 := hide T2.rd.1
      have HR1_2 := hide (HR1.out.below t2)
      clear t2 T2 E2 F2 hks2 HC2
      have CS := sameEn_any va1 vc1 x.l x.a x.c x.l v2 HR1_2.out (HOx.out.below HB2.out).rd (by have := HX0.out.1; omega)
      have CT := fun W (u : Below v2.heap.size v2 W) => sameEn_any va2 vc2 x.l x.a x.c x.l W (HR2.out.below u) ((HOx.out.below HB2.out).rd.below u) (by have := HX0.out.1; omega)
      rw [decide_eq_true rfl, ← HN0.out] at CS CT
      have HCS := hide CS
      have HCT := hide CT
      clear CS CT HR1 HR2 HR1_2 HB1 HBM
      go_wp2_with fail
      refine HCS.out.mono ?_
      rintro e' v3 ⟨rfl, t3⟩
      have HCT' := hide (HCT.out v3 t3)
      have HB3 := hide (HB2.out.trans (t3.mono HB2.out.size))
      clear t3 HCT HCS HB2
      go_wp2_with fail
      refine HCT'.out.mono ?_
      rintro e' v4 ⟨rfl, t4⟩
      have HF := hide (HB3.out.trans (t4.mono HB3.out.size))
      clear t4 HCT' HB3
      go_wp2
      go_ret
      exact ⟨rfl, HF.out⟩
end Go.Proofs.Ytoneedobhopkkaa
