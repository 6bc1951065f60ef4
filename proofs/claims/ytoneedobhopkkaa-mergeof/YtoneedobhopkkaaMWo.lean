/- MergeOf, over the translation. -/
import Derived.Test.YtoneedobhopkkaaMMg
import Derived.Test.YtoneedobhopkkaaMRm
import Derived.Test.YtoneedobhopkkaaMWa
import Derived.Test.YtoneedobhopkkaaMMp
namespace Go.Proofs.Ytoneedobhopkkaa
open Go.RowKit Apo
open Classical in
set_option maxRecDepth 100000 in
set_option maxHeartbeats 8000000 in
theorem mergeOf12 (w : World) (x y z : EsA) (hx : OkEs w x) (hy : OkEs w y) (hz : OkEs w z) : Calls Try.prog 4 #[.slice x.a x.l.length x.c, .slice y.a y.l.length y.c, .slice z.a z.l.length z.c] w fun e w' => e = .returned (.bool true) ∧ Below w.heap.size w w' := by
  have CM0 : ∀ W, Below w.heap.size w W → Calls Try.prog 11 #[.slice x.a x.l.length x.c] W fun e w' => e = .returned (.bool (mapB x.l)) ∧ Below W.heap.size W w' := fun W u => map11 W x (hx.below u)
  have CM1 : ∀ W, Below w.heap.size w W → Calls Try.prog 11 #[.slice y.a y.l.length y.c] W fun e w' => e = .returned (.bool (mapB y.l)) ∧ Below W.heap.size W w' := fun W u => map11 W y (hy.below u)
  have CM2 : ∀ W, Below w.heap.size w W → Calls Try.prog 11 #[.slice z.a z.l.length z.c] W fun e w' => e = .returned (.bool (mapB z.l)) ∧ Below W.heap.size W w' := fun W u => map11 W z (hz.below u)
  have CA := awake12 w
  have HCA := hide CA
  have HOx := hide hx
  obtain ⟨n0, hn0⟩ : ∃ n, n = x.l.length := ⟨_, rfl⟩
  have HN0 := hide hn0
  rw [← hn0] at CM0 ⊢
  have HM0 := hide CM0
  have HOy := hide hy
  obtain ⟨n1, hn1⟩ : ∃ n, n = y.l.length := ⟨_, rfl⟩
  have HN1 := hide hn1
  rw [← hn1] at CM1 ⊢
  have HM1 := hide CM1
  have HOz := hide hz
  obtain ⟨n2, hn2⟩ : ∃ n, n = z.l.length := ⟨_, rfl⟩
  have HN2 := hide hn2
  rw [← hn2] at CM2 ⊢
  have HM2 := hide CM2
  clear CA CM0 hn0 hx CM1 hn1 hy CM2 hn2 hz
  cases q0 : mapB x.l with
  | false =>
    rw [q0] at HM0
    clear q0
    go_enter Try.func4, Try.ntmps4
    go_wp2_with fail
    refine HCA.out.mono ?_
    rintro e' w0 ⟨rfl, u0⟩
    have HU0 := hide u0
    have HK0 := hide (HM0.out w0 u0)
    clear u0
    go_wp2_with fail
    refine HK0.out.mono ?_
    rintro e' w1 ⟨rfl, t1⟩
    have u1 := HU0.out.trans (t1.mono HU0.out.size)
    clear t1 HK0 HU0 HM0
    have HF := hide u1
    clear u1
    go_wp2
    go_ret
    exact ⟨rfl, HF.out⟩
  | true =>
    rw [q0] at HM0
    have HX0 := hide (mapB_ok q0)
    clear q0
    cases q1 : mapB y.l with
    | false =>
      rw [q1] at HM1
      clear q1
      go_enter Try.func4, Try.ntmps4
      go_wp2_with fail
      refine HCA.out.mono ?_
      rintro e' w0 ⟨rfl, u0⟩
      have HU0 := hide u0
      have HK0 := hide (HM0.out w0 u0)
      clear u0
      go_wp2_with fail
      refine HK0.out.mono ?_
      rintro e' w1 ⟨rfl, t1⟩
      have u1 := HU0.out.trans (t1.mono HU0.out.size)
      clear t1 HK0 HU0 HM0
      have HU1 := hide u1
      have HK1 := hide (HM1.out w1 u1)
      clear u1
      go_wp2_with fail
      refine HK1.out.mono ?_
      rintro e' w2 ⟨rfl, t2⟩
      have u2 := HU1.out.trans (t2.mono HU1.out.size)
      clear t2 HK1 HU1 HM1
      have HF := hide u2
      clear u2
      go_wp2
      go_ret
      exact ⟨rfl, HF.out⟩
    | true =>
      rw [q1] at HM1
      have HX1 := hide (mapB_ok q1)
      clear q1
      cases q2 : mapB z.l with
      | false =>
        rw [q2] at HM2
        clear q2
        go_enter Try.func4, Try.ntmps4
        go_wp2_with fail
        refine HCA.out.mono ?_
        rintro e' w0 ⟨rfl, u0⟩
        have HU0 := hide u0
        have HK0 := hide (HM0.out w0 u0)
        clear u0
        go_wp2_with fail
        refine HK0.out.mono ?_
        rintro e' w1 ⟨rfl, t1⟩
        have u1 := HU0.out.trans (t1.mono HU0.out.size)
        clear t1 HK0 HU0 HM0
        have HU1 := hide u1
        have HK1 := hide (HM1.out w1 u1)
        clear u1
        go_wp2_with fail
        refine HK1.out.mono ?_
        rintro e' w2 ⟨rfl, t2⟩
        have u2 := HU1.out.trans (t2.mono HU1.out.size)
        clear t2 HK1 HU1 HM1
        have HU2 := hide u2
        have HK2 := hide (HM2.out w2 u2)
        clear u2
        go_wp2_with fail
        refine HK2.out.mono ?_
        rintro e' w3 ⟨rfl, t3⟩
        have u3 := HU2.out.trans (t3.mono HU2.out.size)
        clear t3 HK2 HU2 HM2
        have HF := hide u3
        clear u3
        go_wp2
        go_ret
        exact ⟨rfl, HF.out⟩
      | true =>
        rw [q2] at HM2
        have HX2 := hide (mapB_ok q2)
        clear q2
        go_enter Try.func4, Try.ntmps4
        go_wp2_with fail
        refine HCA.out.mono ?_
        rintro e' w0 ⟨rfl, u0⟩
        have HU0 := hide u0
        have HK0 := hide (HM0.out w0 u0)
        clear u0
        go_wp2_with fail
        refine HK0.out.mono ?_
        rintro e' w1 ⟨rfl, t1⟩
        have u1 := HU0.out.trans (t1.mono HU0.out.size)
        clear t1 HK0 HU0 HM0
        have HU1 := hide u1
        have HK1 := hide (HM1.out w1 u1)
        clear u1
        go_wp2_with fail
        refine HK1.out.mono ?_
        rintro e' w2 ⟨rfl, t2⟩
        have u2 := HU1.out.trans (t2.mono HU1.out.size)
        clear t2 HK1 HU1 HM1
        have HU2 := hide u2
        have HK2 := hide (HM2.out w2 u2)
        clear u2
        go_wp2_with fail
        refine HK2.out.mono ?_
        rintro e' w3 ⟨rfl, t3⟩
        have u3 := HU2.out.trans (t3.mono HU2.out.size)
        clear t3 HK2 HU2 HM2
        have HBM := hide u3
        clear u3 HCA
        have C1 := mof_any w3 x.a y.a z.a x.c y.c z.c x.l y.l z.l (HOx.out.below HBM.out).rd (HOy.out.below HBM.out).rd (HOz.out.below HBM.out).rd (by have := HX0.out.1; omega) (by have := HX1.out.1; omega) (by have := HX2.out.1; omega) HX0.out.2.2 HX1.out.2.2 HX2.out.2.2 (fun e he => (HOx.out.sz e he).1) (fun e he => (HOy.out.sz e he).1) (fun e he => (HOz.out.sz e he).1)
        rw [← HN0.out, ← HN1.out, ← HN2.out] at C1
        have HC1 := hide C1
        clear C1
        go_wp2_with fail
        refine HC1.out.mono ?_
        rintro e' v1 ⟨ks, va, vc, ua, uc, rfl, hks, T1, t1⟩
        have HB1 := hide (HBM.out.trans (t1.mono HBM.out.size))
        have C2 := rmerge_any v1 x.a y.a z.a x.c y.c z.c x.l y.l z.l (HOx.out.below HB1.out).rd (HOy.out.below HB1.out).rd (HOz.out.below HB1.out).rd (by have := HX0.out.1; omega) (by have := HX1.out.1; omega) (by have := HX2.out.1; omega) HX0.out.2.2 HX1.out.2.2 HX2.out.2.2
        rw [← HN0.out, ← HN1.out, ← HN2.out] at C2
        have HC2 := hide C2
        have HT1 := hide T1
        have HKS := hide hks
        obtain ⟨nm, hnm⟩ : ∃ n, n = (mL x.l y.l z.l ks).length := ⟨_, rfl⟩
        obtain ⟨nc, hnc⟩ : ∃ n, n = (cL x.l y.l z.l ks).length := ⟨_, rfl⟩
        rw [← hnm, ← hnc]
        have HNM := hide hnm
        have HNC := hide hnc
        clear C2 T1 hks t1 hnm hnc HC1 HBM
        go_wp2_with fail
        refine HC2.out.mono ?_
        rintro e' v2 ⟨ks', va', vc', ua', uc', rfl, hks', T2, t2⟩
        obtain rfl : ks = ks' := KsS.uniq HKS.out hks' (fun _ => Iff.rfl)
        have R1 := (HT1.out.below t2).rd
        have R2 := T2.rd
        have hml : (mL x.l y.l z.l ks).length ≤ 1000000 ∧ (cL x.l y.l z.l ks).length ≤ 1000000 := by
          have h1 := mL_len x.l y.l z.l ks
          have h2 := cL_len x.l y.l z.l ks
          have h3 := HKS.out.len
          have h4 := HX0.out.1
          have h5 := HX1.out.1
          have h6 := HX2.out.1
          simp [allK] at h3
          omega
        have HB2 := hide (HB1.out.trans (t2.mono HB1.out.size))
        have CS := sameEn_any va vc (mL x.l y.l z.l ks) va' vc' (mL x.l y.l z.l ks) v2 R1.1 R2.1 (by omega)
        have CT := fun W (u : Below v2.heap.size v2 W) => sameCl_any ua uc (cL x.l y.l z.l ks) ua' uc' (cL x.l y.l z.l ks) W (R1.2.below u) (R2.2.below u) (by omega)
        rw [decide_eq_true rfl, ← HNM.out] at CS
        rw [decide_eq_true rfl, ← HNC.out] at CT
        rw [← HNM.out, ← HNC.out]
        have HCS := hide CS
        have HCT := hide CT
        clear CS CT R1 R2 T2 t2 hml HC2 HT1 hks' HB1
        go_wp2_with fail
        refine HCS.out.mono ?_
        rintro e' v3 ⟨rfl, t3⟩
        have HCT' := hide (HCT.out v3 t3)
        have HB3 := hide (HB2.out.trans (t3.mono HB2.out.size))
        clear t3 HCT HCS HB2
        go_wp2_with fail
        refine HCT'.out.mono ?_
        rintro e' v4 ⟨rfl, t4⟩
        have HF := hide (HB3.out.trans (t4.mono HB3.out.size))
        clear t4 HCT' HB3
        go_wp2
        go_ret
        exact ⟨rfl, HF.out⟩
end Go.Proofs.Ytoneedobhopkkaa
