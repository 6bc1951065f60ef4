/- MergeSides, over the translation. -/
import Derived.Test.YtoneedobhopkkaaMMg
import Derived.Test.YtoneedobhopkkaaMWa
import Derived.Test.YtoneedobhopkkaaMMp
namespace Go.Proofs.Ytoneedobhopkkaa
open Go.RowKit Apo
open Classical in
set_option maxRecDepth 100000 in
set_option maxHeartbeats 8000000 in
theorem mergeSides12 (w : World) (x y z : EsA) (key : ByteArray) (hx : OkEs w x) (hy : OkEs w y) (hz : OkEs w z) : Calls Try.prog 6 #[.slice x.a x.l.length x.c, .slice y.a y.l.length y.c, .slice z.a z.l.length z.c, .string key] w fun e w' => e = .returned (.bool true) ∧ Below w.heap.size w w' := by
  have CM0 : ∀ W, Below w.heap.size w W → Calls Try.prog 11 #[.slice x.a x.l.length x.c] W fun e w' => e = .returned (.bool (mapB x.l)) ∧ Below W.heap.size W w' := fun W u => map11 W x (hx.below u)
  have CM1 : ∀ W, Below w.heap.size w W → Calls Try.prog 11 #[.slice y.a y.l.length y.c] W fun e w' => e = .returned (.bool (mapB y.l)) ∧ Below W.heap.size W w' := fun W u => map11 W y (hy.below u)
  have CM2 : ∀ W, Below w.heap.size w W → Calls Try.prog 11 #[.slice z.a z.l.length z.c] W fun e w' => e = .returned (.bool (mapB z.l)) ∧ Below W.heap.size W w' := fun W u => map11 W z (hz.below u)
  have CA := awake12 w
  have HCA := hide CA
  have HOx := hide hx
  obtain ⟨n0, hn0⟩ : ∃ n, n = x.l.length := ⟨_, rfl⟩
  have HN0 := hide hn0
  rw [← hn0] at CM0 ⊢
  have HM0 := hide CM0
  have HOy := hide hy
  obtain ⟨n1, hn1⟩ : ∃ n, n = y.l.length := ⟨_, rfl⟩
  have HN1 := hide hn1
  rw [← hn1] at CM1 ⊢
  have HM1 := hide CM1
  have HOz := hide hz
  obtain ⟨n2, hn2⟩ : ∃ n, n = z.l.length := ⟨_, rfl⟩
  have HN2 := hide hn2
  rw [← hn2] at CM2 ⊢
  have HM2 := hide CM2
  clear CA CM0 hn0 hx CM1 hn1 hy CM2 hn2 hz
  cases q0 : mapB x.l with
  | false =>
    rw [q0] at HM0
    clear q0
    go_enter Try.func6, Try.ntmps6
    go_wp2_with fail
    refine HCA.out.mono ?_
    rintro e' w0 ⟨rfl, u0⟩
    have HU0 := hide u0
    have HK0 := hide (HM0.out w0 u0)
    clear u0
    go_wp2_with fail
    refine HK0.out.mono ?_
    rintro e' w1 ⟨rfl, t1⟩
    have u1 := HU0.out.trans (t1.mono HU0.out.size)
    clear t1 HK0 HU0 HM0
    have HF := hide u1
    clear u1
    go_wp2
    go_ret
    exact ⟨rfl, HF.out⟩
  | true =>
    rw [q0] at HM0
    have HX0 := hide (mapB_ok q0)
    clear q0
    cases q1 : mapB y.l with
    | false =>
      rw [q1] at HM1
      clear q1
      go_enter Try.func6, Try.ntmps6
      go_wp2_with fail
      refine HCA.out.mono ?_
      rintro e' w0 ⟨rfl, u0⟩
      have HU0 := hide u0
      have HK0 := hide (HM0.out w0 u0)
      clear u0
      go_wp2_with fail
      refine HK0.out.mono ?_
      rintro e' w1 ⟨rfl, t1⟩
      have u1 := HU0.out.trans (t1.mono HU0.out.size)
      clear t1 HK0 HU0 HM0
      have HU1 := hide u1
      have HK1 := hide (HM1.out w1 u1)
      clear u1
      go_wp2_with fail
      refine HK1.out.mono ?_
      rintro e' w2 ⟨rfl, t2⟩
      have u2 := HU1.out.trans (t2.mono HU1.out.size)
      clear t2 HK1 HU1 HM1
      have HF := hide u2
      clear u2
      go_wp2
      go_ret
      exact ⟨rfl, HF.out⟩
    | true =>
      rw [q1] at HM1
      have HX1 := hide (mapB_ok q1)
      clear q1
      cases q2 : mapB z.l with
      | false =>
        rw [q2] at HM2
        clear q2
        go_enter Try.func6, Try.ntmps6
        go_wp2_with fail
        refine HCA.out.mono ?_
        rintro e' w0 ⟨rfl, u0⟩
        have HU0 := hide u0
        have HK0 := hide (HM0.out w0 u0)
        clear u0
        go_wp2_with fail
        refine HK0.out.mono ?_
        rintro e' w1 ⟨rfl, t1⟩
        have u1 := HU0.out.trans (t1.mono HU0.out.size)
        clear t1 HK0 HU0 HM0
        have HU1 := hide u1
        have HK1 := hide (HM1.out w1 u1)
        clear u1
        go_wp2_with fail
        refine HK1.out.mono ?_
        rintro e' w2 ⟨rfl, t2⟩
        have u2 := HU1.out.trans (t2.mono HU1.out.size)
        clear t2 HK1 HU1 HM1
        have HU2 := hide u2
        have HK2 := hide (HM2.out w2 u2)
        clear u2
        go_wp2_with fail
        refine HK2.out.mono ?_
        rintro e' w3 ⟨rfl, t3⟩
        have u3 := HU2.out.trans (t3.mono HU2.out.size)
        clear t3 HK2 HU2 HM2
        have HF := hide u3
        clear u3
        go_wp2
        go_ret
        exact ⟨rfl, HF.out⟩
      | true =>
        rw [q2] at HM2
        have HX2 := hide (mapB_ok q2)
        clear q2
        go_enter Try.func6, Try.ntmps6
        go_wp2_with fail
        refine HCA.out.mono ?_
        rintro e' w0 ⟨rfl, u0⟩
        have HU0 := hide u0
        have HK0 := hide (HM0.out w0 u0)
        clear u0
        go_wp2_with fail
        refine HK0.out.mono ?_
        rintro e' w1 ⟨rfl, t1⟩
        have u1 := HU0.out.trans (t1.mono HU0.out.size)
        clear t1 HK0 HU0 HM0
        have HU1 := hide u1
        have HK1 := hide (HM1.out w1 u1)
        clear u1
        go_wp2_with fail
        refine HK1.out.mono ?_
        rintro e' w2 ⟨rfl, t2⟩
        have u2 := HU1.out.trans (t2.mono HU1.out.size)
        clear t2 HK1 HU1 HM1
        have HU2 := hide u2
        have HK2 := hide (HM2.out w2 u2)
        clear u2
        go_wp2_with fail
        refine HK2.out.mono ?_
        rintro e' w3 ⟨rfl, t3⟩
        have u3 := HU2.out.trans (t3.mono HU2.out.size)
        clear t3 HK2 HU2 HM2
        have HBM := hide u3
        clear u3 HCA
        by_cases hk : 60 < key.size
        · have hd : decide ((60 : Int) < (key.size : Int)) = true := decide_eq_true (by omega)
          clear hk
          go_wp2
          go_ret
          exact ⟨rfl, HBM.out⟩
        · have hd : decide ((60 : Int) < (key.size : Int)) = false := decide_eq_false (by omega)
          have C1 := mof_any w3 x.a y.a z.a x.c y.c z.c x.l y.l z.l (HOx.out.below HBM.out).rd (HOy.out.below HBM.out).rd (HOz.out.below HBM.out).rd (by have := HX0.out.1; omega) (by have := HX1.out.1; omega) (by have := HX2.out.1; omega) HX0.out.2.2 HX1.out.2.2 HX2.out.2.2 (fun e he => (HOx.out.sz e he).1) (fun e he => (HOy.out.sz e he).1) (fun e he => (HOz.out.sz e he).1)
          rw [← HN0.out, ← HN1.out, ← HN2.out] at C1
          have HC1 := hide C1
          clear C1
          go_wp2_with fail
          refine HC1.out.mono ?_
          rintro e' v1 ⟨ks, va, vc, ua, uc, rfl, hks, T1, t1⟩
          have HB1 := hide (HBM.out.trans (t1.mono HBM.out.size))
          have HR1 := hide T1.rd.1
          have HKS := hide hks
          have hml : (mL x.l y.l z.l ks).length ≤ 1000000 := by
            have h1 := mL_len x.l y.l z.l ks
            have h3 := HKS.out.len
            have h4 := HX0.out.1
            have h5 := HX1.out.1
            have h6 := HX2.out.1
            simp [allK] at h3
            omega
          have CG0 := fun W (u : Below v1.heap.size v1 W) => rget_any W x.a x.c x.l key ((HOx.out.below HB1.out).rd.below u) (by have := HX0.out.1; omega)
          have CG1 := fun W (u : Below v1.heap.size v1 W) => rget_any W y.a y.c y.l key ((HOy.out.below HB1.out).rd.below u) (by have := HX1.out.1; omega)
          have CG2 := fun W (u : Below v1.heap.size v1 W) => rget_any W z.a z.c z.l key ((HOz.out.below HB1.out).rd.below u) (by have := HX2.out.1; omega)
          have CG3 := fun W (u : Below v1.heap.size v1 W) => rget_any W va vc (mL x.l y.l z.l ks) key (HR1.out.below u) hml
          obtain ⟨nm, hnm⟩ : ∃ n, n = (mL x.l y.l z.l ks).length := ⟨_, rfl⟩
          rw [← hnm]
          rw [← hnm] at CG3
          rw [← HN0.out] at CG0
          rw [← HN1.out] at CG1
          rw [← HN2.out] at CG2
          generalize (cL x.l y.l z.l ks).length = nc
          have HG0 := hide CG0
          have HG1 := hide CG1
          have HG2 := hide CG2
          have HG3 := hide CG3
          clear CG0 CG1 CG2 CG3 T1 hks t1 hnm hml HC1 HBM HR1
          have HK0 := hide (HG0.out v1 (Below.refl _ _))
          go_wp2_with fail
          refine HK0.out.mono ?_
          rintro e' g0 ⟨p0, d0, rfl, q0, t0⟩
          have HE0 := hide (gS_of HX0.out.2.2 q0)
          have HU0 := hide t0
          clear q0 t0 HK0 HG0
          have HK1 := hide (HG1.out g0 HU0.out)
          go_wp2_with fail
          refine HK1.out.mono ?_
          rintro e' g1 ⟨p1, d1, rfl, q1, t1⟩
          have HE1 := hide (gS_of HX1.out.2.2 q1)
          have HU1 := hide (HU0.out.trans (t1.mono HU0.out.size))
          clear q1 t1 HK1 HG1 HU0
          have HK2 := hide (HG2.out g1 HU1.out)
          go_wp2_with fail
          refine HK2.out.mono ?_
          rintro e' g2 ⟨p2, d2, rfl, q2, t2⟩
          have HE2 := hide (gS_of HX2.out.2.2 q2)
          have HU2 := hide (HU1.out.trans (t2.mono HU1.out.size))
          clear q2 t2 HK2 HG2 HU1
          have HK3 := hide (HG3.out g2 HU2.out)
          go_wp2_with fail
          refine HK3.out.mono ?_
          rintro e' g3 ⟨p3, d3, rfl, q3, t3⟩
          have HE3 := hide (gS_of (mL_rise HKS.out.rise) q3)
          have HU3 := hide (HU2.out.trans (t3.mono HU2.out.size))
          clear q3 t3 HK3 HG3 HU2
          have hD := get_mL HKS.out key
          rw [HE3.out] at hD
          unfold pk at hD
          rw [HE0.out, HE1.out, HE2.out] at hD
          have hsd := pickP_sides ⟨d0, p0⟩ ⟨d1, p1⟩ ⟨d2, p2⟩
          rw [← hD] at hsd
          have HF : Hid (Below w.heap.size w ((((g3.alloc (.cells #[.bool d0, .string p0] 23)).alloc (.cells #[.bool d1, .string p1] 23)).alloc (.cells #[.bool d2, .string p2] 23)).alloc (.cells #[.bool d3, .string p3] 23))) := hide (by
            have h1 := HB1.out.trans (HU3.out.mono HB1.out.size)
            exact (((h1.alloc h1.size _).alloc (by have := h1.size; simp; omega) _).alloc (by have := h1.size; simp; omega) _).alloc (by have := h1.size; simp; omega) _)
          have hgd : Try.prog.eqGuardType Try.prog.depth 23 = false := by kernel_rfl
          have e1 := eqlSd d1 d0 p1 p0
          have e2 := eqlSd d3 d2 p3 p2
          have e3 := neqSd d2 d0 p2 p0
          have e4 := eqlSd d3 d1 p3 p1
          have HD := hide hsd
          clear hsd hD HB1 HU3 HE0 HE1 HE2 HE3 HKS hd hk
          by_cases h1 : (⟨d1, p1⟩ : Si) = ⟨d0, p0⟩
          · have h2 := HD.out.1 h1
            rw [decide_eq_true ((Si.eq_iff ⟨d1, p1⟩ ⟨d0, p0⟩).2 h1)] at e1
            rw [decide_eq_true ((Si.eq_iff ⟨d3, p3⟩ ⟨d2, p2⟩).2 h2)] at e2
            clear h1 h2 HD e3 e4
            go_wp2
            go_ret
            exact ⟨rfl, HF.out⟩
          · rw [decide_eq_false (fun q => h1 ((Si.eq_iff ⟨d1, p1⟩ ⟨d0, p0⟩).1 q))] at e1
            by_cases h3 : (⟨d2, p2⟩ : Si) = ⟨d0, p0⟩
            · have h4 := (HD.out.2 h1).resolve_left (fun q => q h3)
              rw [decide_eq_true ((Si.eq_iff ⟨d2, p2⟩ ⟨d0, p0⟩).2 h3), Bool.not_true] at e3
              rw [decide_eq_true ((Si.eq_iff ⟨d3, p3⟩ ⟨d1, p1⟩).2 h4)] at e4
              clear h1 h3 h4 HD e2
              go_wp2
              go_ret
              exact ⟨rfl, HF.out⟩
            · rw [decide_eq_false (fun q => h3 ((Si.eq_iff ⟨d2, p2⟩ ⟨d0, p0⟩).1 q)), Bool.not_false] at e3
              clear h1 h3 HD e2 e4
              go_wp2
              go_ret
              exact ⟨rfl, HF.out⟩
end Go.Proofs.Ytoneedobhopkkaa
