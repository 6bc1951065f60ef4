/- MergeTurned, over the translation. -/
import Derived.Test.YtoneedobhopkkaaMMg
import Derived.Test.YtoneedobhopkkaaMWa
import Derived.Test.YtoneedobhopkkaaMMp
namespace Go.Proofs.Ytoneedobhopkkaa
open Go.RowKit Apo
open Classical in
set_option maxRecDepth 100000 in
set_option maxHeartbeats 8000000 in
theorem mergeTurned12 (w : World) (x y z : EsA) (hx : OkEs w x) (hy : OkEs w y) (hz : OkEs w z) : Calls Try.prog 5 #[.slice x.a x.l.length x.c, .slice y.a y.l.length y.c, .slice z.a z.l.length z.c] w fun e w' => e = .returned (.bool true) ∧ Below w.heap.size w w' := by
  have CM0 : ∀ W, Below w.heap.size w W → Calls Try.prog 11 #[.slice x.a x.l.length x.c] W fun e w' => e = .returned (.bool (mapB x.l)) ∧ Below W.heap.size W w' := fun W u => map11 W x (hx.below u)
  have CM1 : ∀ W, Below w.heap.size w W → Calls Try.prog 11 #[.slice y.a y.l.length y.c] W fun e w' => e = .returned (.bool (mapB y.l)) ∧ Below W.heap.size W w' := fun W u => map11 W y (hy.below u)
  have CM2 : ∀ W, Below w.heap.size w W → Calls Try.prog 11 #[.slice z.a z.l.length z.c] W fun e w' => e = .returned (.bool (mapB z.l)) ∧ Below W.heap.size W w' := fun W u => map11 W z (hz.below u)
  have CA := awake12 w
  have HCA := hide CA
  have HOx := hide hx
  obtain ⟨n0, hn0⟩ : ∃ n, n = x.l.length := ⟨_, rfl⟩
  have HN0 := hide hn0
  rw [← hn0] at CM0 ⊢
  have HM0 := hide CM0
  have HOy := hide hy
  obtain ⟨n1, hn1⟩ : ∃ n, n = y.l.length := ⟨_, rfl⟩
  have HN1 := hide hn1
  rw [← hn1] at CM1 ⊢
  have HM1 := hide CM1
  have HOz := hide hz
  obtain ⟨n2, hn2⟩ : ∃ n, n = z.l.length := ⟨_, rfl⟩
  have HN2 := hide hn2
  rw [← hn2] at CM2 ⊢
  have HM2 := hide CM2
  clear CA CM0 hn0 hx CM1 hn1 hy CM2 hn2 hz
  cases q0 : mapB x.l with
  | false =>
    rw [q0] at HM0
    clear q0
    go_enter Try.func5, Try.ntmps5
    go_wp2_with fail
    refine HCA.out.mono ?_
    rintro e' w0 ⟨rfl, u0⟩
    have HU0 := hide u0
    have HK0 := hide (HM0.out w0 u0)
    clear u0
    go_wp2_with fail
    refine HK0.out.mono ?_
    rintro e' w1 ⟨rfl, t1⟩
    have u1 := HU0.out.trans (t1.mono HU0.out.size)
    clear t1 HK0 HU0 HM0
    have HF := hide u1
    clear u1
    go_wp2
    go_ret
    exact ⟨rfl, HF.out⟩
  | true =>
    rw [q0] at HM0
    have HX0 := hide (mapB_ok q0)
    clear q0
    cases q1 : mapB y.l with
    | false =>
      rw [q1] at HM1
      clear q1
      go_enter Try.func5, Try.ntmps5
      go_wp2_with fail
      refine HCA.out.mono ?_
      rintro e' w0 ⟨rfl, u0⟩
      have HU0 := hide u0
      have HK0 := hide (HM0.out w0 u0)
      clear u0
      go_wp2_with fail
      refine HK0.out.mono ?_
      rintro e' w1 ⟨rfl, t1⟩
      have u1 := HU0.out.trans (t1.mono HU0.out.size)
      clear t1 HK0 HU0 HM0
      have HU1 := hide u1
      have HK1 := hide (HM1.out w1 u1)
      clear u1
      go_wp2_with fail
      refine HK1.out.mono ?_
      rintro e' w2 ⟨rfl, t2⟩
      have u2 := HU1.out.trans (t2.mono HU1.out.size)
      clear t2 HK1 HU1 HM1
      have HF := hide u2
      clear u2
      go_wp2
      go_ret
      exact ⟨rfl, HF.out⟩
    | true =>
      rw [q1] at HM1
      have HX1 := hide (mapB_ok q1)
      clear q1
      cases q2 : mapB z.l with
      | false =>
        rw [q2] at HM2
        clear q2
        go_enter Try.func5, Try.ntmps5
        go_wp2_with fail
        refine HCA.out.mono ?_
        rintro e' w0 ⟨rfl, u0⟩
        have HU0 := hide u0
        have HK0 := hide (HM0.out w0 u0)
        clear u0
        go_wp2_with fail
        refine HK0.out.mono ?_
        rintro e' w1 ⟨rfl, t1⟩
        have u1 := HU0.out.trans (t1.mono HU0.out.size)
        clear t1 HK0 HU0 HM0
        have HU1 := hide u1
        have HK1 := hide (HM1.out w1 u1)
        clear u1
        go_wp2_with fail
        refine HK1.out.mono ?_
        rintro e' w2 ⟨rfl, t2⟩
        have u2 := HU1.out.trans (t2.mono HU1.out.size)
        clear t2 HK1 HU1 HM1
        have HU2 := hide u2
        have HK2 := hide (HM2.out w2 u2)
        clear u2
        go_wp2_with fail
        refine HK2.out.mono ?_
        rintro e' w3 ⟨rfl, t3⟩
        have u3 := HU2.out.trans (t3.mono HU2.out.size)
        clear t3 HK2 HU2 HM2
        have HF := hide u3
        clear u3
        go_wp2
        go_ret
        exact ⟨rfl, HF.out⟩
      | true =>
        rw [q2] at HM2
        have HX2 := hide (mapB_ok q2)
        clear q2
        go_enter Try.func5, Try.ntmps5
        go_wp2_with fail
        refine HCA.out.mono ?_
        rintro e' w0 ⟨rfl, u0⟩
        have HU0 := hide u0
        have HK0 := hide (HM0.out w0 u0)
        clear u0
        go_wp2_with fail
        refine HK0.out.mono ?_
        rintro e' w1 ⟨rfl, t1⟩
        have u1 := HU0.out.trans (t1.mono HU0.out.size)
        clear t1 HK0 HU0 HM0
        have HU1 := hide u1
        have HK1 := hide (HM1.out w1 u1)
        clear u1
        go_wp2_with fail
        refine HK1.out.mono ?_
        rintro e' w2 ⟨rfl, t2⟩
        have u2 := HU1.out.trans (t2.mono HU1.out.size)
        clear t2 HK1 HU1 HM1
        have HU2 := hide u2
        have HK2 := hide (HM2.out w2 u2)
        clear u2
        go_wp2_with fail
        refine HK2.out.mono ?_
        rintro e' w3 ⟨rfl, t3⟩
        have u3 := HU2.out.trans (t3.mono HU2.out.size)
        clear t3 HK2 HU2 HM2
        have HBM := hide u3
        clear u3 HCA
        have C1 := mof_any w3 x.a y.a z.a x.c y.c z.c x.l y.l z.l (HOx.out.below HBM.out).rd (HOy.out.below HBM.out).rd (HOz.out.below HBM.out).rd (by have := HX0.out.1; omega) (by have := HX1.out.1; omega) (by have := HX2.out.1; omega) HX0.out.2.2 HX1.out.2.2 HX2.out.2.2 (fun e he => (HOx.out.sz e he).1) (fun e he => (HOy.out.sz e he).1) (fun e he => (HOz.out.sz e he).1)
        rw [← HN0.out, ← HN1.out, ← HN2.out] at C1
        have HC1 := hide C1
        clear C1
        go_wp2_with fail
        refine HC1.out.mono ?_
        rintro e' v1 ⟨ks, va, vc, ua, uc, rfl, hks, T1, t1⟩
        have HB1 := hide (HBM.out.trans (t1.mono HBM.out.size))
        have HT1 := hide T1.rd
        have HKS := hide hks
        obtain ⟨M1, hM1⟩ : ∃ l, l = mL x.l y.l z.l ks := ⟨_, rfl⟩
        obtain ⟨K1, hK1⟩ : ∃ l, l = cL x.l y.l z.l ks := ⟨_, rfl⟩
        rw [← hM1, ← hK1] at HT1 ⊢
        have HM1 := hide hM1
        have HK1 := hide hK1
        obtain ⟨nm, hnm⟩ : ∃ n, n = M1.length := ⟨_, rfl⟩
        obtain ⟨nc, hnc⟩ : ∃ n, n = K1.length := ⟨_, rfl⟩
        rw [← hnm, ← hnc]
        have HNM := hide hnm
        have HNC := hide hnc
        clear T1 hks t1 HC1 HBM hM1 hK1 hnm hnc
        have C2 := mof_any v1 x.a z.a y.a x.c z.c y.c x.l z.l y.l (HOx.out.below HB1.out).rd (HOz.out.below HB1.out).rd (HOy.out.below HB1.out).rd (by have := HX0.out.1; omega) (by have := HX2.out.1; omega) (by have := HX1.out.1; omega) HX0.out.2.2 HX2.out.2.2 HX1.out.2.2 (fun e he => (HOx.out.sz e he).1) (fun e he => (HOz.out.sz e he).1) (fun e he => (HOy.out.sz e he).1)
        rw [← HN0.out, ← HN1.out, ← HN2.out] at C2
        have HC2 := hide C2
        clear C2
        go_wp2_with fail
        refine HC2.out.mono ?_
        rintro e' v2 ⟨ks', va', vc', ua', uc', rfl, hks', T2, t2⟩
        obtain rfl : ks = ks' := KsS.uniq HKS.out hks' (fun k => allK_turn k |>.symm)
        have HB2 := hide (HB1.out.trans (t2.mono HB1.out.size))
        have HT2 := hide T2.rd
        have HT1' := hide (And.intro (HT1.out.1.below t2) (HT1.out.2.below t2))
        obtain ⟨M2, hM2⟩ : ∃ l, l = mL x.l z.l y.l ks := ⟨_, rfl⟩
        have hct := cL_turn x.l y.l z.l ks
        rw [← HK1.out] at hct
        rw [← hM2, hct] at HT2 ⊢
        have HM2 : Hid (K1 = [] → M2 = M1) := hide (fun h => by rw [hM2, HM1.out]; exact mL_turn (by rw [← HK1.out]; exact h))
        obtain ⟨nm2, hnm2⟩ : ∃ n, n = M2.length := ⟨_, rfl⟩
        rw [List.length_map, ← hnm2, ← HNC.out]
        have HNM2 := hide hnm2
        have hlen : M1.length ≤ 1000000 ∧ nc ≤ 1000000 := by
          have h0 := mL_len x.l y.l z.l ks
          have h1 := cL_len x.l y.l z.l ks
          have h2 := HKS.out.len
          have h4 := HX0.out.1
          have h5 := HX1.out.1
          have h6 := HX2.out.1
          rw [← HM1.out] at h0
          rw [← HK1.out, ← HNC.out] at h1
          simp [allK] at h2
          omega
        have HLE := hide hlen
        clear T2 hks' t2 HC2 hM2 hct hnm2 HT1 HB1 HM1 HK1 HKS hlen
        have C3 := mof_any v2 x.a y.a x.a x.c y.c x.c x.l y.l x.l (HOx.out.below HB2.out).rd (HOy.out.below HB2.out).rd (HOx.out.below HB2.out).rd (by have := HX0.out.1; omega) (by have := HX1.out.1; omega) (by have := HX0.out.1; omega) HX0.out.2.2 HX1.out.2.2 HX0.out.2.2 (fun e he => (HOx.out.sz e he).1) (fun e he => (HOy.out.sz e he).1) (fun e he => (HOx.out.sz e he).1)
        rw [← HN0.out, ← HN1.out] at C3
        have HC3 := hide C3
        clear C3
        go_wp2_with fail
        refine HC3.out.mono ?_
        rintro e' v3 ⟨ks3, va3, vc3, ua3, uc3, rfl, hks3, T3, t3⟩
        obtain ⟨E3, F3⟩ := tell_ours hks3 HX1.out.2.2
        rw [E3, F3] at T3 ⊢
        rw [List.length_nil, ← HN1.out]
        have HB3 := hide (HB2.out.trans (t3.mono HB2.out.size))
        have HR3 := hide T3.rd.1
        have HT1b := hide (And.intro (HT1'.out.1.below t3) (HT1'.out.2.below t3))
        have HT2b := hide (And.intro (HT2.out.1.below t3) (HT2.out.2.below t3))
        clear t3 T3 E3 F3 hks3 HC3
        have C4 := mof_any v3 x.a x.a z.a x.c x.c z.c x.l x.l z.l (HOx.out.below HB3.out).rd (HOx.out.below HB3.out).rd (HOz.out.below HB3.out).rd (by have := HX0.out.1; omega) (by have := HX0.out.1; omega) (by have := HX2.out.1; omega) HX0.out.2.2 HX0.out.2.2 HX2.out.2.2 (fun e he => (HOx.out.sz e he).1) (fun e he => (HOx.out.sz e he).1) (fun e he => (HOz.out.sz e he).1)
        rw [← HN0.out, ← HN2.out] at C4
        have HC4 := hide C4
        clear C4
        go_wp2_with fail
        refine HC4.out.mono ?_
        rintro e' v4 ⟨ks4, va4, vc4, ua4, uc4, rfl, hks4, T4, t4⟩
        obtain ⟨E4, F4⟩ := tell_theirs hks4 HX2.out.2.2
        rw [E4, F4] at T4 ⊢
        rw [List.length_nil, ← HN2.out]
        have HB4 := hide (HB3.out.trans (t4.mono HB3.out.size))
        have HR4 := hide T4.rd.1
        have HR3_4 := hide (HR3.out.below t4)
        have HT1c := hide (And.intro (HT1b.out.1.below t4) (HT1b.out.2.below t4))
        have HT2c := hide (And.intro (HT2b.out.1.below t4) (HT2b.out.2.below t4))
        clear t4 T4 E4 F4 hks4 HC4
        clear HT1b HT2b HT1' HT2 HB2 HB3
        have CS := sameEn_any va3 vc3 y.l y.a y.c y.l v4 HR3_4.out (HOy.out.below HB4.out).rd (by have := HX1.out.1; omega)
        have CT := fun W (u : Below v4.heap.size v4 W) => sameEn_any va4 vc4 z.l z.a z.c z.l W (HR4.out.below u) ((HOz.out.below HB4.out).rd.below u) (by have := HX2.out.1; omega)
        rw [decide_eq_true rfl, ← HN1.out] at CS
        rw [decide_eq_true rfl, ← HN2.out] at CT
        have HCS := hide CS
        have HCT := hide CT
        clear CS CT HR3 HR4 HR3_4
        go_wp2_with fail
        refine HCS.out.mono ?_
        rintro e' v5 ⟨rfl, t5⟩
        have HCT' := hide (HCT.out v5 t5)
        have HB5 := hide t5
        clear t5 HCT HCS
        go_wp2_with fail
        refine HCT'.out.mono ?_
        rintro e' v6 ⟨rfl, t6⟩
        have HB6 := hide (HB5.out.trans (t6.mono HB5.out.size))
        have HBW := hide (HB4.out.trans (HB6.out.mono HB4.out.size))
        have HL6 := hide (And.intro (HT1c.out.1.below HB6.out) (And.intro (HT1c.out.2.below HB6.out) (And.intro (HT2c.out.1.below HB6.out) (HT2c.out.2.below HB6.out))))
        clear t6 HCT' HB5 HB6 HB4 HT1c HT2c
        have hle := HLE.out.2
        go_wp2
        go_loopw [86] (fun i wr => ∃ k : Nat, k ≤ nc ∧ i = .int .i64 k ∧ Hid (Below v6.heap.size v6 wr)) (fun i _ => nc - (intOf i).toNat)
        case atStart => exact ⟨0, Nat.zero_le _, rfl, hide (Below.refl _ _)⟩
        case round =>
          obtain ⟨k, hk, rfl, HBr⟩ := hrel
          by_cases hlt : k < nc
          · obtain ⟨c, hc⟩ : ∃ c, K1[k]? = some c := ⟨K1[k]'(by have := HNC.out; omega), List.getElem?_eq_getElem _⟩
            have hd : (K1.map (fun x : Cl => (⟨x.k, x.a, x.c, x.b⟩ : Cl)))[k]? = some ⟨c.k, c.a, c.c, c.b⟩ := by rw [List.getElem?_map, hc]; rfl
            obtain ⟨p, off, rfl, c0, c1, c2, c3, c4, c5, c6⟩ := (HL6.out.2.1.below HBr.out).cl hc
            obtain ⟨p', off', rfl, d0, d1, d2, d3, d4, d5, d6⟩ := (HL6.out.2.2.2.below HBr.out).cl hd
            simp only at d0 d1 d2 d3 d4 d5 d6
            have hcmp := neqCl ⟨c.k, c.a, c.c, c.b⟩ ⟨c.k, c.a, c.c, c.b⟩
            simp only [decide_true, Bool.not_true] at hcmp
            have hm : Try.prog.eqGuardType Try.prog.depth 37 = false := by kernel_rfl
            clear hc hd
            go_wp2
            go_quiet (fail)
            go_wp2
            go_roundw
            case rel => exact ⟨k + 1, by omega, by go_num, hide (below_drewN HBr.out _)⟩
            case measure => simp [intOf]; omega
          · have HB7 := hide (HBW.out.trans (HBr.out.mono HBW.out.size))
            by_cases hz : nc = 0
            · have hd0 : decide ((0 : Int) < (nc : Int)) = false := decide_eq_false (by omega)
              have hdn : decide (0 < nc) = false := decide_eq_false (by omega)
              have hM := HM2.out (List.eq_nil_of_length_eq_zero (by have := HNC.out; omega))
              have CE := sameEn_any va vc M1 va' vc' M2 wr (HL6.out.1.below HBr.out) (HL6.out.2.2.1.below HBr.out) (by have := HLE.out.1; omega)
              rw [decide_eq_true hM.symm, ← HNM.out, ← HNM2.out] at CE
              have HCE := hide CE
              clear CE hM hz
              go_wp2_with fail
              refine HCE.out.mono ?_
              rintro e' v8 ⟨rfl, t8⟩
              have HF := hide (HB7.out.trans (t8.mono HB7.out.size))
              clear t8 HCE
              go_wp2
              go_ret
              exact ⟨rfl, HF.out⟩
            · have hd0 : decide ((0 : Int) < (nc : Int)) = true := decide_eq_true (by omega)
              go_wp2
              go_ret
              exact ⟨rfl, HB7.out⟩
end Go.Proofs.Ytoneedobhopkkaa
