/- ObjectApart's walk. -/
import Derived.Test.YtapomhpahdmekaaOAm
namespace Go.Proofs.Ytapomhpahdmekaa
open Go.RowKit Apo
theorem str_same {x y : List Int} (hx : InB x) (hy : InB y) : ((strOfNums x).toList == (strOfNums y).toList) = decide (x = y) := by
  by_cases h : x = y
  · simp [h]
  · have : ¬ (strOfNums x).toList = (strOfNums y).toList := fun e => h (by
      rw [ByteArray.toList_eq, ByteArray.toList_eq] at e
      have e2 : strOfNums x = strOfNums y := ByteArray.ext (Array.ext' e)
      rw [← nums_strOfNums hx, ← nums_strOfNums hy, e2])
    simp [h, this]
set_option maxRecDepth 100000 in
set_option maxHeartbeats 8000000 in
theorem apart14 (w : World) (x y : CmA) (hx : CmR w x.c x.a x.cap) (hy : CmR w y.c y.a y.cap) :
    Calls Try.prog 5 #[cmV x.c.id x.a x.c.ps.length x.cap x.c.gen x.c.root x.c.tx, cmV y.c.id y.a y.c.ps.length y.cap y.c.gen y.c.root y.c.tx] w fun e w' => e = .returned (.bool true) ∧ Below w.heap.size w w' := by
  obtain ⟨c, a, cap⟩ := x
  obtain ⟨d, a', cap'⟩ := y
  simp only at hx hy ⊢
  obtain ⟨W0, hW0⟩ : ∃ W0, W0 = (w.alloc (.cells #[.int .u64 c.id, .slice a c.ps.length cap, .int .u64 c.gen, .int .u64 c.root, .string c.tx] 25)).alloc (.cells #[.int .u64 d.id, .slice a' d.ps.length cap', .int .u64 d.gen, .int .u64 d.root, .string d.tx] 25) := ⟨_, rfl⟩
  have bb : Below w.heap.size w W0 := by rw [hW0]; exact ((Below.refl w.heap.size w).alloc (Nat.le_refl _) _).alloc (by simp) _
  have kd := Ob.new (w.alloc (.cells #[.int .u64 c.id, .slice a c.ps.length cap, .int .u64 c.gen, .int .u64 c.root, .string c.tx] 25)) [.int .u64 d.id, .slice a' d.ps.length cap', .int .u64 d.gen, .int .u64 d.root, .string d.tx] 25
  simp only [World.size_alloc] at kd
  have HA0 : Hid (Am w W0 w.heap.size c a cap) := hide ⟨bb, by rw [hW0]; exact (Ob.new w [.int .u64 c.id, .slice a c.ps.length cap, .int .u64 c.gen, .int .u64 c.root, .string c.tx] _).alloc _, hx⟩
  have HD0 : Hid (Am w W0 (w.heap.size + 1) d a' cap') := hide ⟨bb, by rw [hW0]; exact kd, hy⟩
  have HCA := hide (awake14 W0)
  rw [hW0] at HCA
  clear hx hy bb kd
  go_enter Try.func5, Try.ntmps5
  go_wp2_with fail
  refine HCA.out.mono ?_
  rintro e w1 ⟨rfl, b1⟩
  rw [← hW0] at b1
  have HA1 := hide (HA0.out.old b1)
  have HD1 := hide (HD0.out.old b1)
  have HCL := hide (light14 c a cap w1 HA1.out.cm)
  obtain ⟨x0, x1, x2, x3, x4⟩ := HA1.out.cells
  clear b1 HCA HA0 HD0 hW0
  cases hlc : lightM c with
  | false =>
    rw [hlc] at HCL
    clear hlc
    go_wp2_with fail
    refine HCL.out.mono ?_
    rintro e w2 ⟨rfl, b2⟩
    have HA2 := hide (HA1.out.old b2)
    clear b2
    go_wp2
    go_ret
    exact ⟨rfl, HA2.out.b⟩
  | true =>
    rw [hlc] at HCL
    have HLC := hide (lightM_ok hlc)
    clear hlc
    go_wp2_with fail
    refine HCL.out.mono ?_
    rintro e w2 ⟨rfl, b2⟩
    have HA2 := hide (HA1.out.old b2)
    have HD2 := hide (HD1.out.old b2)
    have HCL2 := hide (light14 d a' cap' w2 HD2.out.cm)
    clear b2 x0 x1 x2 x3 x4 HA1 HD1 HCL
    obtain ⟨x0, x1, x2, x3, x4⟩ := HD2.out.cells
    cases hld : lightM d with
    | false =>
      rw [hld] at HCL2
      clear hld
      go_wp2_with fail
      refine HCL2.out.mono ?_
      rintro e w3 ⟨rfl, b3⟩
      have HA3 := hide (HA2.out.old b3)
      clear b3
      go_wp2
      go_ret
      exact ⟨rfl, HA3.out.b⟩
    | true =>
      rw [hld] at HCL2
      have HLD := hide (lightM_ok hld)
      clear hld
      go_wp2_with fail
      refine HCL2.out.mono ?_
      rintro e w3 ⟨rfl, b3⟩
      have HA3 := hide (HA2.out.old b3)
      have HD3 := hide (HD2.out.old b3)
      have HCP := hide (put14 c a cap w3 HA3.out.cm)
      clear b3 x0 x1 x2 x3 x4 HA2 HD2 HCL2
      obtain ⟨x0, x1, x2, x3, x4⟩ := HA3.out.cells
      go_wp2_with fail
      refine HCP.out.mono ?_
      rintro e w4 ⟨v4, rfl, o4, b4⟩
      have HA4 := hide (HA3.out.old b4)
      have HD4 := hide (HD3.out.old b4)
      obtain ⟨ga, gn, gc, rfl, hgn, gr, _, _⟩ := Bt.own o4
      have HGR := hide gr
      have HGN := hide hgn
      have HCP2 := hide (put14 d a' cap' w4 HD4.out.cm)
      clear b4 o4 gr hgn x0 x1 x2 x3 x4 HA3 HD3 HCP
      obtain ⟨x0, x1, x2, x3, x4⟩ := HD4.out.cells
      go_wp2_with fail
      refine HCP2.out.mono ?_
      rintro e w5 ⟨v5, rfl, o5, b5⟩
      have HA5 := hide (HA4.out.old b5)
      have HD5 := hide (HD4.out.old b5)
      have HGR5 := hide (HGR.out.below b5)
      obtain ⟨ka, kn, kc, rfl, hkn, kr, _, _⟩ := Bt.own o5
      have HKR5 := hide kr
      have HKN := hide hkn
      have HCR := hide (right14 c a cap w5 HA5.out.cm.rd HA5.out.cm.len HA5.out.cm.big HA5.out.cm.txt)
      clear b5 o5 kr hkn x0 x1 x2 x3 x4 HA4 HD4 HCP2 HGR
      obtain ⟨x0, x1, x2, x3, x4⟩ := HA5.out.cells
      have HE : Hid ((putM c).2 = cmE c ∧ (putM d).2 = cmE d) := hide (by
        unfold putM
        constructor
        · split
          · rfl
          · rename_i q; exact (Decidable.not_not.1 q).symm
        · split
          · rfl
          · rename_i q; exact (Decidable.not_not.1 q).symm)
      rw [HE.out.1, HE.out.2]
      obtain ⟨E, hE⟩ : ∃ E, E = cmE c := ⟨_, rfl⟩
      obtain ⟨E', hE'⟩ : ∃ E', E' = cmE d := ⟨_, rfl⟩
      rw [← hE] at HCR ⊢
      rw [← hE']
      have HEE := hide hE
      have HEE' := hide hE'
      clear hE hE'
      by_cases h1 : E = 0
      · by_cases h2 : E' = 0
        · subst h1 h2
          have HP1 : Hid (putM c = (cmB c, 0) ∧ putM d = (cmB d, 0)) := hide (by
            unfold putM
            exact ⟨by rw [if_neg (by rw [← HEE.out]; simp)], by rw [if_neg (by rw [← HEE'.out]; simp)]⟩)
          have HLIM : Hid (∀ W', Below w5.heap.size w5 W' → (convert 26 9 (.slice ga gn gc)).run Try.prog W' = .ok (.string (strOfNums (cmB c))) W' ∧ (convert 26 9 (.slice ka kn kc)).run Try.prog W' = .ok (.string (strOfNums (cmB d))) W') := hide (fun W' hW => by
            have h1 := HGR5.out.below hW
            have h2 := HKR5.out.below hW
            rw [HGN.out, HKN.out]
            rw [HP1.out.1] at h1 ⊢
            rw [HP1.out.2] at h2 ⊢
            exact ⟨h1.conv 26 5 9 Try.underlying26 Try.underlying5 Try.underlying9 gc, h2.conv 26 5 9 Try.underlying26 Try.underlying5 Try.underlying9 kc⟩)
          have HEQ : Hid (((strOfNums (cmB c)).toList == (strOfNums (cmB d)).toList) = sameCm c d) := hide (by
            cases hs : sameCm c d with
            | true => rw [sameCm_eq hs]; simp
            | false =>
              rw [str_same (cmB_inB HA5.out.r.sz HEE.out.symm) (cmB_inB HD5.out.r.sz HEE'.out.symm), decide_eq_false_iff_not]
              intro e
              have e2 := cmB_inj HA5.out.r.sz HD5.out.r.sz HEE.out.symm HEE'.out.symm e
              rw [e2, sameCm_refl] at hs
              cases hs)
          obtain ⟨SX, hSX⟩ : ∃ SX, SX = strOfNums (cmB c) := ⟨_, rfl⟩
          obtain ⟨SY, hSY⟩ : ∃ SY, SY = strOfNums (cmB d) := ⟨_, rfl⟩
          rw [← hSX, ← hSY] at HLIM HEQ
          have bD : Below w5.heap.size w5 w5.drew := (Below.refl _ _).drew
          have HCS : Hid (Calls Try.prog 14 #[cmV c.id a c.ps.length cap c.gen c.root c.tx, cmV d.id a' d.ps.length cap' d.gen d.root d.tx] w5.drew fun e W' => e = .returned (.bool (sameCm c d)) ∧ ((convert 26 9 (.slice ga gn gc)).run Try.prog W' = .ok (.string SX) W' ∧ (convert 26 9 (.slice ka kn kc)).run Try.prog W' = .ok (.string SY) W' ∧ W'.cell? ⟨w.heap.size, 0, none⟩ = some (.int .u64 c.id) ∧ W'.cell? ⟨w.heap.size, 1, none⟩ = some (.slice a c.ps.length cap) ∧ W'.cell? ⟨w.heap.size, 2, none⟩ = some (.int .u64 c.gen) ∧ W'.cell? ⟨w.heap.size, 3, none⟩ = some (.int .u64 c.root) ∧ W'.cell? ⟨w.heap.size, 4, none⟩ = some (.string c.tx) ∧ W'.cell? ⟨w.heap.size + 1, 0, none⟩ = some (.int .u64 d.id) ∧ W'.cell? ⟨w.heap.size + 1, 1, none⟩ = some (.slice a' d.ps.length cap') ∧ W'.cell? ⟨w.heap.size + 1, 2, none⟩ = some (.int .u64 d.gen) ∧ W'.cell? ⟨w.heap.size + 1, 3, none⟩ = some (.int .u64 d.root) ∧ W'.cell? ⟨w.heap.size + 1, 4, none⟩ = some (.string d.tx)) ∧ Hid (Below w.heap.size w W')) := hide ((rsame14 c d a a' cap cap' w5.drew (HA5.out.old bD).cm.rd (HD5.out.old bD).cm.rd (by have := HLC.out; omega)).mono (fun e W' h => by
            have b6 : Below w5.heap.size w5 W' := bD.trans h.2
            obtain ⟨q1, q2⟩ := HLIM.out W' b6
            obtain ⟨y0, y1, y2, y3, y4⟩ := (HA5.out.old b6).cells
            obtain ⟨u0, u1, u2, u3, u4⟩ := (HD5.out.old b6).cells
            exact ⟨h.1, ⟨q1, q2, y0, y1, y2, y3, y4, u0, u1, u2, u3, u4⟩, hide (HA5.out.old b6).b⟩))
          obtain ⟨p0, p1⟩ := HLIM.out w5 (Below.refl _ _)
          obtain ⟨y0, y1, y2, y3, y4⟩ := HD5.out.cells
          have p2 := (HLIM.out w5.drew bD).1
          have p3 := (HLIM.out w5.drew bD).2
          have heq := HEQ.out
          generalize sameCm c d = B at HCS heq
          clear hSX hSY bD HCR HLIM HEQ HP1
          go_wp2_with fail
          go_region_held3 (fun W' => (convert 26 9 (.slice ga gn gc)).run Try.prog W' = .ok (.string SX) W' ∧ (convert 26 9 (.slice ka kn kc)).run Try.prog W' = .ok (.string SY) W' ∧ W'.cell? ⟨w.heap.size, 0, none⟩ = some (.int .u64 c.id) ∧ W'.cell? ⟨w.heap.size, 1, none⟩ = some (.slice a c.ps.length cap) ∧ W'.cell? ⟨w.heap.size, 2, none⟩ = some (.int .u64 c.gen) ∧ W'.cell? ⟨w.heap.size, 3, none⟩ = some (.int .u64 c.root) ∧ W'.cell? ⟨w.heap.size, 4, none⟩ = some (.string c.tx) ∧ W'.cell? ⟨w.heap.size + 1, 0, none⟩ = some (.int .u64 d.id) ∧ W'.cell? ⟨w.heap.size + 1, 1, none⟩ = some (.slice a' d.ps.length cap') ∧ W'.cell? ⟨w.heap.size + 1, 2, none⟩ = some (.int .u64 d.gen) ∧ W'.cell? ⟨w.heap.size + 1, 3, none⟩ = some (.int .u64 d.root) ∧ W'.cell? ⟨w.heap.size + 1, 4, none⟩ = some (.string d.tx)) (go_keep) (first
            | (go_at_call 14; (with_reducible refine HCS.out.mono ?_); rintro en w6 ⟨rfl, ⟨q1, q2, z0, z1, z2, z3, z4, t0, t1, t2, t3, t4⟩, HF⟩))
          clear HCS p0 p1 p2 p3 heq q1 q2 z0 z1 z2 z3 z4 t0 t1 t2 t3 t4 y0 y1 y2 y3 y4 x0 x1 x2 x3 x4
          go_wp2
          go_ret
          exact ⟨rfl, HF.out⟩
        · subst h1
          have d2 : (E' != 0) = true := by simpa using h2
          clear h2
          go_wp2_with fail
          refine HCR.out.mono ?_
          rintro e w6 ⟨rfl, b6⟩
          have HA6 := hide (HA5.out.old b6)
          clear b6
          go_wp2
          go_ret
          exact ⟨rfl, HA6.out.b⟩
      · have d2 : (E != 0) = true := by simpa using h1
        clear h1
        go_wp2_with fail
        refine HCR.out.mono ?_
        rintro e w6 ⟨rfl, b6⟩
        have HA6 := hide (HA5.out.old b6)
        clear b6
        go_wp2
        go_ret
        exact ⟨rfl, HA6.out.b⟩
end Go.Proofs.Ytapomhpahdmekaa
