/- The document's Pick, over the translation. -/
import Derived.Test.YtgjhmpmjbedjoaaQA4
namespace Go.Proofs.Ytgjhmpmjbedjoaa
open Go.RowKit Apo
set_option maxRecDepth 100000 in
theorem fin_pick {W : World} {g : Nat} {c0 c1 b : Value} {tmps : Array Value} {Q : Ending → World → Prop} (k : Ob W g 73 [c0, c1]) (h6 : tmps.getD 6 undef = .pointer (some ⟨g, 0, none⟩)) (h7 : tmps.getD 7 undef = b) (hq : Q (.returned (.tuple #[.agg #[c0, c1], b])) W) :
    bodyPost Try.prog Try.f57 Q Exit.ret { tmps := tmps, defers := [] } W := by
  have hl := run_loadVar_row (P := Try.prog) W g 73 73 #[c0, c1] (0, 0) _ k Try.underlying73 rfl (by rw [size_side]; rfl)
  have h6' : tmps[6]?.getD undef = .pointer (some ⟨g, 0, none⟩) := by simpa using h6
  have h7' : tmps[7]?.getD undef = b := by simpa using h7
  refine bodyPost_ret (v := .tuple #[.agg #[c0, c1], b]) ?_ rfl hq
  simp [results, Try.results57, asAddr, h6', h7', hl]
open Classical in
set_option maxRecDepth 100000 in
set_option maxHeartbeats 8000000 in
theorem pick_any (a b c : Si) (w : World) : Calls Try.prog 57 #[.agg #[.bool a.b, .string a.v], .agg #[.bool b.b, .string b.v], .agg #[.bool c.b, .string c.v]] w (KyP a b c w) := by
  obtain ⟨a0, a1⟩ := a
  obtain ⟨b0, b1⟩ := b
  obtain ⟨c0, c1⟩ := c
  simp only
  have HP : Hid (∀ e w', e = .returned (.tuple #[.agg #[.bool (pickP (Si.plain ⟨a0, a1⟩) (Si.plain ⟨b0, b1⟩) (Si.plain ⟨c0, c1⟩)).1.b, .string (pickP (Si.plain ⟨a0, a1⟩) (Si.plain ⟨b0, b1⟩) (Si.plain ⟨c0, c1⟩)).1.v], .bool (pickP (Si.plain ⟨a0, a1⟩) (Si.plain ⟨b0, b1⟩) (Si.plain ⟨c0, c1⟩)).2]) → Below w.heap.size w w' → KyP ⟨a0, a1⟩ ⟨b0, b1⟩ ⟨c0, c1⟩ w e w') := hide (fun _ _ h1 h2 => ⟨h1, h2⟩)
  generalize KyP ⟨a0, a1⟩ ⟨b0, b1⟩ ⟨c0, c1⟩ w = Q at HP ⊢
  obtain ⟨W0, hW0⟩ : ∃ W0, W0 = (((w.alloc (.cells #[.bool a0, .string a1] 73)).alloc (.cells #[.bool b0, .string b1] 73)).alloc (.cells #[.bool c0, .string c1] 73)).alloc (.cells #[.bool false, .string ⟨#[]⟩] 73) := ⟨_, rfl⟩
  have K : Bx a0 a1 b0 b1 c0 c1 w.heap.size W0 := by
    rw [hW0]
    refine ⟨?_, ?_, ?_, ?_⟩
    · repeat (first | (refine ob_push (cs := [_, _]) ?_; simp; done) | refine Ob.alloc ?_ _)
    · repeat (first | (refine ob_push (cs := [_, _]) ?_; simp; done) | refine Ob.alloc ?_ _)
    · repeat (first | (refine ob_push (cs := [_, _]) ?_; simp; done) | refine Ob.alloc ?_ _)
    · repeat (first | (refine ob_push (cs := [_, _]) ?_; simp; done) | refine Ob.alloc ?_ _)
  have B0 : Below w.heap.size w W0 := by
    rw [hW0]
    repeat (first | exact Below.refl _ _ | refine Below.alloc ?_ (by simp; try omega) _)
  obtain ⟨x0, x1, x2, x3, x4, x5⟩ := K.cells
  have HC : Hid (∀ b v W, Calls Try.prog 73 #[.agg #[.bool b, .string v]] W fun e w' => e = .returned (.agg #[.bool (Si.plain ⟨b, v⟩).b, .string (Si.plain ⟨b, v⟩).v]) ∧ Below W.heap.size W w') := hide (fun b v W => (rplain_any b v W).mono (fun e w' h => ⟨h.1, by rw [h.2]; exact ((Below.refl _ W).alloc (Nat.le_refl _) _).alloc (by simp) _⟩))
  have HK := hide K
  have HB0 := hide B0
  clear K B0
  go_enter Try.func57, Try.ntmps57
  go_wp2_with fail
  rw [← hW0]
  clear hW0
  go_cut [] from 8 (fun wx => Ob wx w.heap.size 73 [.bool (Si.plain ⟨a0, a1⟩).b, .string (Si.plain ⟨a0, a1⟩).v] ∧ Ob wx (w.heap.size + 1) 73 [.bool (Si.plain ⟨b0, b1⟩).b, .string (Si.plain ⟨b0, b1⟩).v] ∧ Ob wx (w.heap.size + 1 + 1) 73 [.bool (Si.plain ⟨c0, c1⟩).b, .string (Si.plain ⟨c0, c1⟩).v] ∧ Ob wx (w.heap.size + 1 + 1 + 1) 73 [.bool false, .string ⟨#[]⟩] ∧ Below w.heap.size w wx)
  case first =>
    go_region_with (first
      | (go_at_call 73; (with_reducible refine (HC.out a0 a1 _).mono ?_); rintro e w1 ⟨rfl, u1⟩; have K1 := (Bx.drew HK.out).below u1; obtain ⟨p0, p1, p2, p3, p4, p5⟩ := K1.cells; have HK1 := hide K1; have HB1 := hide (HB0.out.trans ((Below.drewL u1).mono HB0.out.size)); clear K1 u1)
      | (go_at_call 73; (with_reducible refine (HC.out b0 b1 _).mono ?_); rintro e w2 ⟨rfl, u2⟩; have K2 := HK1.out.below u2; obtain ⟨q0, q1, q2, q3, q4, q5⟩ := K2.cells; have HK2 := hide K2; have HB2 := hide (HB1.out.trans (u2.mono HB1.out.size)); clear K2 u2)
      | (go_at_call 73; (with_reducible refine (HC.out c0 c1 _).mono ?_); rintro e w3 ⟨rfl, u3⟩; have K3 := HK2.out.below u3; obtain ⟨s0, s1, s2, s3, s4, s5⟩ := K3.cells; obtain ⟨f0, f1, f2, f3, f4, f5⟩ := K3.frozen; have HK3 := hide K3; have HB3 := hide (HB2.out.trans (u3.mono HB2.out.size)); clear K3 u3))
    all_goals
      go_wp2_with fail
      go_meet
      exact Bx.stored HK3.out HB3.out _ _ _ _ _ _
  case rest =>
    obtain ⟨O0, O1, O2, O3, B⟩ := hcut
    generalize Si.plain ⟨a0, a1⟩ = a at *
    generalize Si.plain ⟨b0, b1⟩ = b at *
    generalize Si.plain ⟨c0, c1⟩ = c at *
    have x0 := O0.cell 0
    have x1 := O0.cell 1
    have y0 := O1.cell 0
    have y1 := O1.cell 1
    have z0 := O2.cell 0
    have z1 := O2.cell 1
    have r0 := O3.cell 0
    have r1 := O3.cell 1
    have f0 := O3.frozen 0
    have f1 := O3.frozen 1
    simp only [List.getElem?_cons_zero, List.getElem?_cons_succ] at x0 x1 y0 y1 z0 z1 r0 r1
    have hgd : Try.prog.eqGuardType Try.prog.depth 73 = false := by kernel_rfl
    have e1 := eqlSd b.b c.b b.v c.v
    have e2 := eqlSd b.b a.b b.v a.v
    have e3 := eqlSd c.b a.b c.v a.v
    have HB := hide B
    have HO := hide O3
    have FIN : ∀ s : Si, Hid (Ob ((wc.setCell ⟨w.heap.size + 1 + 1 + 1, 0, none⟩ (.bool s.b)).setCell ⟨w.heap.size + 1 + 1 + 1, 1, none⟩ (.string s.v)) (w.heap.size + 1 + 1 + 1) 73 [.bool s.b, .string s.v]) ∧ Hid (Below w.heap.size w ((wc.setCell ⟨w.heap.size + 1 + 1 + 1, 0, none⟩ (.bool s.b)).setCell ⟨w.heap.size + 1 + 1 + 1, 1, none⟩ (.string s.v))) := fun s => ⟨hide ((HO.out.set 0 (.bool s.b)).set 1 (.string s.v)), hide ((HB.out.setCell (p := ⟨w.heap.size + 1 + 1 + 1, 0, none⟩) (by show w.heap.size ≤ w.heap.size + 1 + 1 + 1; omega) (.bool s.b)).setCell (p := ⟨w.heap.size + 1 + 1 + 1, 1, none⟩) (by show w.heap.size ≤ w.heap.size + 1 + 1 + 1; omega) (.string s.v))⟩
    have HFIN := hide FIN
    clear O0 O1 O2 O3 B FIN
    by_cases h1 : b = c
    · have H : Hid (pickP a b c = (b, true)) := hide (if_pos h1)
      rw [decide_eq_true ((Si.eq_iff _ _).2 h1)] at e1
      clear h1 e2 e3
      go_wp2
      exact fin_pick (HFIN.out b).1.out rfl rfl (HP.out _ _ (by rw [H.out]; first | done | rfl) (HFIN.out b).2.out)
    · rw [decide_eq_false (fun q => h1 ((Si.eq_iff _ _).1 q))] at e1
      by_cases h2 : b = a
      · have H : Hid (pickP a b c = (c, true)) := hide (by unfold pickP; rw [if_neg h1, if_pos h2])
        rw [decide_eq_true ((Si.eq_iff _ _).2 h2)] at e2
        clear h1 h2 e3
        go_wp2
        exact fin_pick (HFIN.out c).1.out rfl rfl (HP.out _ _ (by rw [H.out]; first | done | rfl) (HFIN.out c).2.out)
      · rw [decide_eq_false (fun q => h2 ((Si.eq_iff _ _).1 q))] at e2
        by_cases h3 : c = a
        · have H : Hid (pickP a b c = (b, true)) := hide (by unfold pickP; rw [if_neg h1, if_neg h2, decide_eq_true h3])
          rw [decide_eq_true ((Si.eq_iff _ _).2 h3)] at e3
          clear h1 h2 h3
          go_wp2
          go_region
          go_wp2
          exact fin_pick (ob_drew (HFIN.out b).1.out) rfl rfl (HP.out _ _ (by rw [H.out]; first | done | rfl) (HFIN.out b).2.out.drew)
        · have H : Hid (pickP a b c = (b, false)) := hide (by unfold pickP; rw [if_neg h1, if_neg h2, decide_eq_false h3])
          rw [decide_eq_false (fun q => h3 ((Si.eq_iff _ _).1 q))] at e3
          clear h1 h2 h3
          go_wp2
          go_region
          go_wp2
          exact fin_pick (ob_drew (HFIN.out b).1.out) rfl rfl (HP.out _ _ (by rw [H.out]; first | done | rfl) (HFIN.out b).2.out.drew)
end Go.Proofs.Ytgjhmpmjbedjoaa
