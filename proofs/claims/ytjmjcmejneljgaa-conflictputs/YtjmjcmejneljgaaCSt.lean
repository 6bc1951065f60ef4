/- How a clash is settled: conflict.Settle and the document's, over the translation. -/
import Derived.Test.YtjmjcmejneljgaaCCl
namespace Apo
open Go Go.RowKit
/-- the side that is settled for -/
def sideOf (how : Int) (c : Cl) : Option Si := if how = 1 then some c.b else if how = 2 then some c.c else if how = 3 then some c.a else none
def edOf (k : ByteArray) (s : Si) : Ed := match s.b with
  | true => ⟨k, s.v, false⟩
  | false => ⟨k, ⟨#[]⟩, true⟩
def settleE (how : Int) (c : Cl) : Ed × Int := match sideOf how c with
  | some s => (edOf c.k s, 0)
  | none => (⟨⟨#[]⟩, ⟨#[]⟩, false⟩, 137)
def Cl.val (c : Cl) : Value := .agg #[.string c.k, .bool c.a.b, .string c.a.v, .bool c.b.b, .string c.b.v, .bool c.c.b, .string c.c.v]
end Apo
namespace Go.Proofs.Ytjmjcmejneljgaa
open Go.RowKit Apo
def StP (how : Int) (c : Cl) (w : World) (e : Ending) (w' : World) : Prop := e = .returned (.tuple #[.agg #[.string (settleE how c).1.k, .string (settleE how c).1.v, .bool (settleE how c).1.g], .int .i64 (settleE how c).2]) ∧ Below w.heap.size w w'
set_option maxRecDepth 100000 in
theorem size_edit : (Try.prog.info? 47).map (·.size) = some 3 := by kernel_rfl
set_option maxRecDepth 100000 in
theorem fin_settle {W : World} {g : Nat} {c0 c1 c2 b : Value} {tmps : Array Value} {Q : Ending → World → Prop} (k : Ob W g 47 [c0, c1, c2]) (h4 : tmps.getD 4 undef = .pointer (some ⟨g, 0, none⟩)) (h5 : tmps.getD 5 undef = b) (hq : Q (.returned (.tuple #[.agg #[c0, c1, c2], b])) W) :
    bodyPost Try.prog Try.f16 Q Exit.ret { tmps := tmps, defers := [] } W := by
  have hl := run_loadVar_row (P := Try.prog) W g 47 47 #[c0, c1, c2] (0, 0) _ k Try.underlying47 rfl (by rw [size_edit]; rfl)
  have h4' : tmps[4]?.getD undef = .pointer (some ⟨g, 0, none⟩) := by simpa using h4
  have h5' : tmps[5]?.getD undef = b := by simpa using h5
  refine bodyPost_ret (v := .tuple #[.agg #[c0, c1, c2], b]) ?_ rfl hq
  simp [results, Try.results16, asAddr, h4', h5', hl]
set_option maxRecDepth 100000 in
theorem fin_rsettle {W : World} {g : Nat} {c0 c1 c2 b : Value} {tmps : Array Value} {Q : Ending → World → Prop} (k : Ob W g 47 [c0, c1, c2]) (h4 : tmps.getD 4 undef = .pointer (some ⟨g, 0, none⟩)) (h5 : tmps.getD 5 undef = b) (hq : Q (.returned (.tuple #[.agg #[c0, c1, c2], b])) W) :
    bodyPost Try.prog Try.f17 Q Exit.ret { tmps := tmps, defers := [] } W := by
  have hl := run_loadVar_row (P := Try.prog) W g 47 47 #[c0, c1, c2] (0, 0) _ k Try.underlying47 rfl (by rw [size_edit]; rfl)
  have h4' : tmps[4]?.getD undef = .pointer (some ⟨g, 0, none⟩) := by simpa using h4
  have h5' : tmps[5]?.getD undef = b := by simpa using h5
  refine bodyPost_ret (v := .tuple #[.agg #[c0, c1, c2], b]) ?_ rfl hq
  simp [results, Try.results17, asAddr, h4', h5', hl]
set_option maxRecDepth 100000 in
theorem eql_fn (n : Nat) (w : World) : (binOp .eql 85 (.func (.func n) #[] #[]) .nilFunc).run Try.prog w = .ok (.bool false) w := by
  have h : ∀ d : Nat, (Op.equalIn (d + 1) 85 (.func (.func n) #[] #[]) .nilFunc).run Try.prog w = .ok false w := fun d => by
    simp [Op.equalIn, run_underlying Try.underlying85]
  simp only [binOp]
  simp [Op.equal, Op.maxDepth, h 9999]
set_option maxRecDepth 100000 in
theorem eql_nfn (w : World) : (binOp .eql 85 .nilFunc .nilFunc).run Try.prog w = .ok (.bool true) w := by
  have h : ∀ d : Nat, (Op.equalIn (d + 1) 85 .nilFunc .nilFunc).run Try.prog w = .ok true w := fun d => by
    simp [Op.equalIn, run_underlying Try.underlying85]
  simp only [binOp]
  simp [Op.equal, Op.maxDepth, h 9999]
set_option maxRecDepth 100000 in
theorem fin_ours {W : World} {g : Nat} {c0 c1 : Value} {tmps : Array Value} {Q : Ending → World → Prop} (k : Ob W g 43 [c0, c1]) (h4 : tmps.getD 2 undef = .pointer (some ⟨g, 0, none⟩)) (hq : Q (.returned (.agg #[c0, c1])) W) :
    bodyPost Try.prog Try.f51 Q Exit.ret { tmps := tmps, defers := [] } W := by
  have hl := run_loadVar_row (P := Try.prog) W g 43 43 #[c0, c1] (0, 0) _ k Try.underlying43 rfl (by rw [size_side]; rfl)
  have h4' : tmps[2]?.getD undef = .pointer (some ⟨g, 0, none⟩) := by simpa using h4
  refine bodyPost_ret (v := .agg #[c0, c1]) ?_ rfl hq
  simp [results, Try.results51, asAddr, h4', hl]
set_option maxRecDepth 100000 in
set_option maxHeartbeats 4000000 in
theorem ours_any (c : Cl) (w : World) : Calls Try.prog 51 #[.agg #[.string c.k, .bool c.a.b, .string c.a.v, .bool c.b.b, .string c.b.v, .bool c.c.b, .string c.c.v]] w fun e w' => e = .returned (.agg #[.bool c.b.b, .string c.b.v]) ∧ Below w.heap.size w w' := by
  go_enter Try.func51, Try.ntmps51
  go_wp2
  exact fin_ours (ob_two w _ _ _ _) rfl ⟨rfl, ((Below.refl _ w).alloc (Nat.le_refl _) _).alloc (by simp) _⟩
set_option maxRecDepth 100000 in
theorem fin_theirs {W : World} {g : Nat} {c0 c1 : Value} {tmps : Array Value} {Q : Ending → World → Prop} (k : Ob W g 43 [c0, c1]) (h4 : tmps.getD 2 undef = .pointer (some ⟨g, 0, none⟩)) (hq : Q (.returned (.agg #[c0, c1])) W) :
    bodyPost Try.prog Try.f52 Q Exit.ret { tmps := tmps, defers := [] } W := by
  have hl := run_loadVar_row (P := Try.prog) W g 43 43 #[c0, c1] (0, 0) _ k Try.underlying43 rfl (by rw [size_side]; rfl)
  have h4' : tmps[2]?.getD undef = .pointer (some ⟨g, 0, none⟩) := by simpa using h4
  refine bodyPost_ret (v := .agg #[c0, c1]) ?_ rfl hq
  simp [results, Try.results52, asAddr, h4', hl]
set_option maxRecDepth 100000 in
set_option maxHeartbeats 4000000 in
theorem theirs_any (c : Cl) (w : World) : Calls Try.prog 52 #[.agg #[.string c.k, .bool c.a.b, .string c.a.v, .bool c.b.b, .string c.b.v, .bool c.c.b, .string c.c.v]] w fun e w' => e = .returned (.agg #[.bool c.c.b, .string c.c.v]) ∧ Below w.heap.size w w' := by
  go_enter Try.func52, Try.ntmps52
  go_wp2
  exact fin_theirs (ob_two w _ _ _ _) rfl ⟨rfl, ((Below.refl _ w).alloc (Nat.le_refl _) _).alloc (by simp) _⟩
set_option maxRecDepth 100000 in
theorem fin_base {W : World} {g : Nat} {c0 c1 : Value} {tmps : Array Value} {Q : Ending → World → Prop} (k : Ob W g 43 [c0, c1]) (h4 : tmps.getD 2 undef = .pointer (some ⟨g, 0, none⟩)) (hq : Q (.returned (.agg #[c0, c1])) W) :
    bodyPost Try.prog Try.f53 Q Exit.ret { tmps := tmps, defers := [] } W := by
  have hl := run_loadVar_row (P := Try.prog) W g 43 43 #[c0, c1] (0, 0) _ k Try.underlying43 rfl (by rw [size_side]; rfl)
  have h4' : tmps[2]?.getD undef = .pointer (some ⟨g, 0, none⟩) := by simpa using h4
  refine bodyPost_ret (v := .agg #[c0, c1]) ?_ rfl hq
  simp [results, Try.results53, asAddr, h4', hl]
set_option maxRecDepth 100000 in
set_option maxHeartbeats 4000000 in
theorem base_any (c : Cl) (w : World) : Calls Try.prog 53 #[.agg #[.string c.k, .bool c.a.b, .string c.a.v, .bool c.b.b, .string c.b.v, .bool c.c.b, .string c.c.v]] w fun e w' => e = .returned (.agg #[.bool c.a.b, .string c.a.v]) ∧ Below w.heap.size w w' := by
  go_enter Try.func53, Try.ntmps53
  go_wp2
  exact fin_base (ob_two w _ _ _ _) rfl ⟨rfl, ((Below.refl _ w).alloc (Nat.le_refl _) _).alloc (by simp) _⟩
def chF (how : Int) : Value := if how = 1 then .func (.func 51) #[] #[] else if how = 2 then .func (.func 52) #[] #[] else if how = 3 then .func (.func 53) #[] #[] else .nilFunc
set_option maxRecDepth 100000 in
theorem choice_any (how : Int) (w : World) : Calls Try.prog 41 #[.int .i64 how] w fun e w' => e = .returned (chF how) ∧ w = w' := by
  by_cases h1 : how = 1
  · subst h1
    go_enter Try.func41, Try.ntmps41
    go_wp2
    go_ret
    exact ⟨rfl, rfl⟩
  · have d1 : (how == 1) = false := by simpa using h1
    by_cases h2 : how = 2
    · subst h2
      go_enter Try.func41, Try.ntmps41
      go_wp2
      go_ret
      exact ⟨rfl, rfl⟩
    · have d2 : (how == 2) = false := by simpa using h2
      by_cases h3 : how = 3
      · subst h3
        go_enter Try.func41, Try.ntmps41
        go_wp2
        go_ret
        exact ⟨rfl, rfl⟩
      · have d3 : (how == 3) = false := by simpa using h3
        have hc : Hid (chF how = .nilFunc) := hide (by unfold chF; rw [if_neg h1, if_neg h2, if_neg h3])
        clear h1 h2 h3
        go_enter Try.func41, Try.ntmps41
        go_wp2
        go_ret
        exact ⟨by rw [hc.out]; rfl, rfl⟩
set_option maxRecDepth 100000 in
set_option maxHeartbeats 4000000 in
theorem settle_any (how : Int) (c : Cl) (w : World) : Calls Try.prog 16 #[c.val, .int .i64 how] w (StP how c w) := by
  have hP : Hid (∀ e w', e = .returned (.tuple #[.agg #[.string (settleE how c).1.k, .string (settleE how c).1.v, .bool (settleE how c).1.g], .int .i64 (settleE how c).2]) → Below w.heap.size w w' → StP how c w e w') := hide (fun _ _ h1 h2 => ⟨h1, h2⟩)
  generalize StP how c w = Q at hP ⊢
  obtain ⟨W0, hW0⟩ : ∃ W0, W0 = (w.alloc (.cells #[.string c.k, .bool c.a.b, .string c.a.v, .bool c.b.b, .string c.b.v, .bool c.c.b, .string c.c.v] 45)).alloc (.cells #[.string ⟨#[]⟩, .string ⟨#[]⟩, .bool false] 47) := ⟨_, rfl⟩
  have B0 : Below w.heap.size w W0 := by rw [hW0]; exact ((Below.refl _ w).alloc (Nat.le_refl _) _).alloc (by simp) _
  have K0 : Ob W0 w.heap.size 45 (cCl c) := by rw [hW0]; exact (Ob.new w (cCl c) _).alloc _
  have K1 : Ob W0 (w.heap.size + 1) 47 [.string ⟨#[]⟩, .string ⟨#[]⟩, .bool false] := by
    have := Ob.new (w.alloc (.cells #[.string c.k, .bool c.a.b, .string c.a.v, .bool c.b.b, .string c.b.v, .bool c.c.b, .string c.c.v] 45)) [.string ⟨#[]⟩, .string ⟨#[]⟩, .bool false] 47
    rw [World.size_alloc] at this
    rw [hW0]
    exact this
  have HC := hide (choice_any how W0)
  have q1 := eql_fn
  have q2 := eql_nfn
  have HB0 := hide B0
  have HK0 := hide K0
  have HK1 := hide K1
  have s0 : W0.heap.size = w.heap.size + 2 := by rw [hW0]; simp
  clear B0 K0 K1
  have FIN : ∀ (W : World) (c0 c1 c2 : Value), Below w.heap.size w W → Ob W (w.heap.size + 1) 47 [.string ⟨#[]⟩, .string ⟨#[]⟩, .bool false] → Hid (Ob (((W.setCell ⟨w.heap.size + 1, 0, none⟩ c0).setCell ⟨w.heap.size + 1, 1, none⟩ c1).setCell ⟨w.heap.size + 1, 2, none⟩ c2) (w.heap.size + 1) 47 [c0, c1, c2]) ∧ Hid (Below w.heap.size w (((W.setCell ⟨w.heap.size + 1, 0, none⟩ c0).setCell ⟨w.heap.size + 1, 1, none⟩ c1).setCell ⟨w.heap.size + 1, 2, none⟩ c2)) := fun W c0 c1 c2 b k => ⟨hide (((k.set 0 c0).set 1 c1).set 2 c2), hide (((b.setCell (p := ⟨w.heap.size + 1, 0, none⟩) (by show w.heap.size ≤ w.heap.size + 1; omega) c0).setCell (p := ⟨w.heap.size + 1, 1, none⟩) (by show w.heap.size ≤ w.heap.size + 1; omega) c1).setCell (p := ⟨w.heap.size + 1, 2, none⟩) (by show w.heap.size ≤ w.heap.size + 1; omega) c2)⟩
  have HFIN := hide FIN
  clear FIN
  by_cases h1 : how = 1
  · subst h1
    have hch : chF 1 = .func (.func 51) #[] #[] := rfl
    rw [hch] at HC
    have HS := hide (show settleE 1 c = (edOf c.k c.b, 0) from rfl)
    have HD := hide (ours_any c W0)
    clear hch
    have c0 := HK0.out.cell 0
    have c1 := HK0.out.cell 1
    have c2 := HK0.out.cell 2
    have c3 := HK0.out.cell 3
    have c4 := HK0.out.cell 4
    have c5 := HK0.out.cell 5
    have c6 := HK0.out.cell 6
    simp only [cCl, List.getElem?_cons_zero, List.getElem?_cons_succ] at c0 c1 c2 c3 c4 c5 c6
    simp only [Cl.val]
    go_enter Try.func16, Try.ntmps16
    rw [hW0] at HC c0 c1 c2 c3 c4 c5 c6
    go_wp2_with fail
    refine HC.out.mono ?_
    rintro e w1 ⟨rfl, rfl⟩
    rw [← hW0] at HC c0 c1 c2 c3 c4 c5 c6 ⊢
    clear hW0
    go_wp2_with fail
    refine HD.out.mono ?_
    rintro e w2 ⟨rfl, u2⟩
    generalize c.b = s at HS ⊢
    obtain ⟨sb, sv⟩ := s
    obtain ⟨W3, hW3⟩ : ∃ W3, W3 = w2.alloc (.cells #[.bool sb, .string sv] 43) := ⟨_, rfl⟩
    have u3 : Below W0.heap.size W0 W3 := by rw [hW3]; exact u2.alloc u2.size _
    have k0 := HK0.out.old u3
    have k1 := HK1.out.old u3
    have u4 : Below w.heap.size w W3 := HB0.out.trans (u3.mono (by omega))
    have y0 := k0.cell 0
    have f0 := k1.frozen 0
    have f1 := k1.frozen 1
    have f2 := k1.frozen 2
    have e0 := k1.cell 0
    have e1 := k1.cell 1
    have e2 := k1.cell 2
    simp only [cCl, List.getElem?_cons_zero, List.getElem?_cons_succ] at y0 e0 e1 e2
    have HF := hide (fun c0 c1 c2 => HFIN.out W3 c0 c1 c2 u4 k1)
    clear u2 u3 u4 k0 k1 HD HC c0 c1 c2 c3 c4 c5 c6
    cases sb with
    | false =>
      rw [hW3] at y0 f0 f1 f2 e0 e1 e2
      go_wp2
      rw [← hW3]
      exact fin_settle (HF.out _ _ _).1.out rfl rfl (hP.out _ _ (by rw [HS.out]; rfl) (HF.out _ _ _).2.out)
    | true =>
      rw [hW3] at y0 f0 f1 f2 e0 e1 e2
      go_wp2
      rw [← hW3]
      exact fin_settle (HF.out _ _ _).1.out rfl rfl (hP.out _ _ (by rw [HS.out]; rfl) (HF.out _ _ _).2.out)
  · by_cases h2 : how = 2
    · subst h2
      have hch : chF 2 = .func (.func 52) #[] #[] := rfl
      rw [hch] at HC
      have HS := hide (show settleE 2 c = (edOf c.k c.c, 0) from rfl)
      have HD := hide (theirs_any c W0)
      clear hch
      have c0 := HK0.out.cell 0
      have c1 := HK0.out.cell 1
      have c2 := HK0.out.cell 2
      have c3 := HK0.out.cell 3
      have c4 := HK0.out.cell 4
      have c5 := HK0.out.cell 5
      have c6 := HK0.out.cell 6
      simp only [cCl, List.getElem?_cons_zero, List.getElem?_cons_succ] at c0 c1 c2 c3 c4 c5 c6
      simp only [Cl.val]
      go_enter Try.func16, Try.ntmps16
      rw [hW0] at HC c0 c1 c2 c3 c4 c5 c6
      go_wp2_with fail
      refine HC.out.mono ?_
      rintro e w1 ⟨rfl, rfl⟩
      rw [← hW0] at HC c0 c1 c2 c3 c4 c5 c6 ⊢
      clear hW0
      go_wp2_with fail
      refine HD.out.mono ?_
      rintro e w2 ⟨rfl, u2⟩
      generalize c.c = s at HS ⊢
      obtain ⟨sb, sv⟩ := s
      obtain ⟨W3, hW3⟩ : ∃ W3, W3 = w2.alloc (.cells #[.bool sb, .string sv] 43) := ⟨_, rfl⟩
      have u3 : Below W0.heap.size W0 W3 := by rw [hW3]; exact u2.alloc u2.size _
      have k0 := HK0.out.old u3
      have k1 := HK1.out.old u3
      have u4 : Below w.heap.size w W3 := HB0.out.trans (u3.mono (by omega))
      have y0 := k0.cell 0
      have f0 := k1.frozen 0
      have f1 := k1.frozen 1
      have f2 := k1.frozen 2
      have e0 := k1.cell 0
      have e1 := k1.cell 1
      have e2 := k1.cell 2
      simp only [cCl, List.getElem?_cons_zero, List.getElem?_cons_succ] at y0 e0 e1 e2
      have HF := hide (fun c0 c1 c2 => HFIN.out W3 c0 c1 c2 u4 k1)
      clear u2 u3 u4 k0 k1 HD HC c0 c1 c2 c3 c4 c5 c6
      cases sb with
      | false =>
        rw [hW3] at y0 f0 f1 f2 e0 e1 e2
        go_wp2
        rw [← hW3]
        exact fin_settle (HF.out _ _ _).1.out rfl rfl (hP.out _ _ (by rw [HS.out]; rfl) (HF.out _ _ _).2.out)
      | true =>
        rw [hW3] at y0 f0 f1 f2 e0 e1 e2
        go_wp2
        rw [← hW3]
        exact fin_settle (HF.out _ _ _).1.out rfl rfl (hP.out _ _ (by rw [HS.out]; rfl) (HF.out _ _ _).2.out)
    · by_cases h3 : how = 3
      · subst h3
        have hch : chF 3 = .func (.func 53) #[] #[] := rfl
        rw [hch] at HC
        have HS := hide (show settleE 3 c = (edOf c.k c.a, 0) from rfl)
        have HD := hide (base_any c W0)
        clear hch
        have c0 := HK0.out.cell 0
        have c1 := HK0.out.cell 1
        have c2 := HK0.out.cell 2
        have c3 := HK0.out.cell 3
        have c4 := HK0.out.cell 4
        have c5 := HK0.out.cell 5
        have c6 := HK0.out.cell 6
        simp only [cCl, List.getElem?_cons_zero, List.getElem?_cons_succ] at c0 c1 c2 c3 c4 c5 c6
        simp only [Cl.val]
        go_enter Try.func16, Try.ntmps16
        rw [hW0] at HC c0 c1 c2 c3 c4 c5 c6
        go_wp2_with fail
        refine HC.out.mono ?_
        rintro e w1 ⟨rfl, rfl⟩
        rw [← hW0] at HC c0 c1 c2 c3 c4 c5 c6 ⊢
        clear hW0
        go_wp2_with fail
        refine HD.out.mono ?_
        rintro e w2 ⟨rfl, u2⟩
        generalize c.a = s at HS ⊢
        obtain ⟨sb, sv⟩ := s
        obtain ⟨W3, hW3⟩ : ∃ W3, W3 = w2.alloc (.cells #[.bool sb, .string sv] 43) := ⟨_, rfl⟩
        have u3 : Below W0.heap.size W0 W3 := by rw [hW3]; exact u2.alloc u2.size _
        have k0 := HK0.out.old u3
        have k1 := HK1.out.old u3
        have u4 : Below w.heap.size w W3 := HB0.out.trans (u3.mono (by omega))
        have y0 := k0.cell 0
        have f0 := k1.frozen 0
        have f1 := k1.frozen 1
        have f2 := k1.frozen 2
        have e0 := k1.cell 0
        have e1 := k1.cell 1
        have e2 := k1.cell 2
        simp only [cCl, List.getElem?_cons_zero, List.getElem?_cons_succ] at y0 e0 e1 e2
        have HF := hide (fun c0 c1 c2 => HFIN.out W3 c0 c1 c2 u4 k1)
        clear u2 u3 u4 k0 k1 HD HC c0 c1 c2 c3 c4 c5 c6
        cases sb with
        | false =>
          rw [hW3] at y0 f0 f1 f2 e0 e1 e2
          go_wp2
          rw [← hW3]
          exact fin_settle (HF.out _ _ _).1.out rfl rfl (hP.out _ _ (by rw [HS.out]; rfl) (HF.out _ _ _).2.out)
        | true =>
          rw [hW3] at y0 f0 f1 f2 e0 e1 e2
          go_wp2
          rw [← hW3]
          exact fin_settle (HF.out _ _ _).1.out rfl rfl (hP.out _ _ (by rw [HS.out]; rfl) (HF.out _ _ _).2.out)
      · have hch : chF how = .nilFunc := by unfold chF; rw [if_neg h1, if_neg h2, if_neg h3]
        have HS : Hid (settleE how c = (⟨⟨#[]⟩, ⟨#[]⟩, false⟩, 137)) := hide (by unfold settleE sideOf; rw [if_neg h1, if_neg h2, if_neg h3])
        rw [hch] at HC
        have HF := hide (fun c0 c1 c2 => HFIN.out W0 c0 c1 c2 HB0.out HK1.out)
        have f0 := HK1.out.frozen 0
        have f1 := HK1.out.frozen 1
        have f2 := HK1.out.frozen 2
        have e0 := HK1.out.cell 0
        have e1 := HK1.out.cell 1
        have e2 := HK1.out.cell 2
        simp only [List.getElem?_cons_zero, List.getElem?_cons_succ] at e0 e1 e2
        clear hch h1 h2 h3
        simp only [Cl.val]
        go_enter Try.func16, Try.ntmps16
        rw [hW0] at HC e0 e1 e2 f0 f1 f2
        go_wp2_with fail
        refine HC.out.mono ?_
        rintro e w1 ⟨rfl, rfl⟩
        rw [← hW0] at HC e0 e1 e2 f0 f1 f2 ⊢
        clear hW0
        go_wp2
        exact fin_settle (HF.out _ _ _).1.out rfl rfl (hP.out _ _ (by rw [HS.out]; rfl) (HF.out _ _ _).2.out)
end Go.Proofs.Ytjmjcmejneljgaa
