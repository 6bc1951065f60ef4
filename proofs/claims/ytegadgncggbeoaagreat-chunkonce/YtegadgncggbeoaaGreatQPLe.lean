/- load and Open of the program's pager in general. Over the translation. -/
import Derived.Test.YtegadgncggbeoaaGreatQPLd
namespace Go.Proofs.YtegadgncggbeoaaGreat
open Go.RowKit Apo

theorem supOf_ok' {l : List Int} (h : ∀ z ∈ l, 0 ≤ z ∧ z ≤ 255) : (supOf l).Ok := by
  unfold supOf
  split
  · exact rdSup_ok h
  · exact ⟨by decide, by decide, by decide, by decide⟩
theorem load_ok {st : Sd} (ok : OkS st) : st.load.1.Ok := by
  have h0 : Sup.none.Ok := ⟨by decide, by decide, by decide, by decide⟩
  unfold Sd.load pickSup
  split
  · split
    · split
      · exact h0
      · split
        · exact supOf_ok' (told_byt ok 1)
        · exact supOf_ok' (told_byt ok 0)
    · exact h0
  · exact h0

set_option maxRecDepth 100000 in
set_option maxHeartbeats 2000000 in
theorem cpload_rd {Od Of : Nat → Prop} {w : World} {p d pf : Nat} {pw pn : Option Addr} {e : Nat} {r : Spn} {f : Fr} {ended : Bool} {st : Sd} (h : CPb Od Of w p d pf pw pn e r f ended st) (hc : st.C.length ≤ 1073741824) (E S0 P0 Z0 : Nat) (hs : (⟨E, S0, P0, Z0⟩ : Sup).Ok) (hne : ¬ (S0 = 0 ∧ P0 = 0 ∧ Z0 = 0)) (her : ¬ (st.rdText2 (firstP S0) Z0).2 = 0) :
    Calls Tryz.prog 64 #[.pointer (some ⟨p, 0, none⟩), .agg #[.int .u64 E, .int .u32 S0, .int .u32 P0, .int .u32 Z0]] w fun en w' => en = .returned (.tuple #[.slice none 0 0, .int .i64 (st.rdText2 (firstP S0) Z0).2]) ∧ Below w.heap.size w w' := by
  obtain ⟨hs1, hs2, hs3, hs4⟩ := hs
  simp only at hs1 hs2 hs3 hs4
  have b0 := (Below.refl _ w).alloc (Nat.le_refl _) (.cells #[.int .u64 E, .int .u32 S0, .int .u32 P0, .int .u32 Z0] 119)
  have k0 := Ob.new w [.int .u64 E, .int .u32 S0, .int .u32 P0, .int .u32 Z0] 119
  have T0 := h.below b0
  have C1 := crtext_any (T0.below ((Below.refl _ _).drew)).dv hc S0 Z0
  obtain ⟨RS, hRS⟩ : ∃ RS, RS = st.rdText2 (firstP S0) Z0 := ⟨_, rfl⟩
  rw [← hRS] at C1 her ⊢
  have x0 := T0.ob.cell 0
  have y1 := k0.cell 1
  have y2 := k0.cell 2
  have y3 := k0.cell 3
  simp only [List.getElem?_cons_zero, List.getElem?_cons_succ] at x0 y1 y2 y3
  have wS : IntKind.i64.wrap (S0 : Int) = (S0 : Int) := by rw [IntKind.wrap_i64]; omega
  have wP : IntKind.i64.wrap (P0 : Int) = (P0 : Int) := by rw [IntKind.wrap_i64]; omega
  have wZ : IntKind.i64.wrap (Z0 : Int) = (Z0 : Int) := by rw [IntKind.wrap_i64]; omega
  have hsz : (w.alloc (.cells #[.int .u64 E, .int .u32 S0, .int .u32 P0, .int .u32 Z0] 119)).heap.size = w.heap.size + 1 := by simp
  have hpl := h.ob.lt
  have H := hide h
  have HT0 := hide T0
  have HK0 := hide k0
  have HC1 := hide C1
  have HB0 := hide b0
  clear h b0 k0 T0 C1
  have hdd : decide ((⟨E, S0, P0, Z0⟩ : Sup) = ⟨E, 0, 0, 0⟩) = false := by
    rw [decide_eq_false_iff_not]
    intro q
    exact hne (by injection q with _ q1 q2 q3; exact ⟨q1, q2, q3⟩)
  have q1 : ∀ W, (binOp .eql 119 (.agg #[.int .u64 E, .int .u32 S0, .int .u32 P0, .int .u32 Z0]) (.agg #[.int .u64 E, .int .u32 0, .int .u32 0, .int .u32 0])).run Tryz.prog W = .ok (.bool false) W := fun W => by
    have := eqS ⟨E, S0, P0, Z0⟩ ⟨E, 0, 0, 0⟩ W
    rw [hdd] at this
    exact this
  have her1 : (RS.2 != 0) = true := by simpa using her
  have her2 : (RS.2 == 0) = false := by simpa using her
  clear hRS her
  go_enter Tryz.func64, Tryz.ntmps64
  go_wp2
  clear q1 hdd hne
  generalize w.alloc (.cells #[.int .u64 E, .int .u32 S0, .int .u32 P0, .int .u32 Z0] 119) = W0 at HT0 HK0 HC1 HB0 x0 y1 y2 y3 hsz ⊢
  go_region_held3 (fun W' => W'.cell? ⟨p, 0, none⟩ = some (.pointer (some ⟨d, 0, none⟩)) ∧ W'.cell? ⟨w.heap.size, 1, none⟩ = some (.int .u32 S0) ∧ W'.cell? ⟨w.heap.size, 3, none⟩ = some (.int .u32 Z0)) (go_keep) (first
    | (go_at_call 91; refine HC1.out.mono ?_; rintro en w1 ⟨v1, rfl, t1, b1⟩; have T1 := HT0.out.below ((Below.refl _ W0).drew.trans b1); have k1 := HK0.out.old ((Below.refl _ W0).drew.trans b1); have x0 := T1.ob.cell 0; have x2 := T1.ob.cell 2; have x3 := T1.ob.cell 3; have g2 := T1.ob.frozen 2; have g3 := T1.ob.frozen 3; have y1 := k1.cell 1; have y2 := k1.cell 2; have y3 := k1.cell 3; simp only [List.getElem?_cons_zero, List.getElem?_cons_succ] at x0 x2 x3 y1 y2 y3; have HT1 := hide T1; have HB1 := hide b1; have HTL := hide t1; clear t1 b1 T1 k1))
  obtain ⟨a1, c1, hv1, rd1, n1, l1, bc1⟩ := HTL.out
  subst hv1
  rename_i hHeld
  clear hHeld
  have HBB := hide (HB0.out.trans (((Below.refl _ W0).drew.trans HB1.out).mono (show w.heap.size ≤ W0.heap.size by rw [hsz]; exact Nat.le_succ _)))
  clear rd1 n1 l1 bc1 HTL HC1 HT1 HT0 H HK0
  go_wp2
  refine bodyPost_ret (by simp [results, Tryz.results64, go_sem]; rfl) rfl ?_
  exact ⟨rfl, HBB.out⟩

set_option maxRecDepth 100000 in
set_option maxHeartbeats 2000000 in
theorem cpload_claim {Od Of : Nat → Prop} {w : World} {p d pf : Nat} {pw pn : Option Addr} {e : Nat} {r : Spn} {f : Fr} {ended : Bool} {st : Sd} (h : CPb Od Of w p d pf pw pn e r f ended st) (hc : st.C.length ≤ 1073741824) (E S0 P0 Z0 : Nat) (hs : (⟨E, S0, P0, Z0⟩ : Sup).Ok) (hne : ¬ (S0 = 0 ∧ P0 = 0 ∧ Z0 = 0)) (b : List Int) (hrd : st.rdText2 (firstP S0) Z0 = (b, 0)) (hnd : P0 = needP b.length) (hcl : (f.claim ⟨S0, P0⟩).1 = false) :
    Calls Tryz.prog 64 #[.pointer (some ⟨p, 0, none⟩), .agg #[.int .u64 E, .int .u32 S0, .int .u32 P0, .int .u32 Z0]] w fun en w' => en = .returned (.tuple #[.slice none 0 0, .int .i64 50]) ∧ Onl (fun i => i = p ∨ Of i) w w' := by
  obtain ⟨hs1, hs2, hs3, hs4⟩ := hs
  simp only at hs1 hs2 hs3 hs4
  have b0 := (Below.refl _ w).alloc (Nat.le_refl _) (.cells #[.int .u64 E, .int .u32 S0, .int .u32 P0, .int .u32 Z0] 119)
  have k0 := Ob.new w [.int .u64 E, .int .u32 S0, .int .u32 P0, .int .u32 Z0] 119
  have T0 := h.below b0
  have C1 := crtext_any (T0.below ((Below.refl _ _).drew)).dv hc S0 Z0
  rw [hrd] at C1
  have x0 := T0.ob.cell 0
  have y1 := k0.cell 1
  have y2 := k0.cell 2
  have y3 := k0.cell 3
  simp only [List.getElem?_cons_zero, List.getElem?_cons_succ] at x0 y1 y2 y3
  have wS : IntKind.i64.wrap (S0 : Int) = (S0 : Int) := by rw [IntKind.wrap_i64]; omega
  have wP : IntKind.i64.wrap (P0 : Int) = (P0 : Int) := by rw [IntKind.wrap_i64]; omega
  have wZ : IntKind.i64.wrap (Z0 : Int) = (Z0 : Int) := by rw [IntKind.wrap_i64]; omega
  have hsz : (w.alloc (.cells #[.int .u64 E, .int .u32 S0, .int .u32 P0, .int .u32 Z0] 119)).heap.size = w.heap.size + 1 := by simp
  have hpl := h.ob.lt
  have H := hide h
  have HT0 := hide T0
  have HK0 := hide k0
  have HC1 := hide C1
  have HB0 := hide b0
  have HND := hide hnd
  have HCL := hide hcl
  clear h b0 k0 T0 C1 hrd hnd hcl
  have hdd : decide ((⟨E, S0, P0, Z0⟩ : Sup) = ⟨E, 0, 0, 0⟩) = false := by
    rw [decide_eq_false_iff_not]
    intro q
    exact hne (by injection q with _ q1 q2 q3; exact ⟨q1, q2, q3⟩)
  have q1 : ∀ W, (binOp .eql 119 (.agg #[.int .u64 E, .int .u32 S0, .int .u32 P0, .int .u32 Z0]) (.agg #[.int .u64 E, .int .u32 0, .int .u32 0, .int .u32 0])).run Tryz.prog W = .ok (.bool false) W := fun W => by
    have := eqS ⟨E, S0, P0, Z0⟩ ⟨E, 0, 0, 0⟩ W
    rw [hdd] at this
    exact this
  go_enter Tryz.func64, Tryz.ntmps64
  go_wp2
  clear q1 hdd hne
  generalize w.alloc (.cells #[.int .u64 E, .int .u32 S0, .int .u32 P0, .int .u32 Z0] 119) = W0 at HT0 HK0 HC1 HB0 x0 y1 y2 y3 hsz ⊢
  go_region_held3 (fun W' => W'.cell? ⟨p, 0, none⟩ = some (.pointer (some ⟨d, 0, none⟩)) ∧ W'.cell? ⟨w.heap.size, 1, none⟩ = some (.int .u32 S0) ∧ W'.cell? ⟨w.heap.size, 3, none⟩ = some (.int .u32 Z0)) (go_keep) (first
    | (go_at_call 91; refine HC1.out.mono ?_; rintro en w1 ⟨v1, rfl, t1, b1⟩; have T1 := HT0.out.below ((Below.refl _ W0).drew.trans b1); have k1 := HK0.out.old ((Below.refl _ W0).drew.trans b1); have x0 := T1.ob.cell 0; have x2 := T1.ob.cell 2; have x3 := T1.ob.cell 3; have g2 := T1.ob.frozen 2; have g3 := T1.ob.frozen 3; have y1 := k1.cell 1; have y2 := k1.cell 2; have y3 := k1.cell 3; simp only [List.getElem?_cons_zero, List.getElem?_cons_succ] at x0 x2 x3 y1 y2 y3; have HT1 := hide T1; have HB1 := hide b1; have HTL := hide t1; clear t1 b1 T1 k1))
  obtain ⟨a1, c1, hv1, rd1, n1, l1, bc1⟩ := HTL.out
  subst hv1
  rename_i hHeld
  clear hHeld
  have T1 := HT1.out
  have hW1 : W0.heap.size ≤ w1.heap.size := HB1.out.size
  have o2 : Onl (fun i => i = p) w1 ((w1.setCell ⟨p, 2, none⟩ (.int .i64 S0)).setCell ⟨p, 3, none⟩ (.int .i64 P0)) := ((Onl.refl (fun i => i = p) w1).set (p := p) (.inl rfl) _).set (p := p) (.inl rfl) _
  have T2 : CPb Od Of ((w1.setCell ⟨p, 2, none⟩ (.int .i64 S0)).setCell ⟨p, 3, none⟩ (.int .i64 P0)) p d pf pw pn e ⟨S0, P0⟩ f ended st :=
    ⟨(T1.ob.set 2 (.int .i64 S0)).set 3 (.int .i64 P0), T1.dv.onl o2 (fun i q => (T1.a1 i q).2), T1.fr.onl o2 (fun i q => T1.a2 i q), T1.a1, T1.a2, fun i q => Nat.lt_of_lt_of_le (T1.l1 i q) o2.size, fun i q => Nat.lt_of_lt_of_le (T1.l2 i q) o2.size, ⟨by show -9223372036854775808 ≤ (S0 : Int); omega, by show (S0 : Int) ≤ 9223372036854775807; omega, by show -9223372036854775808 ≤ (P0 : Int); omega, by show (P0 : Int) ≤ 9223372036854775807; omega⟩⟩
  have t2 : TldR ((w1.setCell ⟨p, 2, none⟩ (.int .i64 S0)).setCell ⟨p, 3, none⟩ (.int .i64 P0)) W0.heap.size (.slice a1 b.length c1) b := (show TldR w1 W0.heap.size (.slice a1 b.length c1) b from ⟨a1, c1, rfl, rd1, n1, l1, bc1⟩).onl o2 (fun i q => .inl (by omega))
  have z0 := (T1.ob.set 2 (.int .i64 S0)).cell 3
  have z1 := (T1.ob.set 2 (.int .i64 S0)).frozen 3
  simp only [List.set_cons_succ, List.set_cons_zero, List.getElem?_cons_zero, List.getElem?_cons_succ] at z0
  have hW2 := o2.size
  have HO2 := hide (show Onl (fun i => i = p ∨ Of i) w ((w1.setCell ⟨p, 2, none⟩ (.int .i64 S0)).setCell ⟨p, 3, none⟩ (.int .i64 P0)) from (((Onl.ofBelow HB0.out).trans (Onl.ofBelow ((Below.refl _ W0).drew.trans HB1.out))).trans (o2.mono (fun i q => .inl q))))
  have HT2 := hide T2
  have HTL2 := hide t2
  clear T1 o2 T2 t2 rd1 n1 l1 bc1 HTL HC1 HT1 x0 y3
  go_wp2
  generalize (w1.setCell ⟨p, 2, none⟩ (.int .i64 S0)).setCell ⟨p, 3, none⟩ (.int .i64 P0) = W2 at HT2 HTL2 HO2 hW2 ⊢
  have C3 := cneed_any (b.length : Int) W2.drew
  rw [← HND.out] at C3
  have T2 := HT2.out.below ((Below.refl _ W2).drew)
  have C4 := cclaim_any T2.fr T2.l2 ⟨S0, P0⟩ T2.rok
  rw [HCL.out] at C4
  have x2 := T2.ob.cell 2
  have x3 := T2.ob.cell 3
  have x4 := T2.ob.cell 4
  simp only [List.getElem?_cons_zero, List.getElem?_cons_succ] at x2 x3 x4
  have x2' : W2.cell? ⟨p, 2, none⟩ = some (.int .i64 S0) := x2
  have x3' : W2.cell? ⟨p, 3, none⟩ = some (.int .i64 P0) := x3
  have x4' : W2.cell? ⟨p, 4, none⟩ = some (.pointer (some ⟨pf, 0, none⟩)) := x4
  have HC4 := hide C4
  have HT2' := hide T2
  have hPP : ((P0 : Int) == (P0 : Int)) = true := by simp
  have hPn : ((P0 : Int) != (P0 : Int)) = false := by simp
  clear C4 T2 x2 x3 x4 g2 g3 z0 z1
  go_region_held3 (fun W' => W'.cell? ⟨p, 2, none⟩ = some (.int .i64 S0) ∧ W'.cell? ⟨p, 3, none⟩ = some (.int .i64 P0) ∧ W'.cell? ⟨p, 4, none⟩ = some (.pointer (some ⟨pf, 0, none⟩))) (go_keep) (first
    | (go_at_call 72; refine C3.mono ?_; rintro en wx ⟨rfl, rfl⟩)
    | (go_at_call 74; refine HC4.out.mono ?_; rintro en w4 ⟨rfl, k4, o4⟩; have m4 := HT2'.out.ob.onl o4 (fun q => HT2'.out.a2 p q rfl); have x2 := m4.cell 2; have x3 := m4.cell 3; have x4 := m4.cell 4; simp only [List.getElem?_cons_zero, List.getElem?_cons_succ] at x2 x3 x4; have HM4 := hide m4; have HK4 := hide k4; have HO4 := hide o4; clear m4 k4 o4))
  rename_i hHeld
  clear hHeld
  have hW4 : W2.heap.size ≤ w4.heap.size := HO4.out.size
  have O4 : Onl Of W2 w4 := (Onl.refl _ W2).drew.trans HO4.out
  have HO5 := hide (HO2.out.more O4 (fun i q => .inl (.inr q)))
  clear O4
  go_wp2
  refine bodyPost_ret (by simp [results, Tryz.results64, go_sem]; rfl) rfl ?_
  exact ⟨rfl, HO5.out⟩

set_option maxRecDepth 100000 in
set_option maxHeartbeats 2000000 in
theorem cpload_need {Od Of : Nat → Prop} {w : World} {p d pf : Nat} {pw pn : Option Addr} {e : Nat} {r : Spn} {f : Fr} {ended : Bool} {st : Sd} (h : CPb Od Of w p d pf pw pn e r f ended st) (hc : st.C.length ≤ 1073741824) (E S0 P0 Z0 : Nat) (hs : (⟨E, S0, P0, Z0⟩ : Sup).Ok) (hne : ¬ (S0 = 0 ∧ P0 = 0 ∧ Z0 = 0)) (b : List Int) (hrd : st.rdText2 (firstP S0) Z0 = (b, 0)) (hnd : ¬ P0 = needP b.length) :
    Calls Tryz.prog 64 #[.pointer (some ⟨p, 0, none⟩), .agg #[.int .u64 E, .int .u32 S0, .int .u32 P0, .int .u32 Z0]] w fun en w' => en = .returned (.tuple #[.slice none 0 0, .int .i64 50]) ∧ Onl (fun i => i = p ∨ Of i) w w' := by
  obtain ⟨hs1, hs2, hs3, hs4⟩ := hs
  simp only at hs1 hs2 hs3 hs4
  have b0 := (Below.refl _ w).alloc (Nat.le_refl _) (.cells #[.int .u64 E, .int .u32 S0, .int .u32 P0, .int .u32 Z0] 119)
  have k0 := Ob.new w [.int .u64 E, .int .u32 S0, .int .u32 P0, .int .u32 Z0] 119
  have T0 := h.below b0
  have C1 := crtext_any (T0.below ((Below.refl _ _).drew)).dv hc S0 Z0
  rw [hrd] at C1
  have x0 := T0.ob.cell 0
  have y1 := k0.cell 1
  have y2 := k0.cell 2
  have y3 := k0.cell 3
  simp only [List.getElem?_cons_zero, List.getElem?_cons_succ] at x0 y1 y2 y3
  have wS : IntKind.i64.wrap (S0 : Int) = (S0 : Int) := by rw [IntKind.wrap_i64]; omega
  have wP : IntKind.i64.wrap (P0 : Int) = (P0 : Int) := by rw [IntKind.wrap_i64]; omega
  have wZ : IntKind.i64.wrap (Z0 : Int) = (Z0 : Int) := by rw [IntKind.wrap_i64]; omega
  have hsz : (w.alloc (.cells #[.int .u64 E, .int .u32 S0, .int .u32 P0, .int .u32 Z0] 119)).heap.size = w.heap.size + 1 := by simp
  have hpl := h.ob.lt
  have H := hide h
  have HT0 := hide T0
  have HK0 := hide k0
  have HC1 := hide C1
  have HB0 := hide b0
  have HND := hide hnd
  clear h b0 k0 T0 C1 hrd hnd
  have hdd : decide ((⟨E, S0, P0, Z0⟩ : Sup) = ⟨E, 0, 0, 0⟩) = false := by
    rw [decide_eq_false_iff_not]
    intro q
    exact hne (by injection q with _ q1 q2 q3; exact ⟨q1, q2, q3⟩)
  have q1 : ∀ W, (binOp .eql 119 (.agg #[.int .u64 E, .int .u32 S0, .int .u32 P0, .int .u32 Z0]) (.agg #[.int .u64 E, .int .u32 0, .int .u32 0, .int .u32 0])).run Tryz.prog W = .ok (.bool false) W := fun W => by
    have := eqS ⟨E, S0, P0, Z0⟩ ⟨E, 0, 0, 0⟩ W
    rw [hdd] at this
    exact this
  go_enter Tryz.func64, Tryz.ntmps64
  go_wp2
  clear q1 hdd hne
  generalize w.alloc (.cells #[.int .u64 E, .int .u32 S0, .int .u32 P0, .int .u32 Z0] 119) = W0 at HT0 HK0 HC1 HB0 x0 y1 y2 y3 hsz ⊢
  go_region_held3 (fun W' => W'.cell? ⟨p, 0, none⟩ = some (.pointer (some ⟨d, 0, none⟩)) ∧ W'.cell? ⟨w.heap.size, 1, none⟩ = some (.int .u32 S0) ∧ W'.cell? ⟨w.heap.size, 3, none⟩ = some (.int .u32 Z0)) (go_keep) (first
    | (go_at_call 91; refine HC1.out.mono ?_; rintro en w1 ⟨v1, rfl, t1, b1⟩; have T1 := HT0.out.below ((Below.refl _ W0).drew.trans b1); have k1 := HK0.out.old ((Below.refl _ W0).drew.trans b1); have x0 := T1.ob.cell 0; have x2 := T1.ob.cell 2; have x3 := T1.ob.cell 3; have g2 := T1.ob.frozen 2; have g3 := T1.ob.frozen 3; have y1 := k1.cell 1; have y2 := k1.cell 2; have y3 := k1.cell 3; simp only [List.getElem?_cons_zero, List.getElem?_cons_succ] at x0 x2 x3 y1 y2 y3; have HT1 := hide T1; have HB1 := hide b1; have HTL := hide t1; clear t1 b1 T1 k1))
  obtain ⟨a1, c1, hv1, rd1, n1, l1, bc1⟩ := HTL.out
  subst hv1
  rename_i hHeld
  clear hHeld
  have T1 := HT1.out
  have hW1 : W0.heap.size ≤ w1.heap.size := HB1.out.size
  have o2 : Onl (fun i => i = p) w1 ((w1.setCell ⟨p, 2, none⟩ (.int .i64 S0)).setCell ⟨p, 3, none⟩ (.int .i64 P0)) := ((Onl.refl (fun i => i = p) w1).set (p := p) (.inl rfl) _).set (p := p) (.inl rfl) _
  have T2 : CPb Od Of ((w1.setCell ⟨p, 2, none⟩ (.int .i64 S0)).setCell ⟨p, 3, none⟩ (.int .i64 P0)) p d pf pw pn e ⟨S0, P0⟩ f ended st :=
    ⟨(T1.ob.set 2 (.int .i64 S0)).set 3 (.int .i64 P0), T1.dv.onl o2 (fun i q => (T1.a1 i q).2), T1.fr.onl o2 (fun i q => T1.a2 i q), T1.a1, T1.a2, fun i q => Nat.lt_of_lt_of_le (T1.l1 i q) o2.size, fun i q => Nat.lt_of_lt_of_le (T1.l2 i q) o2.size, ⟨by show -9223372036854775808 ≤ (S0 : Int); omega, by show (S0 : Int) ≤ 9223372036854775807; omega, by show -9223372036854775808 ≤ (P0 : Int); omega, by show (P0 : Int) ≤ 9223372036854775807; omega⟩⟩
  have t2 : TldR ((w1.setCell ⟨p, 2, none⟩ (.int .i64 S0)).setCell ⟨p, 3, none⟩ (.int .i64 P0)) W0.heap.size (.slice a1 b.length c1) b := (show TldR w1 W0.heap.size (.slice a1 b.length c1) b from ⟨a1, c1, rfl, rd1, n1, l1, bc1⟩).onl o2 (fun i q => .inl (by omega))
  have z0 := (T1.ob.set 2 (.int .i64 S0)).cell 3
  have z1 := (T1.ob.set 2 (.int .i64 S0)).frozen 3
  simp only [List.set_cons_succ, List.set_cons_zero, List.getElem?_cons_zero, List.getElem?_cons_succ] at z0
  have hW2 := o2.size
  have HO2 := hide (show Onl (fun i => i = p ∨ Of i) w ((w1.setCell ⟨p, 2, none⟩ (.int .i64 S0)).setCell ⟨p, 3, none⟩ (.int .i64 P0)) from (((Onl.ofBelow HB0.out).trans (Onl.ofBelow ((Below.refl _ W0).drew.trans HB1.out))).trans (o2.mono (fun i q => .inl q))))
  have HT2 := hide T2
  have HTL2 := hide t2
  clear T1 o2 T2 t2 rd1 n1 l1 bc1 HTL HC1 HT1 x0 y3
  go_wp2
  generalize (w1.setCell ⟨p, 2, none⟩ (.int .i64 S0)).setCell ⟨p, 3, none⟩ (.int .i64 P0) = W2 at HT2 HTL2 HO2 hW2 ⊢
  have C3 := cneed_any (b.length : Int) W2.drew
  generalize needP b.length = N at C3 HND
  have x3 := HT2.out.ob.cell 3
  simp only [List.getElem?_cons_zero, List.getElem?_cons_succ] at x3
  have hPP : ((P0 : Int) == (N : Int)) = false := by have := HND.out; simp; omega
  have hPn : ((P0 : Int) != (N : Int)) = true := by have := HND.out; simp; omega
  clear g2 g3 z0 z1
  refine wp_region_held_drew (S := (fun W' => W'.cell? ⟨p, 3, none⟩ = some (.int .i64 P0))) (by kernel_rfl) x3 (fun hHeld => ?_)
  first
    | (refine wpAnyH_take (i := 0) (v := ?_) rfl (by kernel_rfl) (by kernel_rfl) (by kernel_rfl) (fun _ _ _ h => h) (Or.inl ⟨by rfl, ?_⟩) (by assumption) ?_; rotate_left; (intro wx hSx; have hS0 := hSx; go_simp; first | done | with_reducible rfl))
    | (refine wpAnyH_take (i := 0) (v := undef) rfl (by kernel_rfl) (by kernel_rfl) (by kernel_rfl) (fun _ _ _ h => h) (Or.inr ⟨by rfl, rfl⟩) (by assumption) ?_)
  simp only [Act.put, List.getElem_toArray, List.getElem_cons_zero, List.setIfInBounds_toArray, List.set_cons_zero, List.set_cons_succ]
  first
    | (refine wpAnyH_take (i := 1) (v := ?_) rfl (by kernel_rfl) (by kernel_rfl) (by kernel_rfl) (fun _ _ _ h => h) (Or.inl ⟨by rfl, ?_⟩) (by assumption) ?_; rotate_left; (intro wx hSx; have hS0 := hSx; go_simp; first | done | with_reducible rfl))
    | (refine wpAnyH_take (i := 1) (v := undef) rfl (by kernel_rfl) (by kernel_rfl) (by kernel_rfl) (fun _ _ _ h => h) (Or.inr ⟨by rfl, rfl⟩) (by assumption) ?_)
  simp only [Act.put, List.getElem_toArray, List.getElem_cons_succ, List.getElem_cons_zero, List.setIfInBounds_toArray, List.set_cons_zero, List.set_cons_succ]
  first
    | (refine wpAnyH_take (i := 2) (v := ?_) rfl (by kernel_rfl) (by kernel_rfl) (by kernel_rfl) (fun _ _ _ h => h) (Or.inl ⟨by rfl, ?_⟩) (by assumption) ?_; rotate_left; (intro wx hSx; have hS0 := hSx; go_simp; first | done | with_reducible rfl))
    | (refine wpAnyH_take (i := 2) (v := undef) rfl (by kernel_rfl) (by kernel_rfl) (by kernel_rfl) (fun _ _ _ h => h) (Or.inr ⟨by rfl, rfl⟩) (by assumption) ?_)
  simp only [Act.put, List.getElem_toArray, List.getElem_cons_succ, List.getElem_cons_zero, List.setIfInBounds_toArray, List.set_cons_zero, List.set_cons_succ]
  first
    | (refine wpAnyH_take (i := 3) (v := ?_) rfl (by kernel_rfl) (by kernel_rfl) (by kernel_rfl) (fun _ _ _ h => h) (Or.inl ⟨by rfl, ?_⟩) (by assumption) ?_; rotate_left; (intro wx hSx; have hS0 := hSx; go_simp; first | done | with_reducible rfl))
    | (refine wpAnyH_take (i := 3) (v := undef) rfl (by kernel_rfl) (by kernel_rfl) (by kernel_rfl) (fun _ _ _ h => h) (Or.inr ⟨by rfl, rfl⟩) (by assumption) ?_)
  simp only [Act.put, List.getElem_toArray, List.getElem_cons_succ, List.getElem_cons_zero, List.setIfInBounds_toArray, List.set_cons_zero, List.set_cons_succ]
  first
    | (refine wpAnyH_take (i := 4) (v := ?_) rfl (by kernel_rfl) (by kernel_rfl) (by kernel_rfl) (fun _ _ _ h => h) (Or.inl ⟨by rfl, ?_⟩) (by assumption) ?_; rotate_left; (intro wx hSx; have hS0 := hSx; go_simp; first | done | with_reducible rfl))
    | (refine wpAnyH_take (i := 4) (v := undef) rfl (by kernel_rfl) (by kernel_rfl) (by kernel_rfl) (fun _ _ _ h => h) (Or.inr ⟨by rfl, rfl⟩) (by assumption) ?_)
  simp only [Act.put, List.getElem_toArray, List.getElem_cons_succ, List.getElem_cons_zero, List.setIfInBounds_toArray, List.set_cons_zero, List.set_cons_succ]
  first
    | (refine wpAnyH_take (i := 5) (v := ?_) rfl (by kernel_rfl) (by kernel_rfl) (by kernel_rfl) (fun _ _ _ h => h) (Or.inl ⟨by rfl, ?_⟩) (by assumption) ?_; rotate_left; (intro wx hSx; have hS0 := hSx; go_simp; first | done | with_reducible rfl))
    | (refine wpAnyH_take (i := 5) (v := undef) rfl (by kernel_rfl) (by kernel_rfl) (by kernel_rfl) (fun _ _ _ h => h) (Or.inr ⟨by rfl, rfl⟩) (by assumption) ?_)
  simp only [Act.put, List.getElem_toArray, List.getElem_cons_succ, List.getElem_cons_zero, List.setIfInBounds_toArray, List.set_cons_zero, List.set_cons_succ]
  first
    | (refine wpAnyH_take (i := 6) (v := ?_) rfl (by kernel_rfl) (by kernel_rfl) (by kernel_rfl) (fun _ _ _ h => h) (Or.inl ⟨by rfl, ?_⟩) (by assumption) ?_; rotate_left; (intro wx hSx; have hS0 := hSx; go_simp; first | done | with_reducible rfl))
    | (refine wpAnyH_take (i := 6) (v := undef) rfl (by kernel_rfl) (by kernel_rfl) (by kernel_rfl) (fun _ _ _ h => h) (Or.inr ⟨by rfl, rfl⟩) (by assumption) ?_)
  simp only [Act.put, List.getElem_toArray, List.getElem_cons_succ, List.getElem_cons_zero, List.setIfInBounds_toArray, List.set_cons_zero, List.set_cons_succ]
  refine wpAnyH_ready (rs := [7]) (by kernel_rfl) (by simp) ?_
  refine AllReadyH.cons rfl (fun K hK => ?_) AllReadyH.nil
  go_simp
  go_at_call 72
  refine C3.mono ?_
  rintro en wx ⟨rfl, rfl⟩
  go_wp2_with fail
  refine hK.out _ _ ?_ (fun hHeld => ?_)
  · exact hHeld
  clear hK K
  first
    | (refine wpAnyH_take (i := 8) (v := ?_) rfl (by kernel_rfl) (by kernel_rfl) (by kernel_rfl) (fun _ _ _ h => h) (Or.inl ⟨by rfl, ?_⟩) (by assumption) ?_; rotate_left; (intro wx hSx; have hS0 := hSx; go_simp; first | done | with_reducible rfl))
    | (refine wpAnyH_take (i := 8) (v := undef) rfl (by kernel_rfl) (by kernel_rfl) (by kernel_rfl) (fun _ _ _ h => h) (Or.inr ⟨by rfl, rfl⟩) (by assumption) ?_)
  simp only [Act.put, List.getElem_toArray, List.getElem_cons_succ, List.getElem_cons_zero, List.setIfInBounds_toArray, List.set_cons_zero, List.set_cons_succ]
  first
    | (refine wpAnyH_take (i := 9) (v := ?_) rfl (by kernel_rfl) (by kernel_rfl) (by kernel_rfl) (fun _ _ _ h => h) (Or.inl ⟨by rfl, ?_⟩) (by assumption) ?_; rotate_left; (intro wx hSx; have hS0 := hSx; go_simp; first | done | with_reducible rfl))
    | (refine wpAnyH_take (i := 9) (v := undef) rfl (by kernel_rfl) (by kernel_rfl) (by kernel_rfl) (fun _ _ _ h => h) (Or.inr ⟨by rfl, rfl⟩) (by assumption) ?_)
  simp only [Act.put, List.getElem_toArray, List.getElem_cons_succ, List.getElem_cons_zero, List.setIfInBounds_toArray, List.set_cons_zero, List.set_cons_succ]
  first
    | (refine wpAnyH_take (i := 10) (v := ?_) rfl (by kernel_rfl) (by kernel_rfl) (by kernel_rfl) (fun _ _ _ h => h) (Or.inl ⟨by rfl, ?_⟩) (by assumption) ?_; rotate_left; (intro wx hSx; have hS0 := hSx; go_simp; first | done | with_reducible rfl))
    | (refine wpAnyH_take (i := 10) (v := undef) rfl (by kernel_rfl) (by kernel_rfl) (by kernel_rfl) (fun _ _ _ h => h) (Or.inr ⟨by rfl, rfl⟩) (by assumption) ?_)
  simp only [Act.put, List.getElem_toArray, List.getElem_cons_succ, List.getElem_cons_zero, List.setIfInBounds_toArray, List.set_cons_zero, List.set_cons_succ]
  first
    | (refine wpAnyH_take (i := 11) (v := ?_) rfl (by kernel_rfl) (by kernel_rfl) (by kernel_rfl) (fun _ _ _ h => h) (Or.inl ⟨by rfl, ?_⟩) (by assumption) ?_; rotate_left; (intro wx hSx; have hS0 := hSx; go_simp; first | done | with_reducible rfl))
    | (refine wpAnyH_take (i := 11) (v := undef) rfl (by kernel_rfl) (by kernel_rfl) (by kernel_rfl) (fun _ _ _ h => h) (Or.inr ⟨by rfl, rfl⟩) (by assumption) ?_)
  simp only [Act.put, List.getElem_toArray, List.getElem_cons_succ, List.getElem_cons_zero, List.setIfInBounds_toArray, List.set_cons_zero, List.set_cons_succ]
  first
    | (refine wpAnyH_take (i := 12) (v := ?_) rfl (by kernel_rfl) (by kernel_rfl) (by kernel_rfl) (fun _ _ _ h => h) (Or.inl ⟨by rfl, ?_⟩) (by assumption) ?_; rotate_left; (intro wx hSx; have hS0 := hSx; go_simp; first | done | with_reducible rfl))
    | (refine wpAnyH_take (i := 12) (v := undef) rfl (by kernel_rfl) (by kernel_rfl) (by kernel_rfl) (fun _ _ _ h => h) (Or.inr ⟨by rfl, rfl⟩) (by assumption) ?_)
  simp only [Act.put, List.getElem_toArray, List.getElem_cons_succ, List.getElem_cons_zero, List.setIfInBounds_toArray, List.set_cons_zero, List.set_cons_succ]
  first
    | (refine wpAnyH_take (i := 13) (v := ?_) rfl (by kernel_rfl) (by kernel_rfl) (by kernel_rfl) (fun _ _ _ h => h) (Or.inl ⟨by rfl, ?_⟩) (by assumption) ?_; rotate_left; (intro wx hSx; have hS0 := hSx; go_simp; first | done | with_reducible rfl))
    | (refine wpAnyH_take (i := 13) (v := undef) rfl (by kernel_rfl) (by kernel_rfl) (by kernel_rfl) (fun _ _ _ h => h) (Or.inr ⟨by rfl, rfl⟩) (by assumption) ?_)
  simp only [Act.put, List.getElem_toArray, List.getElem_cons_succ, List.getElem_cons_zero, List.setIfInBounds_toArray, List.set_cons_zero, List.set_cons_succ]
  first
    | (refine wpAnyH_take (i := 14) (v := ?_) rfl (by kernel_rfl) (by kernel_rfl) (by kernel_rfl) (fun _ _ _ h => h) (Or.inl ⟨by rfl, ?_⟩) (by assumption) ?_; rotate_left; (intro wx hSx; have hS0 := hSx; go_simp; first | done | with_reducible rfl))
    | (refine wpAnyH_take (i := 14) (v := undef) rfl (by kernel_rfl) (by kernel_rfl) (by kernel_rfl) (fun _ _ _ h => h) (Or.inr ⟨by rfl, rfl⟩) (by assumption) ?_)
  simp only [Act.put, List.getElem_toArray, List.getElem_cons_succ, List.getElem_cons_zero, List.setIfInBounds_toArray, List.set_cons_zero, List.set_cons_succ]
  first
    | (refine wpAnyH_take (i := 15) (v := ?_) rfl (by kernel_rfl) (by kernel_rfl) (by kernel_rfl) (fun _ _ _ h => h) (Or.inl ⟨by rfl, ?_⟩) (by assumption) ?_; rotate_left; (intro wx hSx; have hS0 := hSx; go_simp; first | done | with_reducible rfl))
    | (refine wpAnyH_take (i := 15) (v := undef) rfl (by kernel_rfl) (by kernel_rfl) (by kernel_rfl) (fun _ _ _ h => h) (Or.inr ⟨by rfl, rfl⟩) (by assumption) ?_)
  simp only [Act.put, List.getElem_toArray, List.getElem_cons_succ, List.getElem_cons_zero, List.setIfInBounds_toArray, List.set_cons_zero, List.set_cons_succ]
  first
    | (refine wpAnyH_take (i := 16) (v := ?_) rfl (by kernel_rfl) (by kernel_rfl) (by kernel_rfl) (fun _ _ _ h => h) (Or.inl ⟨by rfl, ?_⟩) (by assumption) ?_; rotate_left; (intro wx hSx; have hS0 := hSx; go_simp; first | done | with_reducible rfl))
    | (refine wpAnyH_take (i := 16) (v := undef) rfl (by kernel_rfl) (by kernel_rfl) (by kernel_rfl) (fun _ _ _ h => h) (Or.inr ⟨by rfl, rfl⟩) (by assumption) ?_)
  simp only [Act.put, List.getElem_toArray, List.getElem_cons_succ, List.getElem_cons_zero, List.setIfInBounds_toArray, List.set_cons_zero, List.set_cons_succ]
  first
    | (refine wpAnyH_take (i := 17) (v := ?_) rfl (by kernel_rfl) (by kernel_rfl) (by kernel_rfl) (fun _ _ _ h => h) (Or.inl ⟨by rfl, ?_⟩) (by assumption) ?_; rotate_left; (intro wx hSx; have hS0 := hSx; go_simp; first | done | with_reducible rfl))
    | (refine wpAnyH_take (i := 17) (v := undef) rfl (by kernel_rfl) (by kernel_rfl) (by kernel_rfl) (fun _ _ _ h => h) (Or.inr ⟨by rfl, rfl⟩) (by assumption) ?_)
  simp only [Act.put, List.getElem_toArray, List.getElem_cons_succ, List.getElem_cons_zero, List.setIfInBounds_toArray, List.set_cons_zero, List.set_cons_succ]
  first
    | (refine wpAnyH_take (i := 18) (v := ?_) rfl (by kernel_rfl) (by kernel_rfl) (by kernel_rfl) (fun _ _ _ h => h) (Or.inl ⟨by rfl, ?_⟩) (by assumption) ?_; rotate_left; (intro wx hSx; have hS0 := hSx; go_simp; first | done | with_reducible rfl))
    | (refine wpAnyH_take (i := 18) (v := undef) rfl (by kernel_rfl) (by kernel_rfl) (by kernel_rfl) (fun _ _ _ h => h) (Or.inr ⟨by rfl, rfl⟩) (by assumption) ?_)
  simp only [Act.put, List.getElem_toArray, List.getElem_cons_succ, List.getElem_cons_zero, List.setIfInBounds_toArray, List.set_cons_zero, List.set_cons_succ]
  first
    | (refine wpAnyH_take (i := 19) (v := ?_) rfl (by kernel_rfl) (by kernel_rfl) (by kernel_rfl) (fun _ _ _ h => h) (Or.inl ⟨by rfl, ?_⟩) (by assumption) ?_; rotate_left; (intro wx hSx; have hS0 := hSx; go_simp; first | done | with_reducible rfl))
    | (refine wpAnyH_take (i := 19) (v := undef) rfl (by kernel_rfl) (by kernel_rfl) (by kernel_rfl) (fun _ _ _ h => h) (Or.inr ⟨by rfl, rfl⟩) (by assumption) ?_)
  simp only [Act.put, List.getElem_toArray, List.getElem_cons_succ, List.getElem_cons_zero, List.setIfInBounds_toArray, List.set_cons_zero, List.set_cons_succ]
  first
    | (refine wpAnyH_take (i := 20) (v := ?_) rfl (by kernel_rfl) (by kernel_rfl) (by kernel_rfl) (fun _ _ _ h => h) (Or.inl ⟨by rfl, ?_⟩) (by assumption) ?_; rotate_left; (intro wx hSx; have hS0 := hSx; go_simp; first | done | with_reducible rfl))
    | (refine wpAnyH_take (i := 20) (v := undef) rfl (by kernel_rfl) (by kernel_rfl) (by kernel_rfl) (fun _ _ _ h => h) (Or.inr ⟨by rfl, rfl⟩) (by assumption) ?_)
  simp only [Act.put, List.getElem_toArray, List.getElem_cons_succ, List.getElem_cons_zero, List.setIfInBounds_toArray, List.set_cons_zero, List.set_cons_succ]
  refine wpAnyH_done (by kernel_rfl) ?_ _
  have HO5 := hide HO2.out.drew
  go_wp2
  refine bodyPost_ret (by simp [results, Tryz.results64, go_sem]; rfl) rfl ?_
  exact ⟨rfl, HO5.out⟩

end Go.Proofs.YtegadgncggbeoaaGreat
