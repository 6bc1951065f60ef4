/- Open of the program's pager, whatever the device. Over the translation. -/
import Derived.Test.YtegadgncggbeoaaGreatQPLe
namespace Go.Proofs.YtegadgncggbeoaaGreat
open Go.RowKit Apo

set_option maxRecDepth 100000 in
set_option maxHeartbeats 2000000 in
theorem cpload_well {Od Of : Nat → Prop} {w : World} {p d pf : Nat} {pw pn : Option Addr} {e : Nat} {r : Spn} {f : Fr} {ended : Bool} {st : Sd} (h : CPb Od Of w p d pf pw pn e r f ended st) (hc : st.C.length ≤ 1073741824) (E S0 P0 Z0 : Nat) (hs : (⟨E, S0, P0, Z0⟩ : Sup).Ok) (hne : ¬ (S0 = 0 ∧ P0 = 0 ∧ Z0 = 0)) (b : List Int) (hrd : st.rdText2 (firstP S0) Z0 = (b, 0)) (hnd : P0 = needP b.length) (hcl : (f.claim ⟨S0, P0⟩).1 = true) :
    Calls Tryz.prog 64 #[.pointer (some ⟨p, 0, none⟩), .agg #[.int .u64 E, .int .u32 S0, .int .u32 P0, .int .u32 Z0]] w fun en w' => ∃ v, en = .returned (.tuple #[v, .int .i64 0]) ∧ TldR w' w.heap.size v b ∧ CPb Od (Gro Of w w') w' p d pf pw pn e ⟨S0, P0⟩ (f.claim ⟨S0, P0⟩).2 ended st ∧ Onl (fun i => i = p ∨ Of i) w w' := by
  obtain ⟨hs1, hs2, hs3, hs4⟩ := hs
  simp only at hs1 hs2 hs3 hs4
  have b0 := (Below.refl _ w).alloc (Nat.le_refl _) (.cells #[.int .u64 E, .int .u32 S0, .int .u32 P0, .int .u32 Z0] 119)
  have k0 := Ob.new w [.int .u64 E, .int .u32 S0, .int .u32 P0, .int .u32 Z0] 119
  have T0 := h.below b0
  have C1 := crtext_any (T0.below ((Below.refl _ _).drew)).dv hc S0 Z0
  rw [hrd] at C1
  have x0 := T0.ob.cell 0
  have y1 := k0.cell 1
  have y2 := k0.cell 2
  have y3 := k0.cell 3
  simp only [List.getElem?_cons_zero, List.getElem?_cons_succ] at x0 y1 y2 y3
  have wS : IntKind.i64.wrap (S0 : Int) = (S0 : Int) := by rw [IntKind.wrap_i64]; omega
  have wP : IntKind.i64.wrap (P0 : Int) = (P0 : Int) := by rw [IntKind.wrap_i64]; omega
  have wZ : IntKind.i64.wrap (Z0 : Int) = (Z0 : Int) := by rw [IntKind.wrap_i64]; omega
  have hsz : (w.alloc (.cells #[.int .u64 E, .int .u32 S0, .int .u32 P0, .int .u32 Z0] 119)).heap.size = w.heap.size + 1 := by simp
  have hpl := h.ob.lt
  have H := hide h
  have HT0 := hide T0
  have HK0 := hide k0
  have HC1 := hide C1
  have HB0 := hide b0
  have HND := hide hnd
  have HCL := hide hcl
  clear h b0 k0 T0 C1 hrd hnd hcl
  have hdd : decide ((⟨E, S0, P0, Z0⟩ : Sup) = ⟨E, 0, 0, 0⟩) = false := by
    rw [decide_eq_false_iff_not]
    intro q
    exact hne (by injection q with _ q1 q2 q3; exact ⟨q1, q2, q3⟩)
  have q1 : ∀ W, (binOp .eql 119 (.agg #[.int .u64 E, .int .u32 S0, .int .u32 P0, .int .u32 Z0]) (.agg #[.int .u64 E, .int .u32 0, .int .u32 0, .int .u32 0])).run Tryz.prog W = .ok (.bool false) W := fun W => by
    have := eqS ⟨E, S0, P0, Z0⟩ ⟨E, 0, 0, 0⟩ W
    rw [hdd] at this
    exact this
  go_enter Tryz.func64, Tryz.ntmps64
  go_wp2
  clear q1 hdd hne
  generalize w.alloc (.cells #[.int .u64 E, .int .u32 S0, .int .u32 P0, .int .u32 Z0] 119) = W0 at HT0 HK0 HC1 HB0 x0 y1 y2 y3 hsz ⊢
  go_region_held3 (fun W' => W'.cell? ⟨p, 0, none⟩ = some (.pointer (some ⟨d, 0, none⟩)) ∧ W'.cell? ⟨w.heap.size, 1, none⟩ = some (.int .u32 S0) ∧ W'.cell? ⟨w.heap.size, 3, none⟩ = some (.int .u32 Z0)) (go_keep) (first
    | (go_at_call 91; refine HC1.out.mono ?_; rintro en w1 ⟨v1, rfl, t1, b1⟩; have T1 := HT0.out.below ((Below.refl _ W0).drew.trans b1); have k1 := HK0.out.old ((Below.refl _ W0).drew.trans b1); have x0 := T1.ob.cell 0; have x2 := T1.ob.cell 2; have x3 := T1.ob.cell 3; have g2 := T1.ob.frozen 2; have g3 := T1.ob.frozen 3; have y1 := k1.cell 1; have y2 := k1.cell 2; have y3 := k1.cell 3; simp only [List.getElem?_cons_zero, List.getElem?_cons_succ] at x0 x2 x3 y1 y2 y3; have HT1 := hide T1; have HB1 := hide b1; have HTL := hide t1; clear t1 b1 T1 k1))
  obtain ⟨a1, c1, hv1, rd1, n1, l1, bc1⟩ := HTL.out
  subst hv1
  rename_i hHeld
  clear hHeld
  have T1 := HT1.out
  have hW1 : W0.heap.size ≤ w1.heap.size := HB1.out.size
  have o2 : Onl (fun i => i = p) w1 ((w1.setCell ⟨p, 2, none⟩ (.int .i64 S0)).setCell ⟨p, 3, none⟩ (.int .i64 P0)) := ((Onl.refl (fun i => i = p) w1).set (p := p) (.inl rfl) _).set (p := p) (.inl rfl) _
  have T2 : CPb Od Of ((w1.setCell ⟨p, 2, none⟩ (.int .i64 S0)).setCell ⟨p, 3, none⟩ (.int .i64 P0)) p d pf pw pn e ⟨S0, P0⟩ f ended st :=
    ⟨(T1.ob.set 2 (.int .i64 S0)).set 3 (.int .i64 P0), T1.dv.onl o2 (fun i q => (T1.a1 i q).2), T1.fr.onl o2 (fun i q => T1.a2 i q), T1.a1, T1.a2, fun i q => Nat.lt_of_lt_of_le (T1.l1 i q) o2.size, fun i q => Nat.lt_of_lt_of_le (T1.l2 i q) o2.size, ⟨by show -9223372036854775808 ≤ (S0 : Int); omega, by show (S0 : Int) ≤ 9223372036854775807; omega, by show -9223372036854775808 ≤ (P0 : Int); omega, by show (P0 : Int) ≤ 9223372036854775807; omega⟩⟩
  have t2 : TldR ((w1.setCell ⟨p, 2, none⟩ (.int .i64 S0)).setCell ⟨p, 3, none⟩ (.int .i64 P0)) W0.heap.size (.slice a1 b.length c1) b := (show TldR w1 W0.heap.size (.slice a1 b.length c1) b from ⟨a1, c1, rfl, rd1, n1, l1, bc1⟩).onl o2 (fun i q => .inl (by omega))
  have z0 := (T1.ob.set 2 (.int .i64 S0)).cell 3
  have z1 := (T1.ob.set 2 (.int .i64 S0)).frozen 3
  simp only [List.set_cons_succ, List.set_cons_zero, List.getElem?_cons_zero, List.getElem?_cons_succ] at z0
  have hW2 := o2.size
  have HO2 := hide (show Onl (fun i => i = p ∨ Of i) w ((w1.setCell ⟨p, 2, none⟩ (.int .i64 S0)).setCell ⟨p, 3, none⟩ (.int .i64 P0)) from (((Onl.ofBelow HB0.out).trans (Onl.ofBelow ((Below.refl _ W0).drew.trans HB1.out))).trans (o2.mono (fun i q => .inl q))))
  have HT2 := hide T2
  have HTL2 := hide t2
  clear T1 o2 T2 t2 rd1 n1 l1 bc1 HTL HC1 HT1 x0 y3
  go_wp2
  generalize (w1.setCell ⟨p, 2, none⟩ (.int .i64 S0)).setCell ⟨p, 3, none⟩ (.int .i64 P0) = W2 at HT2 HTL2 HO2 hW2 ⊢
  have C3 := cneed_any (b.length : Int) W2.drew
  rw [← HND.out] at C3
  have T2 := HT2.out.below ((Below.refl _ W2).drew)
  have C4 := cclaim_any T2.fr T2.l2 ⟨S0, P0⟩ T2.rok
  rw [HCL.out] at C4
  have x2 := T2.ob.cell 2
  have x3 := T2.ob.cell 3
  have x4 := T2.ob.cell 4
  simp only [List.getElem?_cons_zero, List.getElem?_cons_succ] at x2 x3 x4
  have x2' : W2.cell? ⟨p, 2, none⟩ = some (.int .i64 S0) := x2
  have x3' : W2.cell? ⟨p, 3, none⟩ = some (.int .i64 P0) := x3
  have x4' : W2.cell? ⟨p, 4, none⟩ = some (.pointer (some ⟨pf, 0, none⟩)) := x4
  have HC4 := hide C4
  have HT2' := hide T2
  have hPP : ((P0 : Int) == (P0 : Int)) = true := by simp
  have hPn : ((P0 : Int) != (P0 : Int)) = false := by simp
  clear C4 T2 x2 x3 x4 g2 g3 z0 z1
  go_region_held3 (fun W' => W'.cell? ⟨p, 2, none⟩ = some (.int .i64 S0) ∧ W'.cell? ⟨p, 3, none⟩ = some (.int .i64 P0) ∧ W'.cell? ⟨p, 4, none⟩ = some (.pointer (some ⟨pf, 0, none⟩))) (go_keep) (first
    | (go_at_call 72; refine C3.mono ?_; rintro en wx ⟨rfl, rfl⟩)
    | (go_at_call 74; refine HC4.out.mono ?_; rintro en w4 ⟨rfl, k4, o4⟩; have m4 := HT2'.out.ob.onl o4 (fun q => HT2'.out.a2 p q rfl); have x2 := m4.cell 2; have x3 := m4.cell 3; have x4 := m4.cell 4; simp only [List.getElem?_cons_zero, List.getElem?_cons_succ] at x2 x3 x4; have HM4 := hide m4; have HK4 := hide k4; have HO4 := hide o4; clear m4 k4 o4))
  rename_i hHeld
  clear hHeld
  have hW4 : W2.heap.size ≤ w4.heap.size := HO4.out.size
  have O4 : Onl Of W2 w4 := (Onl.refl _ W2).drew.trans HO4.out
  have T2 := HT2.out
  have tl4 := HTL2.out.onl O4 (fun i q => .inl (by have := H.out.l2 i q; omega))
  have hg : ∀ i, Gro Of W2.drew w4 i → Gro Of w w4 i := fun i q => q.elim .inl (fun q => .inr ⟨by have z : W2.heap.size ≤ i := q.1; omega, q.2⟩)
  have T4 : CPb Od (Gro Of w w4) w4 p d pf pw pn e ⟨S0, P0⟩ (f.claim ⟨S0, P0⟩).2 ended st :=
    ⟨HM4.out, T2.dv.onl O4 (fun i q => (T2.a1 i q).1), HK4.out.mono hg, fun i q => ⟨fun z => z.elim (T2.a1 i q).1 (fun z => by have := H.out.l1 i q; omega), (T2.a1 i q).2⟩, fun i q => q.elim (T2.a2 i) (fun q z => by omega), fun i q => Nat.lt_of_lt_of_le (T2.l1 i q) hW4, fun i q => q.elim (fun q => Nat.lt_of_lt_of_le (T2.l2 i q) hW4) (fun q => q.2), T2.rok⟩
  have HT4 := hide T4
  have HTL4 := hide (show TldR w4 w.heap.size (.slice a1 b.length c1) b from by obtain ⟨a, c, e1, e2, e3, e4, e5⟩ := tl4; exact ⟨a, c, e1, e2, e3, fun x hx => ⟨by have := (e4 x hx).1; omega, (e4 x hx).2⟩, e5⟩)
  have HO5 := hide (HO2.out.more O4 (fun i q => .inl (.inr q)))
  clear T4 tl4 hg O4 T2
  go_wp2
  refine bodyPost_ret (by simp [results, Tryz.results64, go_sem]; rfl) rfl ?_
  exact ⟨_, rfl, HTL4.out, HT4.out, HO5.out⟩


/-- a device that has one -/
theorem copen_well {O : Nat → Prop} {w : World} {d : Nat} {st : Sd} (h : CDev O w d st) (hO : ∀ i, O i → i < w.heap.size) (hc : st.C.length ≤ 536870912) (E S0 P0 Z0 : Nat) (hld : st.load = (⟨E, S0, P0, Z0⟩, 0)) (hs : (⟨E, S0, P0, Z0⟩ : Sup).Ok) (hne : ¬ (S0 = 0 ∧ P0 = 0 ∧ Z0 = 0)) (b : List Int) (hrd : st.rdText2 (firstP S0) Z0 = (b, 0)) (hnd : P0 = needP b.length) (hcl : ((freeOf st).claim ⟨S0, P0⟩).1 = true) :
    Calls Tryz.prog 30 #[.pointer (some ⟨d, 0, none⟩)] w fun en w' => ∃ p v, en = .returned (.tuple #[.pointer (some ⟨p, 0, none⟩), v, .int .i64 0]) ∧ TldR w' w.heap.size v b ∧ CPx (Gro O w w') w' p d ⟨E, ⟨S0, P0⟩, ((freeOf st).claim ⟨S0, P0⟩).2, ((freeOf st).claim ⟨S0, P0⟩).2, (((freeOf st).claim ⟨S0, P0⟩).2.give ⟨S0, P0⟩).2, false⟩ st ∧ Below w.heap.size w w' := by
  refine (copen_pre h hO hc E S0 P0 Z0 hld (fun en w' => ∃ p v, en = .returned (.tuple #[.pointer (some ⟨p, 0, none⟩), v, .int .i64 0]) ∧ TldR w' w.heap.size v b ∧ CPx (Gro O w w') w' p d ⟨E, ⟨S0, P0⟩, ((freeOf st).claim ⟨S0, P0⟩).2, ((freeOf st).claim ⟨S0, P0⟩).2, (((freeOf st).claim ⟨S0, P0⟩).2.give ⟨S0, P0⟩).2, false⟩ st ∧ Below w.heap.size w w') ?_).mono (fun en w' ⟨u, e1, h1⟩ => by rw [e1]; exact h1)
  intro W p pf Of T hf hp B
  refine (cpload_well T (by omega) E S0 P0 Z0 hs hne b hrd hnd hcl).mono ?_
  rintro en W1 ⟨v, rfl, t1, T1, o1⟩
  obtain ⟨a, c, rfl, r1, n1, l1, c1⟩ := t1
  refine ⟨a, _, c, rfl, (cbegin_any T1).mono ?_⟩
  rintro en W2 ⟨rfl, ⟨Ow, On, pw, pn, x, l⟩, o⟩
  have hs := B.size
  have hs1 := o1.size
  have hpl := T.ob.lt
  have t2 : TldR W2 W.heap.size (.slice a b.length c) b := (show TldR W1 W.heap.size (.slice a b.length c) b from ⟨a, c, rfl, r1, n1, l1, c1⟩).onl o (fun i q => .inl (by omega))
  obtain ⟨a', c', e1, r2, n2, l2, c2⟩ := t2
  refine ⟨rfl, p, _, rfl, ⟨a', c', e1, r2, n2, fun x hx => ⟨by have := (l2 x hx).1; omega, (l2 x hx).2⟩, c2⟩, x.x (fun i q => ?_), Below.onl (Below.onl B o1 (fun i q => q.elim (fun q => by omega) (hf i)) (Nat.le_refl _)) o (fun i q => by omega) (Nat.le_refl _)⟩
  have hlt := x.lt i q
  rcases q with q | q | q | q | q
  · exact .inl q
  · exact .inr ⟨q.elim (hf i) (fun q => by omega), hlt⟩
  · exact .inr ⟨by have := l i (.inl q); omega, hlt⟩
  · exact .inr ⟨by have := l i (.inr q); omega, hlt⟩
  · exact .inr ⟨by omega, hlt⟩

set_option maxRecDepth 100000 in
set_option maxHeartbeats 2000000 in
/-- Load's own error -/
theorem copen_lerr {O : Nat → Prop} {w : World} {d : Nat} {st : Sd} (h : CDev O w d st) (hO : ∀ i, O i → i < w.heap.size) (hc : st.C.length ≤ 536870912) (her : ¬ st.load.2 = 0) :
    Calls Tryz.prog 30 #[.pointer (some ⟨d, 0, none⟩)] w fun en w' => en = .returned (.tuple #[.pointer none, .slice none 0 0, .int .i64 st.load.2]) ∧ Below w.heap.size w w' := by
  have C0 := cload_any h hO (by omega)
  obtain ⟨er, he⟩ : ∃ er, er = st.load.2 := ⟨_, rfl⟩
  obtain ⟨⟨E, S0, P0, Z0⟩, hsp⟩ : ∃ s, s = st.load.1 := ⟨_, rfl⟩
  rw [← he] at C0 her ⊢
  rw [← hsp] at C0
  unfold Sup.val Sup.cells at C0
  have her1 : (er != 0) = true := by simpa using her
  have her2 : (er == 0) = false := by simpa using her
  have HC0 := hide C0
  clear C0 h hO he hsp her
  go_enter Tryz.func30, Tryz.ntmps30
  go_wp2_with fail
  refine HC0.out.mono ?_
  rintro en w1 ⟨rfl, b1⟩
  have B1 : Below w.heap.size w (w1.alloc (.cells #[.int .u64 E, .int .u32 S0, .int .u32 P0, .int .u32 Z0] 119)) := b1.alloc b1.size _
  have HB1 := hide B1
  clear b1 B1 HC0
  go_wp2
  refine bodyPost_ret (by simp [results, Tryz.results30, go_sem]; rfl) rfl ?_
  exact ⟨rfl, HB1.out⟩

set_option maxRecDepth 100000 in
set_option maxHeartbeats 2000000 in
/-- load's error -/
theorem copen_perr {O : Nat → Prop} {w : World} {d : Nat} {st : Sd} (h : CDev O w d st) (hO : ∀ i, O i → i < w.heap.size) (hc : st.C.length ≤ 536870912) (E S0 P0 Z0 : Nat) (hld : st.load = (⟨E, S0, P0, Z0⟩, 0)) (er : Int) (her : ¬ er = 0)
    (hk : ∀ (W : World) (p pf : Nat) (Of : Nat → Prop), CPb O Of W p d pf none none E ⟨0, 0⟩ (newFr 1 ((st.S.length / 4 : Nat) : Int)) false st → (∀ i, Of i → w.heap.size ≤ i) → w.heap.size ≤ p → Below w.heap.size w W →
      Calls Tryz.prog 64 #[.pointer (some ⟨p, 0, none⟩), .agg #[.int .u64 E, .int .u32 S0, .int .u32 P0, .int .u32 Z0]] W fun en W1 => en = .returned (.tuple #[.slice none 0 0, .int .i64 er]) ∧ Onl (fun i => i = p ∨ Of i) W W1) :
    Calls Tryz.prog 30 #[.pointer (some ⟨d, 0, none⟩)] w fun en w' => en = .returned (.tuple #[.pointer none, .slice none 0 0, .int .i64 er]) ∧ Below w.heap.size w w' := by
  have her1 : (er != 0) = true := by simpa using her
  have her2 : (er == 0) = false := by simpa using her
  clear her
  have C0 := cload_any h hO (by omega)
  rw [hld] at C0
  unfold Sup.val Sup.cells at C0
  have H := hide h
  have HO := hide hO
  have HK := hide hk
  have HC0 := hide C0
  clear C0 h hO hk hld
  go_enter Tryz.func30, Tryz.ntmps30
  go_wp2_with fail
  refine HC0.out.mono ?_
  rintro en w1 ⟨rfl, b1⟩
  have k1 := Ob.new w1 [.int .u64 E, .int .u32 S0, .int .u32 P0, .int .u32 Z0] 119
  have B1 : Below w.heap.size w (w1.alloc (.cells #[.int .u64 E, .int .u32 S0, .int .u32 P0, .int .u32 Z0] 119)) := b1.alloc b1.size _
  have hw1 := b1.size
  have x0 := k1.cell 0
  have x1 := k1.cell 1
  have x2 := k1.cell 2
  have x3 := k1.cell 3
  simp only [List.getElem?_cons_zero, List.getElem?_cons_succ] at x0 x1 x2 x3
  have hsz : (w1.alloc (.cells #[.int .u64 E, .int .u32 S0, .int .u32 P0, .int .u32 Z0] 119)).heap.size = w1.heap.size + 1 := by simp
  have HK1 := hide k1
  have HB1 := hide B1
  clear b1 k1 B1 HC0
  go_wp2
  generalize w1.alloc (.cells #[.int .u64 E, .int .u32 S0, .int .u32 P0, .int .u32 Z0] 119) = W1 at HK1 HB1 x0 x1 x2 x3 hsz ⊢
  have C2 := cpages_any (H.out.onl (F := fun _ => False) (Onl.ofBelow HB1.out.drew) (fun _ _ q => q))
  have C3 := xnew_any 1 ((st.S.length / 4 : Nat) : Int) W1.drew (by decide)
  generalize hNN : st.S.length / 4 = NN at *
  have HC3 := hide C3
  clear C3
  go_region_held3 (fun W' => W'.cell? ⟨w1.heap.size, 0, none⟩ = some (.int .u64 E)) (go_keep) (first
    | (go_at_call 63; refine C2.mono ?_; rintro en wx ⟨rfl, rfl⟩)
    | (go_at_call 62; refine HC3.out.mono ?_; rintro en w3 ⟨pf, rfl, k3, b3⟩; have m3 := Ob.old (w := W1.drew) HK1.out b3; have x0 := m3.cell 0; simp only [List.getElem?_cons_zero] at x0; have HK3 := hide k3; have HM3 := hide m3; have HB3 := hide b3; clear k3 m3 b3))
  rename_i hHeld
  clear hHeld
  have hs1 : w1.heap.size + 1 ≤ w3.heap.size := by have : W1.heap.size ≤ w3.heap.size := HB3.out.size; omega
  have B4 : Below w.heap.size w (w3.alloc (.cells #[.pointer (some ⟨d, 0, none⟩), .int .u64 E, .int .i64 0, .int .i64 0, .pointer (some ⟨pf, 0, none⟩), .pointer none, .pointer none, .bool false] 125)) := (HB1.out.drew.trans (HB3.out.mono HB1.out.size)).alloc (by omega) _
  have m4 := HM3.out.alloc (.cells #[.pointer (some ⟨d, 0, none⟩), .int .u64 E, .int .i64 0, .int .i64 0, .pointer (some ⟨pf, 0, none⟩), .pointer none, .pointer none, .bool false] 125)
  have T4 : CPb O (fun i => W1.drew.heap.size ≤ i ∧ i < w3.heap.size) (w3.alloc (.cells #[.pointer (some ⟨d, 0, none⟩), .int .u64 E, .int .i64 0, .int .i64 0, .pointer (some ⟨pf, 0, none⟩), .pointer none, .pointer none, .bool false] 125)) w3.heap.size d pf none none E ⟨0, 0⟩ (newFr 1 ((NN : Nat) : Int)) false st :=
    ⟨Ob.new w3 [.pointer (some ⟨d, 0, none⟩), .int .u64 E, .int .i64 0, .int .i64 0, .pointer (some ⟨pf, 0, none⟩), .pointer none, .pointer none, .bool false] 125, H.out.onl (F := fun _ => False) (Onl.ofBelow B4) (fun _ _ q => q), HK3.out.below ((Below.refl _ w3).alloc (Nat.le_refl _) _), fun i q => ⟨fun z => by have := HO.out i q; have z1 : W1.heap.size ≤ i := z.1; omega, by have := HO.out i q; omega⟩, fun i q => by have := q.2; omega, fun i q => by have := HO.out i q; simp; omega, fun i q => by have := q.2; simp; omega, ⟨by decide, by decide, by decide, by decide⟩⟩
  have y0 := m4.cell 0
  have y1 := m4.cell 1
  have y2 := m4.cell 2
  have y3 := m4.cell 3
  simp only [List.getElem?_cons_zero, List.getElem?_cons_succ] at y0 y1 y2 y3
  have C5 := HK.out _ w3.heap.size pf _ T4 (fun i q => by have q1 : W1.heap.size ≤ i := q.1; omega) (by omega) B4
  have HC5 := hide C5
  have HB4 := hide B4
  clear T4 C5 B4 m4 x0 x1 x2 x3 HK HC3 C2 HK3 HM3 hNN
  have hp4 : w.heap.size ≤ w3.heap.size := by omega
  have hq4 : w.heap.size ≤ W1.drew.heap.size := by show w.heap.size ≤ W1.heap.size; omega
  generalize w3.alloc (.cells #[.pointer (some ⟨d, 0, none⟩), .int .u64 E, .int .i64 0, .int .i64 0, .pointer (some ⟨pf, 0, none⟩), .pointer none, .pointer none, .bool false] 125) = W4 at HC5 HB4 y0 y1 y2 y3 ⊢
  go_wp2_with fail
  refine HC5.out.mono ?_
  rintro en W5 ⟨rfl, o5⟩
  have HB5 := hide (Below.onl HB4.out o5 (fun i q => q.elim (fun q => by omega) (fun q => Nat.le_trans hq4 q.1)) (Nat.le_refl _))
  clear o5 HC5 HB4 y0 y1 y2 y3
  go_wp2
  refine bodyPost_ret (by simp [results, Tryz.results30, go_sem]; rfl) rfl ?_
  exact ⟨rfl, HB5.out⟩

end Go.Proofs.YtegadgncggbeoaaGreat
namespace Apo
open Go Go.RowKit
/-- Open as it is meant: the error, or the pager and the root's bytes -/
def Sd.openC (st : Sd) : (Cg × List Int) × Int :=
  if st.load.2 = 0 then
    if st.load.1.st = 0 ∧ st.load.1.pg = 0 ∧ st.load.1.sz = 0 then ((⟨st.load.1.e, ⟨0, 0⟩, freeOf st, freeOf st, ((freeOf st).give ⟨0, 0⟩).2, false⟩, []), 0)
    else if (st.rdText2 (firstP st.load.1.st) st.load.1.sz).2 = 0 then
      if st.load.1.pg = needP (st.rdText2 (firstP st.load.1.st) st.load.1.sz).1.length ∧ ((freeOf st).claim ⟨st.load.1.st, st.load.1.pg⟩).1 = true then
        ((⟨st.load.1.e, ⟨st.load.1.st, st.load.1.pg⟩, ((freeOf st).claim ⟨st.load.1.st, st.load.1.pg⟩).2, ((freeOf st).claim ⟨st.load.1.st, st.load.1.pg⟩).2, (((freeOf st).claim ⟨st.load.1.st, st.load.1.pg⟩).2.give ⟨st.load.1.st, st.load.1.pg⟩).2, false⟩, (st.rdText2 (firstP st.load.1.st) st.load.1.sz).1), 0)
      else ((⟨0, ⟨0, 0⟩, freeOf st, freeOf st, freeOf st, true⟩, []), 50)
    else ((⟨0, ⟨0, 0⟩, freeOf st, freeOf st, freeOf st, true⟩, []), (st.rdText2 (firstP st.load.1.st) st.load.1.sz).2)
  else ((⟨0, ⟨0, 0⟩, freeOf st, freeOf st, freeOf st, true⟩, []), st.load.2)
end Apo
namespace Go.Proofs.YtegadgncggbeoaaGreat
open Go.RowKit Apo
def OpenTold (O : Nat → Prop) (w : World) (d : Nat) (st : Sd) (en : Ending) (w' : World) : Prop :=
  if st.openC.2 = 0 then ∃ p v, en = .returned (.tuple #[.pointer (some ⟨p, 0, none⟩), v, .int .i64 0]) ∧ TldR w' w.heap.size v st.openC.1.2 ∧ CPx (Gro O w w') w' p d st.openC.1.1 st
  else en = .returned (.tuple #[.pointer none, .slice none 0 0, .int .i64 st.openC.2])
theorem copen_gen {O : Nat → Prop} {w : World} {d : Nat} {st : Sd} (h : CDev O w d st) (hO : ∀ i, O i → i < w.heap.size) (hc : st.C.length ≤ 536870912) :
    Calls Tryz.prog 30 #[.pointer (some ⟨d, 0, none⟩)] w fun en w' => OpenTold O w d st en w' ∧ Below w.heap.size w w' := by
  have hok := load_ok h.ok
  unfold OpenTold Sd.openC
  by_cases h1 : st.load.2 = 0
  · simp only [if_pos h1]
    obtain ⟨⟨E, S0, P0, Z0⟩, hsp⟩ : ∃ s, st.load.1 = s := ⟨_, rfl⟩
    have hld : st.load = (⟨E, S0, P0, Z0⟩, 0) := by rw [← hsp, ← h1]
    rw [hsp] at hok
    simp only [hsp]
    by_cases h2 : S0 = 0 ∧ P0 = 0 ∧ Z0 = 0
    · simp only [if_pos h2]
      obtain ⟨rfl, rfl, rfl⟩ := h2
      exact (copen_none h hO hc E hld).mono (fun en w' ⟨p, v, e1, t1, x1, b1⟩ => ⟨⟨p, v, e1, t1, x1⟩, b1⟩)
    · simp only [if_neg h2]
      by_cases h3 : (st.rdText2 (firstP S0) Z0).2 = 0
      · simp only [if_pos h3]
        obtain ⟨b, hb⟩ : ∃ b, b = (st.rdText2 (firstP S0) Z0).1 := ⟨_, rfl⟩
        have hrd : st.rdText2 (firstP S0) Z0 = (b, 0) := by rw [hb, ← h3]
        rw [← hb]
        by_cases h4 : P0 = needP b.length
        · cases h5 : ((freeOf st).claim ⟨S0, P0⟩).1 with
          | true =>
            rw [if_pos (And.intro h4 rfl)]
            simp only [if_pos]
            exact (copen_well h hO hc E S0 P0 Z0 hld hok h2 b hrd h4 h5).mono (fun en w' ⟨p, v, e1, t1, x1, b1⟩ => ⟨⟨p, v, e1, t1, x1⟩, b1⟩)
          | false =>
            rw [if_neg (fun q => by cases q.2)]
            simp only [if_neg (show ¬ (50 : Int) = 0 by decide)]
            exact copen_perr h hO hc E S0 P0 Z0 hld 50 (by decide) (fun W p pf Of T _ _ _ => cpload_claim T (by omega) E S0 P0 Z0 hok h2 b hrd h4 h5)
        · rw [if_neg (fun q => h4 q.1)]
          simp only [if_neg (show ¬ (50 : Int) = 0 by decide)]
          exact copen_perr h hO hc E S0 P0 Z0 hld 50 (by decide) (fun W p pf Of T _ _ _ => cpload_need T (by omega) E S0 P0 Z0 hok h2 b hrd h4)
      · simp only [if_neg h3]
        exact copen_perr h hO hc E S0 P0 Z0 hld _ h3 (fun W p pf Of T _ _ _ => (cpload_rd T (by omega) E S0 P0 Z0 hok h2 h3).mono (fun en W1 ⟨e1, b1⟩ => ⟨e1, Onl.ofBelow b1⟩))
  · simp only [if_neg h1]
    exact copen_lerr h hO hc h1
end Go.Proofs.YtegadgncggbeoaaGreat
