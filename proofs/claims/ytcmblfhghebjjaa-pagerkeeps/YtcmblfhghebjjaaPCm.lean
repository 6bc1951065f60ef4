/- Commit of the program's Pager. Over the translation. -/
import Derived.Test.YtcmblfhghebjjaaPPu
import Derived.Test.YtcmblfhghebjjaaCSa
import Derived.BigRegion
namespace Apo
open Go Go.RowKit

/-- a root is committed: the error, the pager, the device -/
def Cg.commit (c : Cg) (st : Sd) (b : List Int) : Int × Cg × Sd :=
  if (c.put st b).1.2 ≠ 0 then ((c.put st b).1.2, (c.put st b).2)
  else if ((c.put st b).2.2.save ⟨c.e + 1, (c.put st b).1.1.a.toNat, (c.put st b).1.1.k.toNat, b.length⟩).1 = 0 then
    (0, ⟨c.e + 1, (c.put st b).1.1, (c.put st b).2.1.n, (c.put st b).2.1.n, ((c.put st b).2.1.n.give (c.put st b).1.1).2, false⟩, ((c.put st b).2.2.save ⟨c.e + 1, (c.put st b).1.1.a.toNat, (c.put st b).1.1.k.toNat, b.length⟩).2)
  else (((c.put st b).2.2.save ⟨c.e + 1, (c.put st b).1.1.a.toNat, (c.put st b).1.1.k.toNat, b.length⟩).1, { (c.put st b).2.1 with ended := true }, ((c.put st b).2.2.save ⟨c.e + 1, (c.put st b).1.1.a.toNat, (c.put st b).1.1.k.toNat, b.length⟩).2)
theorem layTo_le (st : Sd) (a : Int) (b : List Int) (i : Nat) : (layTo st a b i).2.C.length ≤ st.C.length + 4 * i := layTo_C st a b i
theorem put_C (c : Cg) (st : Sd) (b : List Int) : (c.put st b).2.2.C.length ≤ st.C.length + 4232 := by
  have : ∀ a, (st.wrText2 a b).2.C.length ≤ st.C.length + 4232 := by
    intro a
    unfold Sd.wrText2
    split
    · simp
    · have := layTo_C st a b (needP b.length)
      have := needP_le (b.length : Int)
      omega
  unfold Cg.put
  split
  · simp
  · split
    · simp
    · split
      · simp
      · split
        · exact this _
        · exact this _
/-- a span that was put -/
theorem put_span {c : Cg} {st : Sd} {b : List Int} (ok : OkFr c.f) (h : (c.put st b).1.2 = 0) : ∃ A n : Nat, (c.put st b).1.1 = ⟨A, n⟩ ∧ A ≤ 16384 ∧ n ≤ 1058 ∧ (c.put st b).2.1.ended = false ∧ (c.put st b).2.1.e = c.e ∧ b.length ≤ 131072 := by
  have hl := needP_le (b.length : Int)
  unfold Cg.put at h ⊢
  split at h
  · cases h
  · next h1 =>
    rw [if_neg h1]
    split at h
    · cases h
    · next h2 =>
      rw [if_neg h2]
      have hr := needP_room (size := (b.length : Int)) h2
      split at h
      · cases h
      · next h3 =>
        rw [if_neg h3]
        split at h
        · next h4 =>
          rw [if_pos h4]
          unfold Fr.take
          cases hq : c.f.first (needP b.length) with
          | none => exact ⟨0, _, rfl, by omega, hl, rfl, rfl, by omega⟩
          | some i =>
            have hi := List.mem_range.1 (List.mem_of_find?_eq_some hq)
            have := ok.len
            exact ⟨i, _, rfl, by omega, hl, rfl, rfl, by omega⟩
        · next h4 => exact absurd h h4
end Apo
namespace Go.Proofs.Ytcmblfhghebjjaa
open Go.RowKit Apo

theorem Pw.ofx {U : Nat → Prop} {w W : World} {p d : Nat} {c : Cg} {st : Sd} (h : CPx (Gro U w W) W p d c st) (o : Onl U w W) : ∃ pf pw pn Od Of Ow On, Pw U (fun i => i < w.heap.size ∧ ¬ U i) w W p d pf pw pn c st Od Of Ow On := by
  obtain ⟨Od, Of, Ow, On, pf, pw, pn, h, hin⟩ := h
  have no : ∀ i, i < w.heap.size ∧ ¬ U i → ¬ Gro U w W i := fun i q z => z.elim q.2 (fun z => absurd q.1 (Nat.not_lt.2 z.1))
  exact ⟨pf, pw, pn, Od, Of, Ow, On, h, fun i q => (hin i q).elim .inl (fun z => .inr z.1), o, fun i q => ⟨Nat.lt_of_lt_of_le q.1 o.size, fun z => no i q (hin i (.inl z)), fun z => no i q (hin i (.inr (.inl z))), fun z => no i q (hin i (.inr (.inr (.inl z)))), fun z => no i q (hin i (.inr (.inr (.inr (.inl z))))), fun z => no i q (hin i (.inr (.inr (.inr (.inr z)))))⟩⟩
set_option maxRecDepth 100000 in
theorem clastp_ob {w : World} {p d : Nat} {cs : List Value} {b : Bool} {e : Nat} (h : Ob w p 71 cs) (h0 : cs[0]? = some (.pointer (some ⟨d, 0, none⟩))) (h1 : cs[1]? = some (.int .u64 e)) (h7 : cs[7]? = some (.bool b)) (he : e < 18446744073709551615) :
    Calls Try.prog 30 #[.pointer (some ⟨p, 0, none⟩)] w fun en w' => en = .returned (.bool false) ∧ w = w' := by
  have C := cgoes_ob h h0 h7
  have c1 := (h.cell 1).trans h1
  have hb : ((e : Int) == 18446744073709551615) = false := by simp; omega
  clear h h0 h7 h1
  cases b with
  | true =>
    go_enter Try.func30, Try.ntmps30
    go_wp2_with fail
    refine C.mono ?_
    rintro en wx ⟨rfl, rfl⟩
    go_wp2
    go_ret
    exact ⟨rfl, rfl⟩
  | false =>
    go_enter Try.func30, Try.ntmps30
    go_wp2_with fail
    refine C.mono ?_
    rintro en wx ⟨rfl, rfl⟩
    go_wp2
    go_ret
    exact ⟨rfl, rfl⟩
set_option maxRecDepth 100000 in
theorem clastp_nil (w : World) : Calls Try.prog 30 #[.pointer none] w fun en w' => en = .returned (.bool false) ∧ w = w' := by
  go_enter Try.func30, Try.ntmps30
  go_wp2_with fail
  refine (cgoes_nil _).mono ?_
  rintro en wx ⟨rfl, rfl⟩
  go_wp2
  go_ret
  exact ⟨rfl, rfl⟩

set_option maxRecDepth 100000 in
set_option maxHeartbeats 4000000 in
theorem ccommit_any {U : Nat → Prop} {w : World} {p d : Nat} {c : Cg} {st : Sd} (h : CPx U w p d c st) (hE : c.e < 18446744073709551615) (hc : st.C.length ≤ 536870912) (ba : Option Addr) (bc : Nat) (b : List Int) (hr : Rd .u8 w ba b) (hn : ba = none → bc = 0) (hbc : b.length ≤ bc) (hbo : ∀ x, ba = some x → 0 < b.length → ¬ U x.block) (hby : ∀ z ∈ b, 0 ≤ z ∧ z ≤ 255) :
    Calls Try.prog 10 #[.pointer (some ⟨p, 0, none⟩), .slice ba b.length bc] w fun e w' => e = .returned (.int .i64 (c.commit st b).1) ∧ CPx (Gro U w w') w' p d (c.commit st b).2.1 (c.commit st b).2.2 ∧ Onl U w w' := by
  have C1 := cput_any h hc ba bc b hr hn hbc hbo hby
  obtain ⟨C0, okf⟩ : Calls Try.prog 30 #[.pointer (some ⟨p, 0, none⟩)] w (fun en w' => en = .returned (.bool false) ∧ w = w') ∧ OkFr c.f := by
    obtain ⟨Od, Of, Ow, On, pf, pw, pn, h, hin⟩ := h
    exact ⟨clastp_ob h.b.ob rfl rfl rfl hE, h.b.fr.ok⟩
  have hpC := put_C c st b
  have hps := put_span (c := c) (st := st) (b := b) okf
  have ecm : c.commit st b = if (c.put st b).1.2 ≠ 0 then ((c.put st b).1.2, (c.put st b).2) else if ((c.put st b).2.2.save ⟨c.e + 1, (c.put st b).1.1.a.toNat, (c.put st b).1.1.k.toNat, b.length⟩).1 = 0 then (0, ⟨c.e + 1, (c.put st b).1.1, (c.put st b).2.1.n, (c.put st b).2.1.n, ((c.put st b).2.1.n.give (c.put st b).1.1).2, false⟩, ((c.put st b).2.2.save ⟨c.e + 1, (c.put st b).1.1.a.toNat, (c.put st b).1.1.k.toNat, b.length⟩).2) else (((c.put st b).2.2.save ⟨c.e + 1, (c.put st b).1.1.a.toNat, (c.put st b).1.1.k.toNat, b.length⟩).1, { (c.put st b).2.1 with ended := true }, ((c.put st b).2.2.save ⟨c.e + 1, (c.put st b).1.1.a.toNat, (c.put st b).1.1.k.toNat, b.length⟩).2) := rfl
  generalize c.commit st b = RES at ecm ⊢
  generalize c.put st b = PT at *
  obtain ⟨⟨⟨sa, sk⟩, er⟩, c1, st1⟩ := PT
  have HE := hide ecm
  have HC1 := hide C1
  clear C1 h ecm hr hn hbo hby
  simp only at HE HC1 hps hpC
  by_cases hq : er = 0
  · obtain ⟨A, n, e1, hA, hn, hen, hee, hbl⟩ := hps hq
    simp only [Spn.mk.injEq] at e1
    obtain ⟨rfl, rfl⟩ := e1
    subst hq
    have ev : (⟨c.e + 1, (A : Int).toNat, (n : Int).toNat, b.length⟩ : Sup) = ⟨c.e + 1, A, n, b.length⟩ := by simp
    rw [if_neg (by simp), ev] at HE
    obtain ⟨E1, hE1⟩ : ∃ E, E = c.e + 1 := ⟨_, rfl⟩
    obtain ⟨L, hL⟩ : ∃ L, L = b.length := ⟨_, rfl⟩
    rw [← hE1, ← hL] at HE
    rw [← hL] at HC1 hbl
    rw [← hL]
    have wE : IntKind.u64.wrap ((c1.e : Int) + 1) = (E1 : Int) := by rw [hee, IntKind.wrap_u64]; omega
    have wA : IntKind.u32.wrap (A : Int) = (A : Int) := by rw [IntKind.wrap_u32]; omega
    have wn : IntKind.u32.wrap (n : Int) = (n : Int) := by rw [IntKind.wrap_u32]; omega
    have wL : IntKind.u32.wrap (L : Int) = (L : Int) := by rw [IntKind.wrap_u32]; omega
    have hsok : (⟨E1, A, n, L⟩ : Sup).Ok := ⟨by show E1 < _; omega, by show A < _; omega, by show n < _; omega, by show L < _; omega⟩
    have HSOK := hide hsok
    have HEN := hide hen
    have HEE := hide hee
    clear ev hE1 hL hsok hps hen hee
    go_enter Try.func10, Try.ntmps10
    go_wp2_with fail
    refine C0.mono ?_
    rintro e wx ⟨rfl, rfl⟩
    go_wp2_with fail
    refine HC1.out.mono ?_
    rintro e w1 ⟨rfl, x1, o1⟩
    obtain ⟨pf, pw, pn, Od, Of, Ow, On, P1⟩ := Pw.ofx x1 o1
    have T2 := P1.alloc (.cells #[.int .i64 A, .int .i64 n] 39)
    have m2 := Ob.new w1 [.int .i64 A, .int .i64 n] 39
    have hw1 := o1.size
    obtain ⟨d0, d1, d4, d5, d6, d7, dp⟩ := T2.cells
    have z0 := m2.cell 0
    have z1 := m2.cell 1
    simp only [List.getElem?_cons_zero, List.getElem?_cons_succ] at z0 z1
    have HT2 := hide T2
    have HM2 := hide m2
    clear x1 o1 P1 T2 m2 HC1 C0
    clear d4 d5 d7
    go_wp2
    have hsz : (w1.alloc (.cells #[.int .i64 A, .int .i64 n] 39)).heap.size = w1.heap.size + 1 := by simp
    generalize w1.alloc (.cells #[.int .i64 A, .int .i64 n] 39) = W2 at HT2 HM2 d0 d1 d6 z0 z1 dp hsz ⊢
    go_region_held3 (fun W' => W'.cell? ⟨p, 1, none⟩ = some (.int .u64 c1.e) ∧ W'.cell? ⟨w1.heap.size, 0, none⟩ = some (.int .i64 A) ∧ W'.cell? ⟨w1.heap.size, 1, none⟩ = some (.int .i64 n)) (go_keep) (fail)
    have T3 := (HT2.out.alloc (.cells #[.int .u64 E1, .int .u32 A, .int .u32 n, .int .u32 L] 66)).drew
    have m3 : Ob (W2.alloc (.cells #[.int .u64 E1, .int .u32 A, .int .u32 n, .int .u32 L] 66)).drew w1.heap.size 39 [.int .i64 A, .int .i64 n] := HM2.out.alloc _
    have n3 : Ob (W2.alloc (.cells #[.int .u64 E1, .int .u32 A, .int .u32 n, .int .u32 L] 66)).drew (w1.heap.size + 1) 66 [.int .u64 E1, .int .u32 A, .int .u32 n, .int .u32 L] := by
      have := Ob.new W2 [.int .u64 E1, .int .u32 A, .int .u32 n, .int .u32 L] 66
      rw [hsz] at this
      exact this
    rw [hsz] at T3
    generalize (W2.alloc (.cells #[.int .u64 E1, .int .u32 A, .int .u32 n, .int .u32 L] 66)).drew = W3 at T3 m3 n3 ⊢
    have C4 := csave_any T3.drew.c.b.dv T3.drew.c.b.l1 (by omega) ⟨E1, A, n, L⟩ HSOK.out
    unfold Sup.val Sup.cells at C4
    obtain ⟨p0, p1, _, _, _, _, _⟩ := T3.cells
    have y0 := n3.cell 0
    have y1 := n3.cell 1
    have y2 := n3.cell 2
    have y3 := n3.cell 3
    simp only [List.getElem?_cons_zero, List.getElem?_cons_succ] at y0 y1 y2 y3
    have HT3 := hide T3
    have HM3 := hide m3
    have HN3 := hide n3
    have HC4 := hide C4
    clear T3 m3 n3 C4 d0 d1 d6 z0 z1 dp hsz HM2 HT2
    rename_i hHeld
    clear hHeld
    obtain ⟨sv, hsv⟩ : ∃ sv, sv = st1.save ⟨E1, A, n, L⟩ := ⟨_, rfl⟩
    rw [← hsv] at HC4 HE
    have HSV := hide hsv
    clear hsv
    go_wp2
    go_region_held3 (fun W' => W'.cell? ⟨p, 0, none⟩ = some (.pointer (some ⟨d, 0, none⟩)) ∧ W'.cell? ⟨w1.heap.size + 1, 0, none⟩ = some (.int .u64 E1) ∧ W'.cell? ⟨w1.heap.size + 1, 1, none⟩ = some (.int .u32 A) ∧ W'.cell? ⟨w1.heap.size + 1, 2, none⟩ = some (.int .u32 n) ∧ W'.cell? ⟨w1.heap.size + 1, 3, none⟩ = some (.int .u32 L)) (go_keep) (first
      | (go_at_call 32; refine HC5.out.mono ?_; rintro e w5 ⟨rfl, hw5⟩; have T5 := HT4.out.ends (sv.1 != 0); have m5 := HM4.out.set_other (q := p) (i := 7) (HT4.out.oth w1.heap.size (.inl (.inr rfl))).2.2.2.2.2 (.bool (sv.1 != 0)); have n5 := HN4.out.set_other (q := p) (i := 7) (HT4.out.oth (w1.heap.size + 1) (.inr rfl)).2.2.2.2.2 (.bool (sv.1 != 0)); rw [← hw5] at T5 m5 n5; clear hw5; obtain ⟨p0, p1, p4, p5, p6, p7, _⟩ := T5.cells; have y0 := n5.cell 0; have y1 := n5.cell 1; have y2 := n5.cell 2; have y3 := n5.cell 3; simp only [List.getElem?_cons_zero, List.getElem?_cons_succ] at y0 y1 y2 y3; have HT5 := hide T5; have HM5 := hide m5; have HN5 := hide n5; clear T5 m5 n5)
      | (go_at_call 25; refine HC4.out.mono ?_; rintro e w4 ⟨rfl, k4, o4⟩; have T4 := HT3.out.drew.turnD k4 o4; have m4 : Ob w4 w1.heap.size 39 _ := Ob.onl (w := W3.drew) HM3.out o4 (HT3.out.oth w1.heap.size (.inl (.inr rfl))).2.1; have n4 : Ob w4 (w1.heap.size + 1) 66 _ := Ob.onl (w := W3.drew) HN3.out o4 (HT3.out.oth (w1.heap.size + 1) (.inr rfl)).2.1; have C5 := cends_ob T4.ob (by simp) sv.1; obtain ⟨p0, p1, p4, p5, p6, p7, _⟩ := T4.cells; have y0 := n4.cell 0; have y1 := n4.cell 1; have y2 := n4.cell 2; have y3 := n4.cell 3; simp only [List.getElem?_cons_zero, List.getElem?_cons_succ] at y0 y1 y2 y3; have HT4 := hide T4; have HM4 := hide m4; have HN4 := hide n4; have HC5 := hide C5; clear T4 m4 n4 C5 k4 o4))
    rename_i hHeld
    clear hHeld HC4 HC5 HT3 HM3 HN3 HM4 HN4 HT4
    by_cases hq : sv.1 = 0
    · have HR : Hid (RES = (0, ⟨E1, ⟨A, n⟩, c1.n, c1.n, (c1.n.give ⟨A, n⟩).2, false⟩, sv.2)) := hide (by have := HE.out; rw [if_pos hq] at this; exact this)
      have T5 := HT5.out
      have e5 : (sv.1 != 0) = false := by simpa using hq
      rw [e5] at T5 p7
      have hpA : w1.heap.size ≠ p := (T5.oth w1.heap.size (.inl (.inr rfl))).2.2.2.2.2
      have hpB : w1.heap.size + 1 ≠ p := (T5.oth (w1.heap.size + 1) (.inr rfl)).2.2.2.2.2
      have b0 : Ob w5 p 71 [.pointer (some ⟨d, 0, none⟩), .int .u64 c1.e, .int .i64 c1.r.a, .int .i64 c1.r.k, .pointer (some ⟨pf, 0, none⟩), .pointer (some ⟨pw, 0, none⟩), .pointer (some ⟨pn, 0, none⟩), .bool false] := T5.ob
      have m0 : Ob w5 w1.heap.size 39 [.int .i64 A, .int .i64 n] := HM5.out
      have n0 : Ob w5 (w1.heap.size + 1) 66 [.int .u64 E1, .int .u32 A, .int .u32 n, .int .u32 L] := HN5.out
      have b1 := b0.set 1 (.int .u64 E1)
      have b2 := b1.set 2 (.int .i64 A)
      have b3 := b2.set 3 (.int .i64 n)
      have b4 := b3.set 4 (.pointer (some ⟨pn, 0, none⟩))
      simp only [List.set_cons_succ, List.set_cons_zero] at b1 b2 b3 b4
      have m1 := m0.set_other (q := p) (i := 1) hpA (.int .u64 E1)
      have m2 := m1.set_other (q := p) (i := 2) hpA (.int .i64 A)
      have m3 := m2.set_other (q := p) (i := 3) hpA (.int .i64 n)
      have m4 := m3.set_other (q := p) (i := 4) hpA (.pointer (some ⟨pn, 0, none⟩))
      have n1 := n0.set_other (q := p) (i := 1) hpB (.int .u64 E1)
      have n2 := n1.set_other (q := p) (i := 2) hpB (.int .i64 A)
      have n3 := n2.set_other (q := p) (i := 3) hpB (.int .i64 n)
      have n4 := n3.set_other (q := p) (i := 4) hpB (.pointer (some ⟨pn, 0, none⟩))
      have o5 : Onl (fun i => i = p) w5 ((((w5.setCell ⟨p, 1, none⟩ (.int .u64 E1)).setCell ⟨p, 2, none⟩ (.int .i64 A)).setCell ⟨p, 3, none⟩ (.int .i64 n)).setCell ⟨p, 4, none⟩ (.pointer (some ⟨pn, 0, none⟩))).drew := (((((Onl.refl (fun i => i = p) w5).set (p := p) (.inl rfl) _).set (p := p) (.inl rfl) _).set (p := p) (.inl rfl) _).set (p := p) (.inl rfl) _).drew
      have a06 : w5.drew.cell? ⟨p, 6, none⟩ = some (.pointer (some ⟨pn, 0, none⟩)) := b0.cell 6
      have a00 : w5.drew.cell? ⟨w1.heap.size, 0, none⟩ = some (.int .i64 A) := m0.cell 0
      have a01 : w5.drew.cell? ⟨w1.heap.size, 1, none⟩ = some (.int .i64 n) := m0.cell 1
      have a0e : w5.drew.cell? ⟨w1.heap.size + 1, 0, none⟩ = some (.int .u64 E1) := n0.cell 0
      have a16 : (w5.setCell ⟨p, 1, none⟩ (.int .u64 E1)).drew.cell? ⟨p, 6, none⟩ = some (.pointer (some ⟨pn, 0, none⟩)) := b1.cell 6
      have a10 : (w5.setCell ⟨p, 1, none⟩ (.int .u64 E1)).drew.cell? ⟨w1.heap.size, 0, none⟩ = some (.int .i64 A) := m1.cell 0
      have a11 : (w5.setCell ⟨p, 1, none⟩ (.int .u64 E1)).drew.cell? ⟨w1.heap.size, 1, none⟩ = some (.int .i64 n) := m1.cell 1
      have a1e : (w5.setCell ⟨p, 1, none⟩ (.int .u64 E1)).drew.cell? ⟨w1.heap.size + 1, 0, none⟩ = some (.int .u64 E1) := n1.cell 0
      have a26 : ((w5.setCell ⟨p, 1, none⟩ (.int .u64 E1)).setCell ⟨p, 2, none⟩ (.int .i64 A)).drew.cell? ⟨p, 6, none⟩ = some (.pointer (some ⟨pn, 0, none⟩)) := b2.cell 6
      have a20 : ((w5.setCell ⟨p, 1, none⟩ (.int .u64 E1)).setCell ⟨p, 2, none⟩ (.int .i64 A)).drew.cell? ⟨w1.heap.size, 0, none⟩ = some (.int .i64 A) := m2.cell 0
      have a21 : ((w5.setCell ⟨p, 1, none⟩ (.int .u64 E1)).setCell ⟨p, 2, none⟩ (.int .i64 A)).drew.cell? ⟨w1.heap.size, 1, none⟩ = some (.int .i64 n) := m2.cell 1
      have a2e : ((w5.setCell ⟨p, 1, none⟩ (.int .u64 E1)).setCell ⟨p, 2, none⟩ (.int .i64 A)).drew.cell? ⟨w1.heap.size + 1, 0, none⟩ = some (.int .u64 E1) := n2.cell 0
      have a36 : (((w5.setCell ⟨p, 1, none⟩ (.int .u64 E1)).setCell ⟨p, 2, none⟩ (.int .i64 A)).setCell ⟨p, 3, none⟩ (.int .i64 n)).drew.cell? ⟨p, 6, none⟩ = some (.pointer (some ⟨pn, 0, none⟩)) := b3.cell 6
      have a30 : (((w5.setCell ⟨p, 1, none⟩ (.int .u64 E1)).setCell ⟨p, 2, none⟩ (.int .i64 A)).setCell ⟨p, 3, none⟩ (.int .i64 n)).drew.cell? ⟨w1.heap.size, 0, none⟩ = some (.int .i64 A) := m3.cell 0
      have a31 : (((w5.setCell ⟨p, 1, none⟩ (.int .u64 E1)).setCell ⟨p, 2, none⟩ (.int .i64 A)).setCell ⟨p, 3, none⟩ (.int .i64 n)).drew.cell? ⟨w1.heap.size, 1, none⟩ = some (.int .i64 n) := m3.cell 1
      have a3e : (((w5.setCell ⟨p, 1, none⟩ (.int .u64 E1)).setCell ⟨p, 2, none⟩ (.int .i64 A)).setCell ⟨p, 3, none⟩ (.int .i64 n)).drew.cell? ⟨w1.heap.size + 1, 0, none⟩ = some (.int .u64 E1) := n3.cell 0
      have a46 : ((((w5.setCell ⟨p, 1, none⟩ (.int .u64 E1)).setCell ⟨p, 2, none⟩ (.int .i64 A)).setCell ⟨p, 3, none⟩ (.int .i64 n)).setCell ⟨p, 4, none⟩ (.pointer (some ⟨pn, 0, none⟩))).drew.cell? ⟨p, 6, none⟩ = some (.pointer (some ⟨pn, 0, none⟩)) := b4.cell 6
      have a40 : ((((w5.setCell ⟨p, 1, none⟩ (.int .u64 E1)).setCell ⟨p, 2, none⟩ (.int .i64 A)).setCell ⟨p, 3, none⟩ (.int .i64 n)).setCell ⟨p, 4, none⟩ (.pointer (some ⟨pn, 0, none⟩))).drew.cell? ⟨w1.heap.size, 0, none⟩ = some (.int .i64 A) := m4.cell 0
      have a41 : ((((w5.setCell ⟨p, 1, none⟩ (.int .u64 E1)).setCell ⟨p, 2, none⟩ (.int .i64 A)).setCell ⟨p, 3, none⟩ (.int .i64 n)).setCell ⟨p, 4, none⟩ (.pointer (some ⟨pn, 0, none⟩))).drew.cell? ⟨w1.heap.size, 1, none⟩ = some (.int .i64 n) := m4.cell 1
      have a4e : ((((w5.setCell ⟨p, 1, none⟩ (.int .u64 E1)).setCell ⟨p, 2, none⟩ (.int .i64 A)).setCell ⟨p, 3, none⟩ (.int .i64 n)).setCell ⟨p, 4, none⟩ (.pointer (some ⟨pn, 0, none⟩))).drew.cell? ⟨w1.heap.size + 1, 0, none⟩ = some (.int .u64 E1) := n4.cell 0
      have c01 : w5.drew.cell? ⟨p, 1, none⟩ = some (.int .u64 c1.e) := b0.cell 1
      have c12 : (w5.setCell ⟨p, 1, none⟩ (.int .u64 E1)).drew.cell? ⟨p, 2, none⟩ = some (.int .i64 c1.r.a) := b1.cell 2
      have c13 : (w5.setCell ⟨p, 1, none⟩ (.int .u64 E1)).drew.cell? ⟨p, 3, none⟩ = some (.int .i64 c1.r.k) := b1.cell 3
      have c23 : ((w5.setCell ⟨p, 1, none⟩ (.int .u64 E1)).setCell ⟨p, 2, none⟩ (.int .i64 A)).drew.cell? ⟨p, 3, none⟩ = some (.int .i64 c1.r.k) := b2.cell 3
      have c34 : (((w5.setCell ⟨p, 1, none⟩ (.int .u64 E1)).setCell ⟨p, 2, none⟩ (.int .i64 A)).setCell ⟨p, 3, none⟩ (.int .i64 n)).drew.cell? ⟨p, 4, none⟩ = some (.pointer (some ⟨pf, 0, none⟩)) := b3.cell 4
      have g01 : w5.drew.frozen? ⟨p, 1, none⟩ = false := b0.frozen 1
      have g12 : (w5.setCell ⟨p, 1, none⟩ (.int .u64 E1)).drew.frozen? ⟨p, 2, none⟩ = false := b1.frozen 2
      have g13 : (w5.setCell ⟨p, 1, none⟩ (.int .u64 E1)).drew.frozen? ⟨p, 3, none⟩ = false := b1.frozen 3
      have g23 : ((w5.setCell ⟨p, 1, none⟩ (.int .u64 E1)).setCell ⟨p, 2, none⟩ (.int .i64 A)).drew.frozen? ⟨p, 3, none⟩ = false := b2.frozen 3
      have g34 : (((w5.setCell ⟨p, 1, none⟩ (.int .u64 E1)).setCell ⟨p, 2, none⟩ (.int .i64 A)).setCell ⟨p, 3, none⟩ (.int .i64 n)).drew.frozen? ⟨p, 4, none⟩ = false := b3.frozen 4
      have HB4 := hide b4
      have HO5 := hide o5
      have HT5' := hide T5
      clear b0 b1 b2 b3 b4 m0 m1 m2 m3 m4 n0 n1 n2 n3 n4 o5 T5 HE e5 p0 p1 p4 p5 p6 p7 y0 y1 y2 y3
      rw [hq]
      go_wp2
      go_region_held3 (fun W' => W'.cell? ⟨p, 6, none⟩ = some (.pointer (some ⟨pn, 0, none⟩)) ∧ W'.cell? ⟨w1.heap.size, 0, none⟩ = some (.int .i64 A) ∧ W'.cell? ⟨w1.heap.size, 1, none⟩ = some (.int .i64 n) ∧ W'.cell? ⟨w1.heap.size + 1, 0, none⟩ = some (.int .u64 E1)) (go_keep) (fail)
      rename_i hHeld
      clear hHeld
      have T5 := HT5'.out
      have o5 := HO5.out
      have B : CPb (Gro Od W3.drew w4) On ((((w5.setCell ⟨p, 1, none⟩ (.int .u64 E1)).setCell ⟨p, 2, none⟩ (.int .i64 A)).setCell ⟨p, 3, none⟩ (.int .i64 n)).setCell ⟨p, 4, none⟩ (.pointer (some ⟨pn, 0, none⟩))).drew p d pn (some ⟨pw, 0, none⟩) (some ⟨pn, 0, none⟩) E1 ⟨A, n⟩ c1.n false sv.2 :=
        ⟨HB4.out, T5.c.b.dv.onl o5 (fun i q => (T5.c.b.a1 i q).2), T5.c.nr.onl o5 (fun i q => (T5.c.a4 i q).2.2.2), fun i q => ⟨fun z => (T5.c.a4 i z).1 q, (T5.c.b.a1 i q).2⟩, fun i q => (T5.c.a4 i q).2.2.2, fun i q => Nat.lt_of_lt_of_le (T5.c.b.l1 i q) o5.size, fun i q => Nat.lt_of_lt_of_le (T5.c.l4 i q) o5.size, ⟨by show -9223372036854775808 ≤ (A : Int); omega, by show (A : Int) ≤ 9223372036854775807; omega, by show -9223372036854775808 ≤ (n : Int); omega, by show (n : Int) ≤ 9223372036854775807; omega⟩⟩
      generalize ((((w5.setCell ⟨p, 1, none⟩ (.int .u64 E1)).setCell ⟨p, 2, none⟩ (.int .i64 A)).setCell ⟨p, 3, none⟩ (.int .i64 n)).setCell ⟨p, 4, none⟩ (.pointer (some ⟨pn, 0, none⟩))).drew = W6 at B o5 ⊢
      have HC7 := hide (cbegin_any B)
      have s6 := o5.size
      have O6 := T5.onl.more o5 (fun i q => T5.inn i (.inr (.inr (.inr (.inr q)))))
      have HO6 := hide O6
      have hin := T5.inn
      have HIN := hide hin
      clear T5 o5 B O6 hin a06 a00 a01 a0e a16 a10 a11 a1e a26 a20 a21 a2e a36 a30 a31 a3e a46 a40 a41 a4e c01 c12 c23 c13 c34 g01 g12 g13 g23 g34
      go_wp2_with fail
      refine HC7.out.mono ?_
      rintro e w7 ⟨rfl, ⟨Ow7, On7, pw7, pn7, x7, l7⟩, o7⟩
      have s0 := HO6.out.size
      have X7 : CPx (Gro U w w7) w7 p d ⟨E1, ⟨A, n⟩, c1.n, c1.n, (c1.n.give ⟨A, n⟩).2, false⟩ sv.2 := by
        refine x7.x (fun i q => ?_)
        have hlt := x7.lt i q
        have hor : U i ∨ w.heap.size ≤ i := by
          rcases q with q | q | q | q | q
          · exact HIN.out i (.inl q)
          · exact HIN.out i (.inr (.inr (.inr (.inl q))))
          · exact .inr (Nat.le_trans s0 (l7 i (.inl q)))
          · exact .inr (Nat.le_trans s0 (l7 i (.inr q)))
          · exact HIN.out i (.inr (.inr (.inr (.inr q))))
        exact hor.elim .inl (fun z => .inr ⟨z, hlt⟩)
      have HX7 := hide X7
      have HO7 := hide (HO6.out.more o7 (fun i q => HIN.out i (.inr (.inr (.inr (.inr q))))))
      clear X7 x7 o7 l7
      go_wp2
      go_ret
      rw [HR.out]
      exact ⟨rfl, HX7.out, HO7.out⟩
    · have HR : Hid (RES = (sv.1, { c1 with ended := true }, sv.2)) := hide (by have := HE.out; rw [if_neg hq] at this; exact this)
      have hqb : (sv.1 == 0) = false := by simpa using hq
      have T5 := HT5.out
      have e5 : (sv.1 != 0) = true := by simpa using hq
      rw [e5] at T5
      have HF := hide T5
      clear T5 e5 HE
      go_wp2
      go_ret
      rw [HR.out]
      exact ⟨rfl, HF.out.out⟩
  · have HR : Hid (RES = (er, c1, st1)) := hide (by have := HE.out; rw [if_pos hq] at this; exact this)
    have hqb : (er == 0) = false := by simpa using hq
    clear HE
    go_enter Try.func10, Try.ntmps10
    go_wp2_with fail
    refine C0.mono ?_
    rintro e wx ⟨rfl, rfl⟩
    go_wp2_with fail
    refine HC1.out.mono ?_
    rintro e w1 ⟨rfl, x1, o1⟩
    have x2 := x1.below ((Below.refl _ w1).alloc (Nat.le_refl _) (.cells #[.int .i64 sa, .int .i64 sk] 39))
    have o2 := o1.alloc (.cells #[.int .i64 sa, .int .i64 sk] 39)
    have HX := hide (x2.mono (U' := Gro U w (w1.alloc (.cells #[.int .i64 sa, .int .i64 sk] 39))) (fun i q => q.elim .inl (fun q => .inr ⟨q.1, by simp; omega⟩)))
    have HO := hide o2
    clear x1 o1 x2 o2
    go_wp2
    go_ret
    rw [HR.out]
    exact ⟨rfl, HX.out, HO.out⟩
end Go.Proofs.Ytcmblfhghebjjaa
