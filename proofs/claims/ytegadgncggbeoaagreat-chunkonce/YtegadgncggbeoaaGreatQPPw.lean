/- The program's Pager within one of its methods: what is its own, what is others'. Over the translation. -/
import Derived.Test.YtegadgncggbeoaaGreatQPPg
namespace Go.Proofs.YtegadgncggbeoaaGreat
open Go.RowKit Apo

/-- since w only blocks of U were changed; the blocks of X are others' -/
structure Pw (U X : Nat → Prop) (w W : World) (p d pf pw pn : Nat) (c : Cg) (st : Sd) (Od Of Ow On : Nat → Prop) : Prop where
  c : CPd Od Of Ow On W p d pf pw pn c st
  inn : ∀ i, Od i ∨ Of i ∨ Ow i ∨ On i ∨ i = p → U i ∨ w.heap.size ≤ i
  onl : Onl U w W
  oth : ∀ i, X i → i < W.heap.size ∧ ¬ Od i ∧ ¬ Of i ∧ ¬ Ow i ∧ ¬ On i ∧ i ≠ p
section
variable {U X : Nat → Prop} {w W W' : World} {p d pf pw pn : Nat} {c : Cg} {st : Sd} {Od Of Ow On : Nat → Prop}
theorem Pw.new (h : CPd Od Of Ow On w p d pf pw pn c st) (hU : ∀ i, Od i ∨ Of i ∨ Ow i ∨ On i ∨ i = p → U i) : Pw U (fun i => i < w.heap.size ∧ ¬ U i) w w p d pf pw pn c st Od Of Ow On :=
  ⟨h, fun i q => .inl (hU i q), Onl.refl _ _, fun i q => ⟨q.1, fun z => q.2 (hU i (.inl z)), fun z => q.2 (hU i (.inr (.inl z))), fun z => q.2 (hU i (.inr (.inr (.inl z)))), fun z => q.2 (hU i (.inr (.inr (.inr (.inl z))))), fun z => q.2 (hU i (.inr (.inr (.inr (.inr z)))))⟩⟩
theorem Pw.below (h : Pw U X w W p d pf pw pn c st Od Of Ow On) (b : Below W.heap.size W W') : Pw U X w W' p d pf pw pn c st Od Of Ow On :=
  ⟨h.c.below b, h.inn, h.onl.trans (Onl.ofBelow b), fun i q => ⟨Nat.lt_of_lt_of_le (h.oth i q).1 b.size, (h.oth i q).2⟩⟩
theorem Pw.drew (h : Pw U X w W p d pf pw pn c st Od Of Ow On) : Pw U X w W.drew p d pf pw pn c st Od Of Ow On := h.below ((Below.refl _ W).drew)
/-- a block that comes is another's -/
theorem Pw.alloc (h : Pw U X w W p d pf pw pn c st Od Of Ow On) (o : Obj) : Pw U (fun i => X i ∨ i = W.heap.size) w (W.alloc o) p d pf pw pn c st Od Of Ow On := by
  have h' := h.below ((Below.refl _ W).alloc (Nat.le_refl _) o)
  have lt := h.c.lt
  refine ⟨h'.c, h'.inn, h'.onl, fun i q => q.elim (h'.oth i) (fun z => ?_)⟩
  subst z
  exact ⟨by simp, fun z => absurd (lt _ (.inl z)) (Nat.lt_irrefl _), fun z => absurd (lt _ (.inr (.inl z))) (Nat.lt_irrefl _), fun z => absurd (lt _ (.inr (.inr (.inl z)))) (Nat.lt_irrefl _), fun z => absurd (lt _ (.inr (.inr (.inr (.inl z))))) (Nat.lt_irrefl _), fun z => absurd (lt _ (.inr (.inr (.inr (.inr z))))) (Nat.lt_irrefl _)⟩
/-- another's block is set -/
theorem Pw.other (h : Pw U X w W p d pf pw pn c st Od Of Ow On) {r : Nat} (hr : X r) (hw : w.heap.size ≤ r) (i : Nat) (v : Value) : Pw U X w (W.setCell ⟨r, i, none⟩ v) p d pf pw pn c st Od Of Ow On := by
  have o : Onl (fun k => k = r) W (W.setCell ⟨r, i, none⟩ v) := (Onl.refl (fun k => k = r) W).set (p := r) (.inl rfl) v
  have q := (h.oth r hr).2
  refine ⟨h.c.onl o ?_, h.inn, h.onl.set (p := r) (.inr hw) v, fun j z => ⟨by have := (h.oth j z).1; simpa [World.setCell] using this, (h.oth j z).2⟩⟩
  rintro j (z | z | z | z | z) rfl
  · exact q.1 z
  · exact q.2.1 z
  · exact q.2.2.1 z
  · exact q.2.2.2.1 z
  · exact q.2.2.2.2 z
theorem Pw.turnD (h : Pw U X w W p d pf pw pn c st Od Of Ow On) {st' : Sd} (k : CDev (Gro Od W W') W' d st') (o : Onl Od W W') : Pw U X w W' p d pf pw pn c st' (Gro Od W W') Of Ow On := by
  have lt : ∀ i, i < W.heap.size → i < W'.heap.size := fun i q => Nat.lt_of_lt_of_le q o.size
  have C := h.c
  have B := C.b
  have hp := B.ob.lt
  have gd : ∀ {P : Nat → Prop}, (∀ i, Od i → ¬ P i) → (∀ i, P i → i < W.heap.size) → ∀ i, Gro Od W W' i → ¬ P i := fun h1 h2 i q z => q.elim (fun q => h1 i q z) (fun q => absurd (h2 i z) (Nat.not_lt.2 q.1))
  refine ⟨⟨⟨B.ob.onl o (fun q => (B.a1 p q).2 rfl), k, B.fr.onl o (fun i q z => (B.a1 i z).1 q), fun i q => ⟨gd (fun i z => (B.a1 i z).1) B.l2 i q, fun z => gd (P := fun j => j = p) (fun j z => (B.a1 j z).2) (fun j z => by rw [z]; exact hp) i q z⟩, B.a2, Gro.lt B.l1 o.size, fun i q => lt i (B.l2 i q), B.rok⟩, C.wr.onl o (fun i q => (C.a3 i q).1), C.nr.onl o (fun i q => (C.a4 i q).1), fun i q => ⟨fun z => gd (P := Ow) (fun j z y => (C.a3 j y).1 z) C.l3 i z q, (C.a3 i q).2⟩, fun i q => ⟨fun z => gd (P := On) (fun j z y => (C.a4 j y).1 z) C.l4 i z q, (C.a4 i q).2⟩, fun i q => lt i (C.l3 i q), fun i q => lt i (C.l4 i q)⟩, ?_, ?_, ?_⟩
  · rintro i (q | q)
    · exact q.elim (fun q => h.inn i (.inl q)) (fun q => .inr (Nat.le_trans h.onl.size q.1))
    · exact h.inn i (.inr q)
  · exact h.onl.more o (fun i q => h.inn i (.inl q))
  · intro i q
    have z := h.oth i q
    exact ⟨lt i z.1, fun y => y.elim z.2.1 (fun y => absurd z.1 (Nat.not_lt.2 y.1)), z.2.2⟩
theorem Pw.turnF (h : Pw U X w W p d pf pw pn c st Od Of Ow On) {f' : Fr} (k : CFr (Gro Of W W') W' pf f') (o : Onl Of W W') : Pw U X w W' p d pf pw pn { c with f := f' } st Od (Gro Of W W') Ow On := by
  have lt : ∀ i, i < W.heap.size → i < W'.heap.size := fun i q => Nat.lt_of_lt_of_le q o.size
  have C := h.c
  have B := C.b
  have hp := B.ob.lt
  have gd : ∀ {P : Nat → Prop}, (∀ i, Of i → ¬ P i) → (∀ i, P i → i < W.heap.size) → ∀ i, Gro Of W W' i → ¬ P i := fun h1 h2 i q z => q.elim (fun q => h1 i q z) (fun q => absurd (h2 i z) (Nat.not_lt.2 q.1))
  refine ⟨⟨⟨B.ob.onl o (fun q => B.a2 p q rfl), B.dv.onl o (fun i q => (B.a1 i q).1), k, fun i q => ⟨fun z => gd (P := Od) (fun j z y => (B.a1 j y).1 z) B.l1 i z q, (B.a1 i q).2⟩, fun i q z => gd (P := fun j => j = p) (fun j z => B.a2 j z) (fun j z => by rw [z]; exact hp) i q z, fun i q => lt i (B.l1 i q), Gro.lt B.l2 o.size, B.rok⟩, C.wr.onl o (fun i q => (C.a3 i q).2.1), C.nr.onl o (fun i q => (C.a4 i q).2.1), fun i q => ⟨(C.a3 i q).1, fun z => gd (P := Ow) (fun j z y => (C.a3 j y).2.1 z) C.l3 i z q, (C.a3 i q).2.2⟩, fun i q => ⟨(C.a4 i q).1, fun z => gd (P := On) (fun j z y => (C.a4 j y).2.1 z) C.l4 i z q, (C.a4 i q).2.2⟩, fun i q => lt i (C.l3 i q), fun i q => lt i (C.l4 i q)⟩, ?_, ?_, ?_⟩
  · rintro i (q | q | q)
    · exact h.inn i (.inl q)
    · exact q.elim (fun q => h.inn i (.inr (.inl q))) (fun q => .inr (Nat.le_trans h.onl.size q.1))
    · exact h.inn i (.inr (.inr q))
  · exact h.onl.more o (fun i q => h.inn i (.inr (.inl q)))
  · intro i q
    have z := h.oth i q
    exact ⟨lt i z.1, z.2.1, fun y => y.elim z.2.2.1 (fun y => absurd z.1 (Nat.not_lt.2 y.1)), z.2.2.2⟩
theorem Pw.turnN (h : Pw U X w W p d pf pw pn c st Od Of Ow On) {f' : Fr} (k : CFr (Gro On W W') W' pn f') (o : Onl On W W') : Pw U X w W' p d pf pw pn { c with n := f' } st Od Of Ow (Gro On W W') := by
  have lt : ∀ i, i < W.heap.size → i < W'.heap.size := fun i q => Nat.lt_of_lt_of_le q o.size
  have C := h.c
  have B := C.b
  have hp := B.ob.lt
  refine ⟨⟨⟨B.ob.onl o (fun q => (C.a4 p q).2.2.2 rfl), B.dv.onl o (fun i q z => (C.a4 i z).1 q), B.fr.onl o (fun i q z => (C.a4 i z).2.1 q), B.a1, B.a2, fun i q => lt i (B.l1 i q), fun i q => lt i (B.l2 i q), B.rok⟩, C.wr.onl o (fun i q z => (C.a4 i z).2.2.1 q), k, C.a3, fun i q => ⟨fun z => q.elim (fun q => (C.a4 i q).1 z) (fun q => absurd (B.l1 i z) (Nat.not_lt.2 q.1)), fun z => q.elim (fun q => (C.a4 i q).2.1 z) (fun q => absurd (B.l2 i z) (Nat.not_lt.2 q.1)), fun z => q.elim (fun q => (C.a4 i q).2.2.1 z) (fun q => absurd (C.l3 i z) (Nat.not_lt.2 q.1)), fun z => q.elim (fun q => (C.a4 i q).2.2.2 z) (fun q => absurd hp (Nat.not_lt.2 (by rw [← z]; exact q.1)))⟩, fun i q => lt i (C.l3 i q), Gro.lt C.l4 o.size⟩, ?_, ?_, ?_⟩
  · rintro i (q | q | q | q | q)
    · exact h.inn i (.inl q)
    · exact h.inn i (.inr (.inl q))
    · exact h.inn i (.inr (.inr (.inl q)))
    · exact q.elim (fun q => h.inn i (.inr (.inr (.inr (.inl q))))) (fun q => .inr (Nat.le_trans h.onl.size q.1))
    · exact h.inn i (.inr (.inr (.inr (.inr q))))
  · exact h.onl.more o (fun i q => h.inn i (.inr (.inr (.inr (.inl q)))))
  · intro i q
    have z := h.oth i q
    exact ⟨lt i z.1, z.2.1, z.2.2.1, z.2.2.2.1, fun y => y.elim z.2.2.2.2.1 (fun y => absurd z.1 (Nat.not_lt.2 y.1)), z.2.2.2.2.2⟩
theorem Pw.ends (h : Pw U X w W p d pf pw pn c st Od Of Ow On) (b : Bool) : Pw U X w (W.setCell ⟨p, 7, none⟩ (.bool b)) p d pf pw pn { c with ended := b } st Od Of Ow On := by
  have o : Onl (fun k => k = p) W (W.setCell ⟨p, 7, none⟩ (.bool b)) := (Onl.refl (fun k => k = p) W).set (p := p) (.inl rfl) _
  have lt : ∀ i, i < W.heap.size → i < (W.setCell ⟨p, 7, none⟩ (.bool b)).heap.size := fun i q => Nat.lt_of_lt_of_le q o.size
  have C := h.c
  have B := C.b
  exact ⟨⟨⟨B.ob.set 7 (.bool b), B.dv.onl o (fun i q => (B.a1 i q).2), B.fr.onl o (fun i q => B.a2 i q), B.a1, B.a2, fun i q => lt i (B.l1 i q), fun i q => lt i (B.l2 i q), B.rok⟩, C.wr.onl o (fun i q => (C.a3 i q).2.2), C.nr.onl o (fun i q => (C.a4 i q).2.2.2), C.a3, C.a4, fun i q => lt i (C.l3 i q), fun i q => lt i (C.l4 i q)⟩, h.inn, h.onl.more o (fun i q => h.inn i (.inr (.inr (.inr (.inr q))))), fun i q => ⟨lt i (h.oth i q).1, (h.oth i q).2⟩⟩
theorem Pw.out (h : Pw U X w W p d pf pw pn c st Od Of Ow On) : CPx (Gro U w W) W p d c st ∧ Onl U w W :=
  ⟨⟨Od, Of, Ow, On, pf, pw, pn, h.c, fun i q => (h.inn i q).elim .inl (fun z => .inr ⟨z, h.c.lt i q⟩)⟩, h.onl⟩
theorem Pw.ob (h : Pw U X w W p d pf pw pn c st Od Of Ow On) : Ob W p 125 [.pointer (some ⟨d, 0, none⟩), .int .u64 c.e, .int .i64 c.r.a, .int .i64 c.r.k, .pointer (some ⟨pf, 0, none⟩), .pointer (some ⟨pw, 0, none⟩), .pointer (some ⟨pn, 0, none⟩), .bool c.ended] := h.c.b.ob
theorem Pw.cells (h : Pw U X w W p d pf pw pn c st Od Of Ow On) : W.cell? ⟨p, 0, none⟩ = some (.pointer (some ⟨d, 0, none⟩)) ∧ W.cell? ⟨p, 1, none⟩ = some (.int .u64 c.e) ∧ W.cell? ⟨p, 4, none⟩ = some (.pointer (some ⟨pf, 0, none⟩)) ∧ W.cell? ⟨p, 5, none⟩ = some (.pointer (some ⟨pw, 0, none⟩)) ∧ W.cell? ⟨p, 6, none⟩ = some (.pointer (some ⟨pn, 0, none⟩)) ∧ W.cell? ⟨p, 7, none⟩ = some (.bool c.ended) ∧ p < W.heap.size :=
  ⟨h.ob.cell 0, h.ob.cell 1, h.ob.cell 4, h.ob.cell 5, h.ob.cell 6, h.ob.cell 7, h.ob.lt⟩
end
end Go.Proofs.YtegadgncggbeoaaGreat
