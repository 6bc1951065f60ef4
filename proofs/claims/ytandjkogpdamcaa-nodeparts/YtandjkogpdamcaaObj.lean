/- A block of the call's own in which an object lies: its cells, and what leaves them alone. No Go text is named here. -/
import Derived.Test.YtandjkogpdamcaaRd
namespace Apo
open Go Go.RowKit

/-- block p is a row of the cells cs, none of them frozen -/
def Ob (w : World) (p : Nat) (t : TypeId) (cs : List Value) : Prop := w.heap[p]? = some (.cells cs.toArray t (0, 0))

section
variable {w w' : World} {p : Nat} {t : TypeId} {cs : List Value}

theorem Ob.lt (h : Ob w p t cs) : p < w.heap.size := (Array.getElem?_eq_some_iff.1 h).1
theorem Ob.cell (h : Ob w p t cs) (i : Nat) : w.cell? ⟨p, i, none⟩ = cs[i]? := by rw [cell_of_row w p i _ t _ h]; simp
theorem Ob.frozen (h : Ob w p t cs) (i : Nat) : w.frozen? ⟨p, i, none⟩ = false := frozen_of_row w p i _ t h
theorem Ob.new (w : World) (cs : List Value) (t : TypeId) : Ob (w.alloc (.cells cs.toArray t)) w.heap.size t cs := heap_alloc_new w _
theorem Ob.set (h : Ob w p t cs) (i : Nat) (u : Value) : Ob (w.setCell ⟨p, i, none⟩ u) p t (cs.set i u) := by
  have := heap_setCell_same w p i _ t u h
  simpa [Ob] using this
theorem Ob.set_other (h : Ob w p t cs) {q i : Nat} (hq : p ≠ q) (u : Value) : Ob (w.setCell ⟨q, i, none⟩ u) p t cs := by
  unfold Ob
  rw [heap_setCell_other w ⟨q, i, none⟩ p u hq]
  exact h
theorem Ob.alloc (h : Ob w p t cs) (o : Obj) : Ob (w.alloc o) p t cs := (Below.heap_alloc w o p h.lt).trans h
theorem Ob.kept (h : Ob w p t cs) {row : Option Nat} (hg : w.grownBy w' row) (hr : row ≠ some p) : Ob w' p t cs := (hg.block p h.lt (Ne.symm hr)).trans h
theorem Ob.below (h : Ob w p t cs) {B : Nat} (hb : Below B w w') (hp : p < B) : Ob w' p t cs := (hb.block p hp).trans h
theorem Ob.old (h : Ob w p t cs) (hb : Below w.heap.size w w') : Ob w' p t cs := h.below hb h.lt
end

theorem grew_trans {a b c : World} {row : Option Nat} (h : a.grownBy b row) (k : b.grownBy c row) : a.grownBy c row :=
  ⟨k.os.trans h.os, k.tape.trans h.tape, k.output.trans h.output, Nat.le_trans h.size k.size, fun i hi hr => (k.block i (Nat.lt_of_lt_of_le hi h.size) hr).trans (h.block i hi hr)⟩
theorem grew_below {a b : World} (row : Option Nat) (h : Below a.heap.size a b) : a.grownBy b row :=
  ⟨h.os, h.tape, h.output, h.size, fun i hi _ => h.block i hi⟩
theorem grew_set (w : World) (p i : Nat) (u : Value) : w.grownBy (w.setCell ⟨p, i, none⟩ u) (some p) :=
  ⟨rfl, rfl, rfl, by simp [World.setCell], fun k _ hk => heap_setCell_other w ⟨p, i, none⟩ k u (fun e => hk (by simp [e]))⟩
/-- what is written lies in the new blocks -/
theorem grew_new {a b c : World} {p : Nat} {row : Option Nat} (h : a.grownBy b row) (k : b.grownBy c (some p)) (hp : a.heap.size ≤ p) : a.grownBy c row :=
  ⟨k.os.trans h.os, k.tape.trans h.tape, k.output.trans h.output, Nat.le_trans h.size k.size, fun i hi hr => (k.block i (Nat.lt_of_lt_of_le hi h.size) (by simp; omega)).trans (h.block i hi hr)⟩
theorem below_grew {a b c : World} {B p : Nat} (h : Below B a b) (k : b.grownBy c (some p)) (hB : B ≤ b.heap.size) (hp : B ≤ p) : Below B a c :=
  h.grown k hB (fun q hq => by cases hq; exact hp)

theorem Rd.grew {k : IntKind} {w w' : World} {a : Option Addr} {l : List Int} {row : Option Nat} (h : Rd k w a l) (hg : w.grownBy w' row) (hr : ∀ x, a = some x → 0 < l.length → row ≠ some x.block) : Rd k w' a l := by
  intro i hi
  obtain ⟨b, off, ha, hc⟩ := h i hi
  refine ⟨b, off, ha, hg.cell hc ?_⟩
  exact Ne.symm (hr ⟨b, off, none⟩ ha (by omega))

theorem Rd.lt {k : IntKind} {w : World} {x : Addr} {l : List Int} (h : Rd k w (some x) l) (hl : 0 < l.length) : x.block < w.heap.size := by
  obtain ⟨b, off, ha, hc⟩ := h 0 hl
  cases ha
  exact World.block_lt_of_cell? w _ hc
end Apo
