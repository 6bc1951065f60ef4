/- Which blocks a call may have changed: those of a set, beside new ones. No Go text is named here. -/
import Derived.Test.YtandjkogpdamcaaObj
import Derived.Laws.OwnMore
import Derived.Deep.Onto
namespace Apo
open Go Go.RowKit

/-- from w to w' no block was changed but those of O, and new ones came -/
structure Onl (O : Nat → Prop) (w w' : World) : Prop where
  os : w'.os = w.os
  tape : w'.tape = w.tape
  output : w'.output = w.output
  size : w.heap.size ≤ w'.heap.size
  block : ∀ k, k < w.heap.size → ¬ O k → w'.heap[k]? = w.heap[k]?

theorem Onl.refl (O : Nat → Prop) (w : World) : Onl O w w := ⟨rfl, rfl, rfl, Nat.le_refl _, fun _ _ _ => rfl⟩
theorem Onl.trans {O : Nat → Prop} {a b c : World} (h : Onl O a b) (k : Onl O b c) : Onl O a c :=
  ⟨k.os.trans h.os, k.tape.trans h.tape, k.output.trans h.output, Nat.le_trans h.size k.size, fun i hi ho => (k.block i (Nat.lt_of_lt_of_le hi h.size) ho).trans (h.block i hi ho)⟩
/-- behind h the second may change new blocks too -/
theorem Onl.more {O O' : Nat → Prop} {a b c : World} (h : Onl O a b) (k : Onl O' b c) (hO : ∀ i, O' i → O i ∨ a.heap.size ≤ i) : Onl O a c :=
  ⟨k.os.trans h.os, k.tape.trans h.tape, k.output.trans h.output, Nat.le_trans h.size k.size, fun i hi ho => (k.block i (Nat.lt_of_lt_of_le hi h.size) (fun q => (hO i q).elim ho (fun x => absurd hi (Nat.not_lt.2 x)))).trans (h.block i hi ho)⟩
theorem Onl.mono {O O' : Nat → Prop} {a b : World} (h : Onl O a b) (hO : ∀ i, O i → O' i) : Onl O' a b := ⟨h.os, h.tape, h.output, h.size, fun i hi ho => h.block i hi (fun q => ho (hO i q))⟩
theorem Onl.alloc {O : Nat → Prop} {a b : World} (h : Onl O a b) (o : Obj) : Onl O a (b.alloc o) :=
  h.trans ⟨rfl, rfl, rfl, by simp, fun k hk _ => Below.heap_alloc b o k hk⟩
theorem Onl.drew {O : Nat → Prop} {a b : World} (h : Onl O a b) : Onl O a b.drew := ⟨h.os, h.tape, h.output, h.size, h.block⟩
theorem Onl.set {O : Nat → Prop} {a b : World} (h : Onl O a b) {p i : Nat} (hp : O p ∨ a.heap.size ≤ p) (u : Value) : Onl O a (b.setCell ⟨p, i, none⟩ u) :=
  ⟨h.os, h.tape, h.output, by simpa [World.setCell] using h.size, fun k hk ho => (heap_setCell_other b ⟨p, i, none⟩ k u (fun e => hp.elim (fun x => ho (by rw [e]; exact x)) (fun x => absurd hk (by rw [e]; exact Nat.not_lt.2 x)))).trans (h.block k hk ho)⟩
theorem Onl.grown {O : Nat → Prop} {a b c : World} {row : Option Nat} (h : Onl O a b) (hg : b.grownBy c row) (hr : ∀ k, row = some k → O k ∨ a.heap.size ≤ k) : Onl O a c :=
  ⟨hg.os.trans h.os, hg.tape.trans h.tape, hg.output.trans h.output, Nat.le_trans h.size hg.size, fun i hi ho => (hg.block i (Nat.lt_of_lt_of_le hi h.size) (fun e => (hr i e.symm).elim ho (fun x => absurd hi (Nat.not_lt.2 x)))).trans (h.block i hi ho)⟩
theorem Onl.ofBelow {O : Nat → Prop} {a b : World} (h : Below a.heap.size a b) : Onl O a b := ⟨h.os, h.tape, h.output, h.size, fun k hk _ => h.block k hk⟩
theorem Onl.toBelow {O : Nat → Prop} {a b : World} {B : Nat} (h : Onl O a b) (hO : ∀ i, O i → B ≤ i) (hB : B ≤ a.heap.size) : Below B a b := ⟨h.os, h.tape, h.output, h.size, fun k hk => h.block k (by omega) (fun q => by have := hO k q; omega)⟩
theorem Below.onl {O : Nat → Prop} {B : Nat} {a b c : World} (h : Below B a b) (k : Onl O b c) (hO : ∀ i, O i → B ≤ i) (hB : B ≤ a.heap.size) : Below B a c := h.trans (k.toBelow hO (Nat.le_trans hB h.size))

theorem Ob.onl {O : Nat → Prop} {w w' : World} {p : Nat} {t : TypeId} {cs : List Value} (h : Ob w p t cs) (k : Onl O w w') (hp : ¬ O p) : Ob w' p t cs := (k.block p h.lt hp).trans h
theorem Rd.onl {O : Nat → Prop} {k : IntKind} {w w' : World} {a : Option Addr} {l : List Int} (h : Rd k w a l) (ho : Onl O w w') (hr : ∀ x, a = some x → 0 < l.length → ¬ O x.block) : Rd k w' a l := by
  intro i hi
  obtain ⟨b, off, ha, hc⟩ := h i hi
  refine ⟨b, off, ha, ?_⟩
  exact (World.cell?_of_block (ho.block b (World.block_lt_of_cell? w _ hc) (hr ⟨b, off, none⟩ ha (by omega)))).trans hc

/-- an own row whose block is one of O -/
def Row (O : Nat → Prop) (w : World) (e : TypeId) (size : Nat) (v : Value) (n : Nat) (xs : List Value) : Prop := w.ownsRow 0 e size v n xs ∧ ∀ g, v.ownBlock = some g → O g

section
variable {O O' : Nat → Prop} {w w' : World} {e : TypeId} {size : Nat} {v : Value} {n : Nat} {xs : List Value}

theorem Row.nil (O : Nat → Prop) (w : World) (e : TypeId) (size : Nat) : Row O w e size (.slice none 0 0) 0 [] := ⟨World.ownsRow_nil w 0 e size, by simp [Value.ownBlock]⟩
theorem Row.mono (h : Row O w e size v n xs) (hO : ∀ i, O i → O' i) : Row O' w e size v n xs := ⟨h.1, fun g hg => hO g (h.2 g hg)⟩
theorem Row.onl {F : Nat → Prop} (h : Row O w e size v n xs) (ho : Onl F w w') (hF : ∀ g, v.ownBlock = some g → ¬ F g) : Row O w' e size v n xs := by
  refine ⟨⟨h.1.1, ?_⟩, h.2⟩
  rcases h.1.2 with hn | ⟨g, cap, cur, rfl, hb, hgg, rest⟩
  · exact .inl hn
  · refine .inr ⟨g, cap, cur, rfl, hb, ?_, rest⟩
    rw [ho.block g (Array.getElem?_eq_some_iff.1 hgg).1 (hF g rfl)]
    exact hgg
theorem Row.lt (h : Row O w e size v n xs) : ∀ g, v.ownBlock = some g → g < w.heap.size := fun g hg => (h.1.lt g hg).2
theorem Row.len (h : Row O w e size v n xs) : xs.length = n * size := h.1.1
theorem Row.form (h : Row O w e size v n xs) : ∃ a cap, v = .slice a n cap ∧ n ≤ cap ∧ cap ≤ maxLen ∧ (a = none → cap = 0) ∧ ∀ x, a = some x → ∃ g, x = ⟨g, 0, none⟩ ∧ O g := by
  rcases h.1.2 with ⟨rfl, hz⟩ | ⟨g, cap, cur, rfl, _, _, hnc, hcm, _⟩
  · exact ⟨none, 0, by rw [hz], by omega, by simp [maxLen], fun _ => rfl, by simp⟩
  · exact ⟨_, cap, rfl, hnc, hcm, by simp, fun x hx => by cases hx; exact ⟨g, rfl, h.2 g rfl⟩⟩
/-- with something in it -/
theorem Row.shape (h : Row O w e size v n xs) (hp : 0 < n) : ∃ g cap, v = .slice (some ⟨g, 0, none⟩) n cap ∧ O g ∧ g < w.heap.size ∧ n ≤ cap ∧ cap ≤ maxLen ∧ (∀ j, j < n * size → w.cell? ⟨g, j, none⟩ = xs[j]?) ∧ (∀ j, w.frozen? ⟨g, j, none⟩ = false) := by
  rcases h.1.2 with ⟨_, hz⟩ | ⟨g, cap, cur, hv, _, _, hnc, hcm, _⟩
  · omega
  · subst hv
    exact ⟨g, cap, rfl, h.2 g rfl, h.lt g rfl, hnc, hcm, fun j hj => h.1.cellAt j hj, fun j => h.1.frozenAt j⟩
/-- rows of unlike types lie apart -/
theorem Row.apart {e2 : TypeId} {size2 n2 : Nat} {v2 : Value} {xs2 : List Value} (h : Row O w e size v n xs) (k : Row O' w e2 size2 v2 n2 xs2) (he : e ≠ e2) : ∀ g, v.ownBlock = some g → v2.ownBlock ≠ some g := by
  intro g hg hg2
  rcases h.1.2 with ⟨rfl, _⟩ | ⟨g1, _, _, rfl, _, hh, _⟩
  · simp [Value.ownBlock] at hg
  · rcases k.1.2 with ⟨rfl, _⟩ | ⟨g2, _, _, rfl, _, hh2, _⟩
    · simp [Value.ownBlock] at hg2
    · simp only [Value.ownBlock, Option.some.injEq] at hg hg2
      subst hg hg2
      rw [hh] at hh2
      simp at hh2
      exact he hh2.2
theorem Row.apartOb {p : Nat} {t : TypeId} {cs : List Value} (h : Row O w e size v n xs) (k : Ob w p t cs) (he : e ≠ t) : v.ownBlock ≠ some p := by
  intro hg
  rcases h.1.2 with ⟨rfl, _⟩ | ⟨g1, _, _, rfl, _, hh, _⟩
  · simp [Value.ownBlock] at hg
  · simp only [Value.ownBlock, Option.some.injEq] at hg
    subst hg
    unfold Ob at k
    rw [hh] at k
    simp at k
    exact he k.2
end
theorem Row.stored {O : Nat → Prop} {w : World} {e : TypeId} {size g n cap : Nat} {xs : List Value} (h : Row O w e size (.slice (some ⟨g, 0, none⟩) n cap) n xs) (j : Nat) (u : Value) :
    Row O (w.setCell ⟨g, j, none⟩ u) e size (.slice (some ⟨g, 0, none⟩) n cap) n (xs.set j u) := ⟨(h.1.stored j u).1, h.2⟩
/-- what was the object's own, and what has come since -/
def Gro (O : Nat → Prop) (w w' : World) : Nat → Prop := fun i => O i ∨ (w.heap.size ≤ i ∧ i < w'.heap.size)
theorem Gro.of {O : Nat → Prop} {w w' : World} (i : Nat) (h : O i) : Gro O w w' i := Or.inl h
theorem Gro.new {O : Nat → Prop} {w w' : World} {i : Nat} (h : w.heap.size ≤ i) (k : i < w'.heap.size) : Gro O w w' i := Or.inr ⟨h, k⟩
theorem Gro.lt {O : Nat → Prop} {w w' : World} (h : ∀ i, O i → i < w.heap.size) (ho : w.heap.size ≤ w'.heap.size) : ∀ i, Gro O w w' i → i < w'.heap.size := fun i hi => hi.elim (fun q => Nat.lt_of_lt_of_le (h i q) ho) (fun q => q.2)
theorem Gro.base {O : Nat → Prop} {w w' : World} {B : Nat} (h : ∀ i, O i → B ≤ i) (hB : B ≤ w.heap.size) : ∀ i, Gro O w w' i → B ≤ i := fun i hi => hi.elim (h i) (fun q => Nat.le_trans hB q.1)
/-- what is another's stays so -/
theorem Gro.apart {O U : Nat → Prop} {w w' : World} (h : ∀ i, U i → ¬ O i) (hU : ∀ i, U i → i < w.heap.size) : ∀ i, U i → ¬ Gro O w w' i := fun i hi hg => hg.elim (h i hi) (fun q => absurd (hU i hi) (Nat.not_lt.2 q.1))
end Apo
