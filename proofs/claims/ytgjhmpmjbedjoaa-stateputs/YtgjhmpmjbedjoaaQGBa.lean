/- Bytes as a string, and bytes behind none, for whatever program. No Go text is named here. Slices that the call itself made, and slices that are cut, as the walks read them. Slices that the call itself made, turned into strings. A block of the call's own in which an object lies: its cells, and what leaves them alone. No Go text is named here. Which blocks a call may have changed: those of a set, beside new ones. No Go text is named here. Bytes of a string as numbers; bytes behind bytes that the call owns, nil or not. No Go text is named here. An append whose run is known, at a step of a region, drawn or not; an append behind a slice that is full. No Go text is named here. A slice of whole numbers that came in, as the walks read it. No Go text is named here. Bools that are read; fates and deeds, as they lie in memory. No Go text is named here. A device as it is meant: sectors that are kept, writes that are cached, faults, how often it still writes. No Go text is named here. What a Save and a Load make of a device as it is meant. No Go text is named here. -/
import Derived.Laws.BytesArg
import Derived.Deep.RegionHeld3
import Derived.Deep.DrawnRows
import Derived.Laws.OwnMore
import Derived.Deep.Onto
import Derived.Lib.AppendStr
import Derived.BigFrame
import Derived.Test.YtgjhmpmjbedjoaaRows
import Derived.Test.YtgjhmpmjbedjoaaQGPu
namespace Apo
open Go Go.RowKit

theorem Rd.conv {P : Program} {w : World} {a : Option Addr} {l : List Int} (h : Rd .u8 w a l) (src e dst : TypeId) (hs : P.underlying src = some (.slice e)) (he : P.underlying e = some (.int .u8)) (hd : P.underlying dst = some .string) (cap : Nat) :
    (convert src dst (.slice a l.length cap)).run P w = .ok (.string (strOfNums l)) w := by
  rcases Nat.eq_zero_or_pos l.length with h0 | h0
  · have hl : l = [] := List.eq_nil_of_length_eq_zero h0
    subst hl
    cases a with
    | none => exact run_convert_bytes_nil w src e hs he _ _ dst hd
    | some x =>
      rw [run_convert_bytes_string w src dst e _ _ cap hs he hd, run_bytesToString w x _ cap [] (by simp [loadCells, loadCellsFrom])]
      rfl
  · obtain ⟨b, off, ha, _⟩ := h 0 h0
    subst ha
    refine run_convert_bytes_arg w src e hs he b off _ cap l rfl (fun i hi => ?_) dst hd
    obtain ⟨b', off', ha', hc⟩ := h i hi
    cases ha'
    exact hc

/-- 'append(nil, src...)' at a step of a region that draws its order -/
theorem step_append_new {P : Program} {ops : Array Oper} {o : Oper} {a : Act} {w : World} {K : Act → World → Prop} {Q : Exit → Act → World → Prop} {E : Prop}
    (hgd : o.guard = none) (s x : Operand) (t : TypeId) (hop : o.op = Op.call { callee := Callee.builtin Builtin.append, args := #[s, x], argTypes := #[t, t] })
    (e : TypeId) (i : TypeInfo) (z : Value) (bytes : Nat) (h1 : P.underlying t = some (.slice e)) (h2 : P.info? e = some i) (h3 : i.zero = some z) (h4 : i.size = 1) (h5 : i.bytes = bytes) (h6 : z.cells.size = 1)
    (k : IntKind) (ao : Option Addr) (c : Nat) (l : List Int) (hs : a.eval s = .slice none 0 0) (hx : a.eval x = .slice ao l.length c) (hr : Rd k w ao l) (hn : ao = none → c = 0) (b1 : l.length ≤ maxLen) (b2 : l.length * bytes ≤ 140737488355328)
    (hK : ∀ v' w', w'.ownsRow w.heap.size e 1 v' l.length (l.map (Value.int k)) → w.grownBy w' none → K (a.put o.dst v') w') :
    if Region.wanted o (yielded ops a.tmps) = true then Oper.wp P o a w K Q else E := by
  have hw : Region.wanted o (yielded ops a.tmps) = true := by simp [Region.wanted, hgd]
  rw [if_pos hw]
  cases ao with
  | none =>
    have hl : l = [] := by
      rcases Nat.eq_zero_or_pos l.length with h | h
      · exact List.eq_nil_of_length_eq_zero h
      · obtain ⟨_, _, h', _⟩ := hr 0 h; cases h'
    subst hl
    have hc := hn rfl
    subst hc
    have hrun := run_append_owned_none (P := P) (w := w) w.heap.size t o.type e i 1 h1 h2 (.slice none 0 0) 0 [] (World.ownsRow_nil w _ e 1)
    unfold Oper.wp
    simp [execOp, hop, resolve, invoke, builtin, hs, hx, hrun, Result.andThen]
    exact hK _ w (World.ownsRow_nil w _ e 1) (World.grownBy.refl _ _)
  | some ad =>
    obtain ⟨v', w', hrun, r1, r2, _⟩ := run_append_own (P := P) w w.heap.size t o.type e i z 1 bytes h1 h2 h3 h4 h5 h6 (by decide) (.slice none 0 0) 0 [] (World.ownsRow_nil w _ e 1) ad l.length c (l.map (Value.int k)) (by simp) hr.news (ints_oneCell _ _) (by omega) (by rw [Nat.zero_add]; exact b2) (Nat.le_refl _)
    unfold Oper.wp
    simp [execOp, hop, resolve, invoke, builtin, hs, hx, hrun, Result.andThen]
    exact hK v' w' (by simpa using r1) r2
end Apo
namespace Go.Proofs.Ytgjhmpmjbedjoaa
open Go.RowKit Apo

theorem hide {p : Prop} (h : p) : Hid p := h

theorem own_len {w : World} {base e : Nat} {v : Value} {n : Nat} {xs : List Value} (h : w.ownsRow base e 1 v n xs) :
    ∃ a cap, v = .slice a n cap := by
  rcases h.2 with ⟨rfl, hz⟩ | ⟨g, cap, cur, rfl, _⟩
  · exact ⟨none, 0, by rw [hz]⟩
  · exact ⟨_, cap, rfl⟩

theorem own_form {w : World} {base e : Nat} {v : Value} {n : Nat} {xs : List Value} (h : w.ownsRow base e 1 v n xs) :
    ∃ a cap, v = .slice a n cap ∧ n ≤ cap ∧ (a = none → cap = 0) := by
  rcases h.2 with ⟨rfl, hz⟩ | ⟨g, cap, cur, rfl, _, _, hnc, _⟩
  · exact ⟨none, 0, by rw [hz], by omega, fun _ => rfl⟩
  · exact ⟨_, cap, rfl, hnc, by simp⟩

theorem own_shape {w : World} {base e : Nat} {v : Value} {n : Nat} {xs : List Value} (h : w.ownsRow base e 1 v n xs) (hp : 0 < n) :
    ∃ g cap, v = .slice (some ⟨g, 0, none⟩) n cap ∧ base ≤ g ∧ g < w.heap.size ∧ n ≤ cap ∧ ∀ j, j < n → w.cell? ⟨g, j, none⟩ = xs[j]? := by
  have h' := h
  rcases h.2 with ⟨_, hz⟩ | ⟨g, cap, cur, rfl, hb, _, hnc, _⟩
  · omega
  · exact ⟨g, cap, rfl, hb, (h'.lt g rfl).2, hnc, fun j hj => h'.cellAt j (by omega)⟩

theorem rd_lit1 (k : IntKind) (w : World) (t : TypeId) (x : Int) : Rd k (w.alloc (.cells #[.int k x] t)) (some ⟨w.heap.size, 0, none⟩) [x] := by
  intro i hi
  have : i = 0 := by simpa using hi
  subst this
  exact ⟨_, _, rfl, by simp⟩

theorem rd_lit2 (k : IntKind) (w : World) (t : TypeId) (x y : Int) : Rd k (w.alloc (.cells #[.int k x, .int k y] t)) (some ⟨w.heap.size, 0, none⟩) [x, y] := by
  intro i hi
  have hi' : i < 2 := by simpa using hi
  refine ⟨_, _, rfl, ?_⟩
  match i, hi' with
  | 0, _ => simp
  | 1, _ => simp

theorem rd_drop {k : IntKind} {w : World} {b off at' : Nat} {l : List Int} (h : Rd k w (some ⟨b, off, none⟩) l) : Rd k w (some ⟨b, off + at', none⟩) (l.drop at') := by
  intro i hi
  rw [List.length_drop] at hi
  obtain ⟨b', off', ha, hc⟩ := h (at' + i) (by omega)
  cases ha
  refine ⟨b, off + at', rfl, ?_⟩
  rw [Nat.add_assoc, hc]
  simp [List.getD]

theorem Rd.take {k : IntKind} {w : World} {a : Option Addr} {l : List Int} (h : Rd k w a l) (m : Nat) : Rd k w a (l.take m) := by
  intro i hi
  have hi2 : i < m ∧ i < l.length := by simp at hi; omega
  obtain ⟨b, off, ha, hc⟩ := h i hi2.2
  refine ⟨b, off, ha, ?_⟩
  rw [hc]
  simp [List.getD, hi2.1]
end Go.Proofs.Ytgjhmpmjbedjoaa
namespace Go.Proofs.Ytgjhmpmjbedjoaa
open Go.RowKit Apo

theorem conv_own {w : World} {base : Nat} {v : Value} {n : Nat} {l : List Int} (h : w.ownsRow base 5 1 v n (l.map (Value.int .u8))) :
    ∀ wx, Below w.heap.size w wx → (convert 30 9 v).run Try.prog wx = .ok (.string (strOfNums l)) wx := by
  intro wx hb
  obtain ⟨a, cap, hv⟩ : ∃ a cap, v = .slice a n cap := by
    rcases h.2 with ⟨rfl, hz⟩ | ⟨g, cap, cur, rfl, _⟩
    · exact ⟨none, 0, by rw [hz]⟩
    · exact ⟨_, cap, rfl⟩
  subst hv
  obtain ⟨hr, hl, _⟩ := Rd.own h
  rw [hl]
  exact (hr.below hb).conv 30 5 9 Try.underlying30 Try.underlying5 Try.underlying9 cap

end Go.Proofs.Ytgjhmpmjbedjoaa
namespace Apo
open Go Go.RowKit

/-- block p is a row of the cells cs, none of them frozen -/
def Ob (w : World) (p : Nat) (t : TypeId) (cs : List Value) : Prop := w.heap[p]? = some (.cells cs.toArray t (0, 0))

section
variable {w w' : World} {p : Nat} {t : TypeId} {cs : List Value}

theorem Ob.lt (h : Ob w p t cs) : p < w.heap.size := (Array.getElem?_eq_some_iff.1 h).1
theorem Ob.cell (h : Ob w p t cs) (i : Nat) : w.cell? ⟨p, i, none⟩ = cs[i]? := by rw [cell_of_row w p i _ t _ h]; simp
theorem Ob.frozen (h : Ob w p t cs) (i : Nat) : w.frozen? ⟨p, i, none⟩ = false := frozen_of_row w p i _ t h
theorem Ob.new (w : World) (cs : List Value) (t : TypeId) : Ob (w.alloc (.cells cs.toArray t)) w.heap.size t cs := heap_alloc_new w _
theorem Ob.set (h : Ob w p t cs) (i : Nat) (u : Value) : Ob (w.setCell ⟨p, i, none⟩ u) p t (cs.set i u) := by
  have := heap_setCell_same w p i _ t u h
  simpa [Ob] using this
theorem Ob.set_other (h : Ob w p t cs) {q i : Nat} (hq : p ≠ q) (u : Value) : Ob (w.setCell ⟨q, i, none⟩ u) p t cs := by
  unfold Ob
  rw [heap_setCell_other w ⟨q, i, none⟩ p u hq]
  exact h
theorem Ob.alloc (h : Ob w p t cs) (o : Obj) : Ob (w.alloc o) p t cs := (Below.heap_alloc w o p h.lt).trans h
theorem Ob.kept (h : Ob w p t cs) {row : Option Nat} (hg : w.grownBy w' row) (hr : row ≠ some p) : Ob w' p t cs := (hg.block p h.lt (Ne.symm hr)).trans h
theorem Ob.below (h : Ob w p t cs) {B : Nat} (hb : Below B w w') (hp : p < B) : Ob w' p t cs := (hb.block p hp).trans h
theorem Ob.old (h : Ob w p t cs) (hb : Below w.heap.size w w') : Ob w' p t cs := h.below hb h.lt
end

theorem grew_trans {a b c : World} {row : Option Nat} (h : a.grownBy b row) (k : b.grownBy c row) : a.grownBy c row :=
  ⟨k.os.trans h.os, k.tape.trans h.tape, k.output.trans h.output, Nat.le_trans h.size k.size, fun i hi hr => (k.block i (Nat.lt_of_lt_of_le hi h.size) hr).trans (h.block i hi hr)⟩
theorem grew_below {a b : World} (row : Option Nat) (h : Below a.heap.size a b) : a.grownBy b row :=
  ⟨h.os, h.tape, h.output, h.size, fun i hi _ => h.block i hi⟩
theorem grew_set (w : World) (p i : Nat) (u : Value) : w.grownBy (w.setCell ⟨p, i, none⟩ u) (some p) :=
  ⟨rfl, rfl, rfl, by simp [World.setCell], fun k _ hk => heap_setCell_other w ⟨p, i, none⟩ k u (fun e => hk (by simp [e]))⟩
/-- what is written lies in the new blocks -/
theorem grew_new {a b c : World} {p : Nat} {row : Option Nat} (h : a.grownBy b row) (k : b.grownBy c (some p)) (hp : a.heap.size ≤ p) : a.grownBy c row :=
  ⟨k.os.trans h.os, k.tape.trans h.tape, k.output.trans h.output, Nat.le_trans h.size k.size, fun i hi hr => (k.block i (Nat.lt_of_lt_of_le hi h.size) (by simp; omega)).trans (h.block i hi hr)⟩
theorem below_grew {a b c : World} {B p : Nat} (h : Below B a b) (k : b.grownBy c (some p)) (hB : B ≤ b.heap.size) (hp : B ≤ p) : Below B a c :=
  h.grown k hB (fun q hq => by cases hq; exact hp)

theorem Rd.grew {k : IntKind} {w w' : World} {a : Option Addr} {l : List Int} {row : Option Nat} (h : Rd k w a l) (hg : w.grownBy w' row) (hr : ∀ x, a = some x → 0 < l.length → row ≠ some x.block) : Rd k w' a l := by
  intro i hi
  obtain ⟨b, off, ha, hc⟩ := h i hi
  refine ⟨b, off, ha, hg.cell hc ?_⟩
  exact Ne.symm (hr ⟨b, off, none⟩ ha (by omega))

theorem Rd.lt {k : IntKind} {w : World} {x : Addr} {l : List Int} (h : Rd k w (some x) l) (hl : 0 < l.length) : x.block < w.heap.size := by
  obtain ⟨b, off, ha, hc⟩ := h 0 hl
  cases ha
  exact World.block_lt_of_cell? w _ hc
end Apo
namespace Apo
open Go Go.RowKit

/-- from w to w' no block was changed but those of O, and new ones came -/
structure Onl (O : Nat → Prop) (w w' : World) : Prop where
  os : w'.os = w.os
  tape : w'.tape = w.tape
  output : w'.output = w.output
  size : w.heap.size ≤ w'.heap.size
  block : ∀ k, k < w.heap.size → ¬ O k → w'.heap[k]? = w.heap[k]?

theorem Onl.refl (O : Nat → Prop) (w : World) : Onl O w w := ⟨rfl, rfl, rfl, Nat.le_refl _, fun _ _ _ => rfl⟩
theorem Onl.trans {O : Nat → Prop} {a b c : World} (h : Onl O a b) (k : Onl O b c) : Onl O a c :=
  ⟨k.os.trans h.os, k.tape.trans h.tape, k.output.trans h.output, Nat.le_trans h.size k.size, fun i hi ho => (k.block i (Nat.lt_of_lt_of_le hi h.size) ho).trans (h.block i hi ho)⟩
/-- behind h the second may change new blocks too -/
theorem Onl.more {O O' : Nat → Prop} {a b c : World} (h : Onl O a b) (k : Onl O' b c) (hO : ∀ i, O' i → O i ∨ a.heap.size ≤ i) : Onl O a c :=
  ⟨k.os.trans h.os, k.tape.trans h.tape, k.output.trans h.output, Nat.le_trans h.size k.size, fun i hi ho => (k.block i (Nat.lt_of_lt_of_le hi h.size) (fun q => (hO i q).elim ho (fun x => absurd hi (Nat.not_lt.2 x)))).trans (h.block i hi ho)⟩
theorem Onl.mono {O O' : Nat → Prop} {a b : World} (h : Onl O a b) (hO : ∀ i, O i → O' i) : Onl O' a b := ⟨h.os, h.tape, h.output, h.size, fun i hi ho => h.block i hi (fun q => ho (hO i q))⟩
theorem Onl.alloc {O : Nat → Prop} {a b : World} (h : Onl O a b) (o : Obj) : Onl O a (b.alloc o) :=
  h.trans ⟨rfl, rfl, rfl, by simp, fun k hk _ => Below.heap_alloc b o k hk⟩
theorem Onl.drew {O : Nat → Prop} {a b : World} (h : Onl O a b) : Onl O a b.drew := ⟨h.os, h.tape, h.output, h.size, h.block⟩
theorem Onl.set {O : Nat → Prop} {a b : World} (h : Onl O a b) {p i : Nat} (hp : O p ∨ a.heap.size ≤ p) (u : Value) : Onl O a (b.setCell ⟨p, i, none⟩ u) :=
  ⟨h.os, h.tape, h.output, by simpa [World.setCell] using h.size, fun k hk ho => (heap_setCell_other b ⟨p, i, none⟩ k u (fun e => hp.elim (fun x => ho (by rw [e]; exact x)) (fun x => absurd hk (by rw [e]; exact Nat.not_lt.2 x)))).trans (h.block k hk ho)⟩
theorem Onl.grown {O : Nat → Prop} {a b c : World} {row : Option Nat} (h : Onl O a b) (hg : b.grownBy c row) (hr : ∀ k, row = some k → O k ∨ a.heap.size ≤ k) : Onl O a c :=
  ⟨hg.os.trans h.os, hg.tape.trans h.tape, hg.output.trans h.output, Nat.le_trans h.size hg.size, fun i hi ho => (hg.block i (Nat.lt_of_lt_of_le hi h.size) (fun e => (hr i e.symm).elim ho (fun x => absurd hi (Nat.not_lt.2 x)))).trans (h.block i hi ho)⟩
theorem Onl.ofBelow {O : Nat → Prop} {a b : World} (h : Below a.heap.size a b) : Onl O a b := ⟨h.os, h.tape, h.output, h.size, fun k hk _ => h.block k hk⟩
theorem Onl.toBelow {O : Nat → Prop} {a b : World} {B : Nat} (h : Onl O a b) (hO : ∀ i, O i → B ≤ i) (hB : B ≤ a.heap.size) : Below B a b := ⟨h.os, h.tape, h.output, h.size, fun k hk => h.block k (by omega) (fun q => by have := hO k q; omega)⟩
theorem Below.onl {O : Nat → Prop} {B : Nat} {a b c : World} (h : Below B a b) (k : Onl O b c) (hO : ∀ i, O i → B ≤ i) (hB : B ≤ a.heap.size) : Below B a c := h.trans (k.toBelow hO (Nat.le_trans hB h.size))

theorem Ob.onl {O : Nat → Prop} {w w' : World} {p : Nat} {t : TypeId} {cs : List Value} (h : Ob w p t cs) (k : Onl O w w') (hp : ¬ O p) : Ob w' p t cs := (k.block p h.lt hp).trans h
theorem Rd.onl {O : Nat → Prop} {k : IntKind} {w w' : World} {a : Option Addr} {l : List Int} (h : Rd k w a l) (ho : Onl O w w') (hr : ∀ x, a = some x → 0 < l.length → ¬ O x.block) : Rd k w' a l := by
  intro i hi
  obtain ⟨b, off, ha, hc⟩ := h i hi
  refine ⟨b, off, ha, ?_⟩
  exact (World.cell?_of_block (ho.block b (World.block_lt_of_cell? w _ hc) (hr ⟨b, off, none⟩ ha (by omega)))).trans hc

/-- an own row whose block is one of O -/
def Row (O : Nat → Prop) (w : World) (e : TypeId) (size : Nat) (v : Value) (n : Nat) (xs : List Value) : Prop := w.ownsRow 0 e size v n xs ∧ ∀ g, v.ownBlock = some g → O g

section
variable {O O' : Nat → Prop} {w w' : World} {e : TypeId} {size : Nat} {v : Value} {n : Nat} {xs : List Value}

theorem Row.nil (O : Nat → Prop) (w : World) (e : TypeId) (size : Nat) : Row O w e size (.slice none 0 0) 0 [] := ⟨World.ownsRow_nil w 0 e size, by simp [Value.ownBlock]⟩
theorem Row.mono (h : Row O w e size v n xs) (hO : ∀ i, O i → O' i) : Row O' w e size v n xs := ⟨h.1, fun g hg => hO g (h.2 g hg)⟩
theorem Row.onl {F : Nat → Prop} (h : Row O w e size v n xs) (ho : Onl F w w') (hF : ∀ g, v.ownBlock = some g → ¬ F g) : Row O w' e size v n xs := by
  refine ⟨⟨h.1.1, ?_⟩, h.2⟩
  rcases h.1.2 with hn | ⟨g, cap, cur, rfl, hb, hgg, rest⟩
  · exact .inl hn
  · refine .inr ⟨g, cap, cur, rfl, hb, ?_, rest⟩
    rw [ho.block g (Array.getElem?_eq_some_iff.1 hgg).1 (hF g rfl)]
    exact hgg
theorem Row.lt (h : Row O w e size v n xs) : ∀ g, v.ownBlock = some g → g < w.heap.size := fun g hg => (h.1.lt g hg).2
theorem Row.len (h : Row O w e size v n xs) : xs.length = n * size := h.1.1
theorem Row.form (h : Row O w e size v n xs) : ∃ a cap, v = .slice a n cap ∧ n ≤ cap ∧ cap ≤ maxLen ∧ (a = none → cap = 0) ∧ ∀ x, a = some x → ∃ g, x = ⟨g, 0, none⟩ ∧ O g := by
  rcases h.1.2 with ⟨rfl, hz⟩ | ⟨g, cap, cur, rfl, _, _, hnc, hcm, _⟩
  · exact ⟨none, 0, by rw [hz], by omega, by simp [maxLen], fun _ => rfl, by simp⟩
  · exact ⟨_, cap, rfl, hnc, hcm, by simp, fun x hx => by cases hx; exact ⟨g, rfl, h.2 g rfl⟩⟩
/-- with something in it -/
theorem Row.shape (h : Row O w e size v n xs) (hp : 0 < n) : ∃ g cap, v = .slice (some ⟨g, 0, none⟩) n cap ∧ O g ∧ g < w.heap.size ∧ n ≤ cap ∧ cap ≤ maxLen ∧ (∀ j, j < n * size → w.cell? ⟨g, j, none⟩ = xs[j]?) ∧ (∀ j, w.frozen? ⟨g, j, none⟩ = false) := by
  rcases h.1.2 with ⟨_, hz⟩ | ⟨g, cap, cur, hv, _, _, hnc, hcm, _⟩
  · omega
  · subst hv
    exact ⟨g, cap, rfl, h.2 g rfl, h.lt g rfl, hnc, hcm, fun j hj => h.1.cellAt j hj, fun j => h.1.frozenAt j⟩
/-- rows of unlike types lie apart -/
theorem Row.apart {e2 : TypeId} {size2 n2 : Nat} {v2 : Value} {xs2 : List Value} (h : Row O w e size v n xs) (k : Row O' w e2 size2 v2 n2 xs2) (he : e ≠ e2) : ∀ g, v.ownBlock = some g → v2.ownBlock ≠ some g := by
  intro g hg hg2
  rcases h.1.2 with ⟨rfl, _⟩ | ⟨g1, _, _, rfl, _, hh, _⟩
  · simp [Value.ownBlock] at hg
  · rcases k.1.2 with ⟨rfl, _⟩ | ⟨g2, _, _, rfl, _, hh2, _⟩
    · simp [Value.ownBlock] at hg2
    · simp only [Value.ownBlock, Option.some.injEq] at hg hg2
      subst hg hg2
      rw [hh] at hh2
      simp at hh2
      exact he hh2.2
theorem Row.apartOb {p : Nat} {t : TypeId} {cs : List Value} (h : Row O w e size v n xs) (k : Ob w p t cs) (he : e ≠ t) : v.ownBlock ≠ some p := by
  intro hg
  rcases h.1.2 with ⟨rfl, _⟩ | ⟨g1, _, _, rfl, _, hh, _⟩
  · simp [Value.ownBlock] at hg
  · simp only [Value.ownBlock, Option.some.injEq] at hg
    subst hg
    unfold Ob at k
    rw [hh] at k
    simp at k
    exact he k.2
end
theorem Row.stored {O : Nat → Prop} {w : World} {e : TypeId} {size g n cap : Nat} {xs : List Value} (h : Row O w e size (.slice (some ⟨g, 0, none⟩) n cap) n xs) (j : Nat) (u : Value) :
    Row O (w.setCell ⟨g, j, none⟩ u) e size (.slice (some ⟨g, 0, none⟩) n cap) n (xs.set j u) := ⟨(h.1.stored j u).1, h.2⟩
/-- what was the object's own, and what has come since -/
def Gro (O : Nat → Prop) (w w' : World) : Nat → Prop := fun i => O i ∨ (w.heap.size ≤ i ∧ i < w'.heap.size)
theorem Gro.of {O : Nat → Prop} {w w' : World} (i : Nat) (h : O i) : Gro O w w' i := Or.inl h
theorem Gro.new {O : Nat → Prop} {w w' : World} {i : Nat} (h : w.heap.size ≤ i) (k : i < w'.heap.size) : Gro O w w' i := Or.inr ⟨h, k⟩
theorem Gro.lt {O : Nat → Prop} {w w' : World} (h : ∀ i, O i → i < w.heap.size) (ho : w.heap.size ≤ w'.heap.size) : ∀ i, Gro O w w' i → i < w'.heap.size := fun i hi => hi.elim (fun q => Nat.lt_of_lt_of_le (h i q) ho) (fun q => q.2)
theorem Gro.base {O : Nat → Prop} {w w' : World} {B : Nat} (h : ∀ i, O i → B ≤ i) (hB : B ≤ w.heap.size) : ∀ i, Gro O w w' i → B ≤ i := fun i hi => hi.elim (h i) (fun q => Nat.le_trans hB q.1)
/-- what is another's stays so -/
theorem Gro.apart {O U : Nat → Prop} {w w' : World} (h : ∀ i, U i → ¬ O i) (hU : ∀ i, U i → i < w.heap.size) : ∀ i, U i → ¬ Gro O w w' i := fun i hi hg => hg.elim (h i hi) (fun q => absurd (hU i hi) (Nat.not_lt.2 q.1))
end Apo
namespace Apo
open Go Go.RowKit

/-- a string's bytes, as numbers -/
def nums (s : ByteArray) : List Int := s.data.toList.map fun b => (b.toNat : Int)

theorem nums_length (s : ByteArray) : (nums s).length = s.size := by
  rw [nums, List.length_map, Array.length_toList]; rfl
theorem strCells_nums (s : ByteArray) : Go.Lib.strCells s = (nums s).map (Value.int .u8) := by
  simp [Go.Lib.strCells, nums]
theorem nums_byte (s : ByteArray) : ∀ z ∈ nums s, 0 ≤ z ∧ z ≤ 255 := by
  intro z hz
  simp only [nums, List.mem_map] at hz
  obtain ⟨b, _, rfl⟩ := hz
  have := b.toNat_lt
  omega
theorem strOfNums_nums (s : ByteArray) : strOfNums (nums s) = s := by
  apply ByteArray.ext
  apply Array.ext'
  rw [strOfNums_data, nums, List.map_map]
  conv => rhs; rw [← List.map_id s.data.toList]
  refine List.map_congr_left fun z _ => ?_
  simp [Function.comp]
theorem nums_strOfNums {l : List Int} (h : ∀ z ∈ l, 0 ≤ z ∧ z ≤ 255) : nums (strOfNums l) = l := by
  unfold nums
  rw [strOfNums_data, List.map_map]
  conv => rhs; rw [← List.map_id l]
  refine List.map_congr_left fun z hz => ?_
  have := h z hz
  simp only [Function.comp, id, UInt8.toNat_ofNat']
  omega
theorem nums_inj {s t : ByteArray} (h : nums s = nums t) : s = t := by
  rw [← strOfNums_nums s, ← strOfNums_nums t, h]

/-- 'append(v, src...)': v is the call's own, src is nil, empty or not -/
theorem run_append_rd {P : Program} {w : World} (base : Nat) (t ty e : TypeId) (i : TypeInfo) (z : Value) (bytes : Nat) (h1 : P.underlying t = some (.slice e)) (h2 : P.info? e = some i) (h3 : i.zero = some z) (h4 : i.size = 1) (h5 : i.bytes = bytes) (h6 : z.cells.size = 1)
    (k : IntKind) (v : Value) (cur : List Int) (hown : w.ownsRow base e 1 v cur.length (cur.map (Value.int k))) (ao : Option Addr) (c : Nat) (l : List Int) (hr : Rd k w ao l) (hn : ao = none → c = 0)
    (b1 : cur.length + l.length ≤ maxLen) (b2 : (cur.length + l.length) * bytes ≤ 140737488355328) (hb : base ≤ w.heap.size) :
    ∃ v' w', (Builtin.append_ #[t, t] ty #[v, .slice ao l.length c]).run P w = .ok v' w' ∧ w'.ownsRow base e 1 v' (cur ++ l).length ((cur ++ l).map (Value.int k)) ∧ w.grownBy w' v.ownBlock := by
  cases ao with
  | none =>
    have hl : l = [] := by
      rcases Nat.eq_zero_or_pos l.length with h | h
      · exact List.eq_nil_of_length_eq_zero h
      · obtain ⟨_, _, h', _⟩ := hr 0 h; cases h'
    subst hl
    have hc := hn rfl
    subst hc
    exact ⟨v, w, run_append_owned_none (P := P) w base t ty e i 1 h1 h2 v _ _ hown, by simpa using hown, World.grownBy.refl _ _⟩
  | some ad =>
    obtain ⟨v', w', hrun, r1, r2, _⟩ := run_append_own (P := P) w base t ty e i z 1 bytes h1 h2 h3 h4 h5 h6 (by decide) v _ _ hown ad l.length c (l.map (Value.int k)) (by simp) hr.news (ints_oneCell _ _) b1 b2 hb
    exact ⟨v', w', hrun, by simpa using r1, r2⟩

/-- the same at a step of a region that draws its order -/
theorem step_append_rd {P : Program} {ops : Array Oper} {o : Oper} {a : Act} {w : World} {K : Act → World → Prop} {Q : Exit → Act → World → Prop} {E : Prop}
    (hgd : o.guard = none) (s x : Operand) (t : TypeId) (hop : o.op = Op.call { callee := Callee.builtin Builtin.append, args := #[s, x], argTypes := #[t, t] })
    (base : Nat) (e : TypeId) (i : TypeInfo) (z : Value) (bytes : Nat) (h1 : P.underlying t = some (.slice e)) (h2 : P.info? e = some i) (h3 : i.zero = some z) (h4 : i.size = 1) (h5 : i.bytes = bytes) (h6 : z.cells.size = 1)
    (k : IntKind) (v : Value) (cur : List Int) (hs : a.eval s = v) (hown : w.ownsRow base e 1 v cur.length (cur.map (Value.int k))) (ao : Option Addr) (c : Nat) (l : List Int) (hx : a.eval x = .slice ao l.length c) (hr : Rd k w ao l) (hn : ao = none → c = 0)
    (b1 : cur.length + l.length ≤ maxLen) (b2 : (cur.length + l.length) * bytes ≤ 140737488355328) (hb : base ≤ w.heap.size)
    (hK : ∀ v' w', w'.ownsRow base e 1 v' (cur ++ l).length ((cur ++ l).map (Value.int k)) → w.grownBy w' v.ownBlock → K (a.put o.dst v') w') :
    if Region.wanted o (yielded ops a.tmps) = true then Oper.wp P o a w K Q else E := by
  have hw : Region.wanted o (yielded ops a.tmps) = true := by simp [Region.wanted, hgd]
  rw [if_pos hw]
  obtain ⟨v', w', hrun, r1, r2⟩ := run_append_rd (P := P) base t o.type e i z bytes h1 h2 h3 h4 h5 h6 k v cur hown ao c l hr hn b1 b2 hb
  unfold Oper.wp
  simp [execOp, hop, resolve, invoke, builtin, hs, hx, hrun, Result.andThen]
  exact hK v' w' r1 r2
end Apo
namespace Apo
open Go Go.RowKit

theorem wpList_appends {P : Program} {w : World} {ops : Array Oper} {rest : List Oper} {o : Oper} {a : Act} {Q : Exit → Act → World → Prop} (hgd : o.guard = none) (s x : Operand) (t : TypeId)
    (ho : o.op = .call { callee := .builtin .append, args := #[s, x], argTypes := #[t, t] }) (vs vx v' : Value) (w' : World) (hs : a.eval s = vs) (hx : a.eval x = vx)
    (hr : (Builtin.append_ #[t, t] o.type #[vs, vx]).run P w = .ok v' w') (h : wpList P ops Q rest (a.put o.dst v') w') : wpList P ops Q (o :: rest) a w :=
  wpList_plain hgd fun _ hK => by
    unfold Oper.wp execOp
    simp only [ho, resolve, invoke, builtin, Sem.run_bind, Sem.run_pure, Result.andThen_ok, List.map_toArray, List.map_cons, List.map_nil, hs, hx, hr]
    exact hK _ _ h

theorem step_appends {P : Program} {ops : Array Oper} {o : Oper} {a : Act} {w : World} {K : Act → World → Prop} {Q : Exit → Act → World → Prop} {E : Prop}
    (hgd : o.guard = none) (s x : Operand) (t : TypeId) (hop : o.op = Op.call { callee := Callee.builtin Builtin.append, args := #[s, x], argTypes := #[t, t] })
    (vs vx v' : Value) (w' : World) (hs : a.eval s = vs) (hx : a.eval x = vx)
    (hr : (Builtin.append_ #[t, t] o.type #[vs, vx]).run P w = .ok v' w') (hK : K (a.put o.dst v') w') :
    if Region.wanted o (yielded ops a.tmps) = true then Oper.wp P o a w K Q else E := by
  have hw : Region.wanted o (yielded ops a.tmps) = true := by simp [Region.wanted, hgd]
  rw [if_pos hw]
  unfold Oper.wp
  simp [execOp, hop, resolve, invoke, builtin, hs, hx, hr, Result.andThen]
  exact hK

/-- 'append(v[:n:n], x..)': v's cells are read, the row is new -/
theorem run_append_full {P : Program} {w : World} (t ty e : TypeId) (i : TypeInfo) (z : Value) (size bytes : Nat) (ht : P.underlying t = some (.slice e)) (hi : P.info? e = some i) (hz : i.zero = some z)
    (hsize : i.size = size) (hby : i.bytes = bytes) (hzs : z.cells.size = size) (ad : Addr) (n : Nat) (xs : List Value) (hx : xs.length = n * size) (hxs : ∀ j u, xs[j]? = some u → w.cell? (ad.add j) = some u)
    (a : Addr) (m c : Nat) (news : List Value) (hl : news.length = m * size) (hnews : ∀ j u, news[j]? = some u → w.cell? (a.add j) = some u)
    (hm : 0 < m) (h63 : n + m ≤ maxLen) (hbytes : (n + m) * bytes ≤ 140737488355328) :
    ∃ v' w', (Builtin.append_ #[t, t] ty #[.slice (some ad) n n, .slice (some a) m c]).run P w = .ok v' w' ∧ w'.ownsRow w.heap.size e size v' (n + m) (xs ++ news) ∧ w.grownBy w' none := by
  subst hsize
  subst hby
  have hsmall : n + m ≤ 9223372036854775807 := by simp only [maxLen] at h63; omega
  have hr := run_append_grow (P := P) w t ty e i z ht hi hz ad n n xs hx hxs a m c news hl hnews (by omega) (by omega) (growslice_fits (by omega) hbytes)
  have hlen : (xs ++ news).length = (n + m) * i.size := by rw [List.length_append, hx, hl, Nat.add_mul]
  have hge := grownCap_ge w (n + m) n e
  have hcm : grownCap w (n + m) n e ≤ maxLen := grownCap_le_maxLen w (n + m) n e h63
  refine ⟨_, _, hr, ⟨hlen, .inr ⟨w.heap.size, _, _, rfl, Nat.le_refl _, heap_alloc_new w.drew _, hge, hcm, ?_, ?_⟩⟩, ⟨rfl, rfl, rfl, by simp, fun k hk _ => Below.heap_alloc w.drew _ k hk⟩⟩
  · simp only [Array.size_append, List.size_toArray, size_zeroCells, hzs, hx, hl, ← Nat.add_mul]
    congr 1
    omega
  · simp only [Array.toList_append, List.append_assoc]
    rw [← List.append_assoc, ← hlen]
    exact List.take_left

/-- an append that runs to its end; what it answers, and the world behind it -/
def AppRuns (P : Program) (w : World) (ts : Array TypeId) (ty : TypeId) (xs : Array Value) : Prop := ∃ v' w', (Builtin.append_ ts ty xs).run P w = .ok v' w'
noncomputable def appVal (P : Program) (w : World) (ts : Array TypeId) (ty : TypeId) (xs : Array Value) : Value := match (Builtin.append_ ts ty xs).run P w with
  | .ok v _ => v
  | _ => undef
noncomputable def appWld (P : Program) (w : World) (ts : Array TypeId) (ty : TypeId) (xs : Array Value) : World := match (Builtin.append_ ts ty xs).run P w with
  | .ok _ w' => w'
  | _ => w
theorem app_runs {P : Program} {w w' : World} {ts : Array TypeId} {ty : TypeId} {xs : Array Value} {v' : Value} (h : (Builtin.append_ ts ty xs).run P w = .ok v' w') : AppRuns P w ts ty xs ∧ appVal P w ts ty xs = v' ∧ appWld P w ts ty xs = w' :=
  ⟨⟨v', w', h⟩, by unfold appVal; rw [h], by unfold appWld; rw [h]⟩
theorem app_run {P : Program} {w : World} {ts : Array TypeId} {ty : TypeId} {xs : Array Value} (h : AppRuns P w ts ty xs) : (Builtin.append_ ts ty xs).run P w = .ok (appVal P w ts ty xs) (appWld P w ts ty xs) := by
  obtain ⟨v', w', h⟩ := h
  obtain ⟨_, h1, h2⟩ := app_runs h
  rw [h1, h2]
  exact h
/-- the same at the operation, ahead of any unfolding -/
theorem app_exec {P : Program} {w : World} {ρ : Operand → Value} {dst : Option Tmp} {xs : Array Operand} {ats : Array TypeId} {ty : TypeId} {pos : String} {after : Array Edge} {guard : Option (Nat × Bool)} (h : AppRuns P w ats ty (xs.map ρ)) :
    (execOp ρ { dst, op := .call { callee := .builtin .append, args := xs, argTypes := ats }, type := ty, pos, after, guard }).run P w = .ok (.value (appVal P w ats ty (xs.map ρ))) (appWld P w ats ty (xs.map ρ)) := by
  rw [BigFrame.execOp_builtin, BigFrame.builtin_append]
  simp [app_run h]
end Apo
namespace Apo
open Go Go.RowKit

theorem rd_of_row {k : IntKind} {w : World} {a : Option Addr} {len cap : Nat} {zs : List Int}
    (h : (a = none ∧ len = 0 ∧ cap = 0 ∧ zs = []) ∨
      ∃ x, a = some x ∧ len ≤ cap ∧ cap ≤ maxLen ∧ zs.length = cap ∧ (∀ i, i < zs.length → w.cell? (x.add i) = some (.int k (zs.getD i 0))) ∧ ∀ n ∈ zs, (Lit.int k n).wf = true) :
    ∃ l : List Int, l.length = len ∧ Rd k w a l ∧ (a = none → cap = 0) ∧ ∀ n ∈ l, (Lit.int k n).wf = true := by
  rcases h with ⟨rfl, rfl, rfl, rfl⟩ | ⟨x, rfl, h1, _, h3, h4, h5⟩
  · exact ⟨[], rfl, Rd.nil _ _ _, fun _ => rfl, by simp⟩
  · refine ⟨zs.take len, by simp; omega, ?_, by simp, fun n hn => h5 n (List.mem_of_mem_take hn)⟩
    intro i hi
    have hi' : i < len := by simp at hi; omega
    obtain ⟨b, off, rfl, hc⟩ := ints_at h4 (by omega)
    refine ⟨b, off, rfl, ?_⟩
    rw [hc i (by omega)]
    congr 2
    simp [List.getD, hi']

theorem inU_of_wf {l : List Int} (h : ∀ n ∈ l, (Lit.int .u64 n).wf = true) : InU l := fun z hz => by
  have := bounds_u64 (h z hz); omega
theorem inB_of_wf {l : List Int} (h : ∀ n ∈ l, (Lit.int .u8 n).wf = true) : ∀ z ∈ l, 0 ≤ z ∧ z ≤ 255 := fun z hz => by
  have := bounds_u8 (h z hz); omega
end Apo
namespace Apo
open Go Go.RowKit

/-- the slice's cells, from its address on, hold the bools 'l' -/
def RdB (w : World) (a : Option Addr) (l : List Bool) : Prop :=
  ∀ i, i < l.length → ∃ b off, a = some ⟨b, off, none⟩ ∧ w.cell? ⟨b, off + i, none⟩ = some (.bool (l.getD i false))

theorem RdB.nil (w : World) (a : Option Addr) : RdB w a [] := fun i h => by simp at h
theorem RdB.below {w w' : World} {a : Option Addr} {l : List Bool} (h : RdB w a l) (hb : Below w.heap.size w w') : RdB w' a l := by
  intro i hi
  obtain ⟨b, off, ha, hc⟩ := h i hi
  have hlt := World.block_lt_of_cell? w _ hc
  exact ⟨b, off, ha, (hb.cell (by exact hlt)).trans hc⟩

/-- what a crash is told: which writes are kept, which is torn, behind how many bytes; where the bools lie -/
structure Fat where
  keep : List Bool
  ka : Option Addr
  kc : Nat
  torn : Int
  bytes : Int
def Fat.cells (f : Fat) : List Value := [.slice f.ka f.keep.length f.kc, .int .i64 f.torn, .int .i64 f.bytes]
def Fat.val (f : Fat) : Value := .agg f.cells.toArray
structure OkT (w : World) (f : Fat) : Prop where
  rd : RdB w f.ka f.keep
  nil : f.ka = none → f.kc = 0
  len : f.keep.length ≤ maxLen
  t0 : -9223372036854775808 ≤ f.torn
  t1 : f.torn ≤ 9223372036854775807
  b0 : -9223372036854775808 ≤ f.bytes
  b1 : f.bytes ≤ 9223372036854775807
theorem OkT.below {w w' : World} {f : Fat} (h : OkT w f) (hb : Below w.heap.size w w') : OkT w' f := { h with rd := h.rd.below hb }

/-- a deed -/
structure Dd where
  k : Int
  at' : Int
  b : List Int
  ba : Option Addr
  bc : Nat
  n : Int
  f : Fat
structure OkD (w : World) (d : Dd) : Prop where
  rd : Rd .u8 w d.ba d.b
  nil : d.ba = none → d.bc = 0
  len : d.b.length ≤ maxLen
  byt : ∀ z ∈ d.b, 0 ≤ z ∧ z ≤ 255
  k0 : -9223372036854775808 ≤ d.k
  k1 : d.k ≤ 9223372036854775807
  a0 : -9223372036854775808 ≤ d.at'
  a1 : d.at' ≤ 9223372036854775807
  n0 : -9223372036854775808 ≤ d.n
  n1 : d.n ≤ 9223372036854775807
  fat : OkT w d.f
theorem OkD.below {w w' : World} {d : Dd} (h : OkD w d) (hb : Below w.heap.size w w') : OkD w' d := { h with rd := h.rd.below hb, fat := h.fat.below hb }

/-- the slice's cells, seven a deed, from its address on hold the deeds 'l' -/
def RdD (w : World) (a : Option Addr) (l : List Dd) : Prop :=
  ∀ i d, l[i]? = some d → ∃ b off, a = some ⟨b, off, none⟩ ∧ w.cell? ⟨b, off + i * 7, none⟩ = some (.int .i64 d.k) ∧ w.cell? ⟨b, off + i * 7 + 1, none⟩ = some (.int .i64 d.at') ∧
    w.cell? ⟨b, off + i * 7 + 2, none⟩ = some (.slice d.ba d.b.length d.bc) ∧ w.cell? ⟨b, off + i * 7 + 3, none⟩ = some (.int .i64 d.n) ∧
    w.cell? ⟨b, off + i * 7 + 4, none⟩ = some (.slice d.f.ka d.f.keep.length d.f.kc) ∧ w.cell? ⟨b, off + i * 7 + 5, none⟩ = some (.int .i64 d.f.torn) ∧ w.cell? ⟨b, off + i * 7 + 6, none⟩ = some (.int .i64 d.f.bytes) ∧ OkD w d

theorem RdD.nil (w : World) (a : Option Addr) : RdD w a [] := fun i d h => by simp at h
theorem RdD.below {w w' : World} {a : Option Addr} {l : List Dd} (h : RdD w a l) (hb : Below w.heap.size w w') : RdD w' a l := by
  intro i d hi
  obtain ⟨b, off, ha, c0, c1, c2, c3, c4, c5, c6, ok⟩ := h i d hi
  have hlt := World.block_lt_of_cell? w _ c0
  exact ⟨b, off, ha, (hb.cell (by exact hlt)).trans c0, (hb.cell (by exact hlt)).trans c1, (hb.cell (by exact hlt)).trans c2, (hb.cell (by exact hlt)).trans c3, (hb.cell (by exact hlt)).trans c4, (hb.cell (by exact hlt)).trans c5, (hb.cell (by exact hlt)).trans c6, ok.below hb⟩
instance : Inhabited Fat := ⟨⟨[], none, 0, 0, 0⟩⟩
instance : Inhabited Dd := ⟨⟨0, 0, [], none, 0, 0, default⟩⟩
end Apo
namespace Apo
open Go Go.RowKit

structure Sd where
  S : List (List Int)
  C : List (Nat × List Int)
  bad : List Bool
  left : Int
  dead : Bool

def Sd.has (st : Sd) (at' : Int) : Bool := decide (0 ≤ at') && decide (at' < (st.S.length : Int))
def Sd.acts (st : Sd) : Bool := !(st.dead || st.left == 0)
def Sd.acted (st : Sd) : Sd := if st.acts then { st with left := if 0 < st.left then st.left - 1 else st.left } else { st with dead := true }
def Sd.wrote (st : Sd) (at' : Int) (b : List Int) : Int × Sd :=
  if st.dead then (40, st) else if st.has at' && b.length == 32 then (if st.acts then (0, { st.acted with C := st.C ++ [(at'.toNat, b)] }) else (40, st.acted)) else (1, st)
def lastOf (c : List (Nat × List Int)) (k : Nat) (b : List Int) : List Int := c.foldl (fun acc x => if x.1 = k then x.2 else acc) b
def Sd.told (st : Sd) (at' : Int) : List Int × Int :=
  if st.dead then ([], 40) else if st.has at' then (if st.bad.getD at'.toNat false then ([], 41) else (lastOf st.C at'.toNat (st.S.getD at'.toNat []), 0)) else ([], 1)
def putAll (c : List (Nat × List Int)) (S : List (List Int)) : List (List Int) := c.foldl (fun acc x => acc.set x.1 x.2) S
def Sd.flushed (st : Sd) : Int × Sd := if st.acts then (0, { st.acted with S := putAll st.C st.S, C := [] }) else (40, st.acted)
def Sd.armed (st : Sd) (n : Int) : Sd := { st with left := if 0 ≤ n then n else -1 }
def cutOf (z : Int) : Nat := if z < 0 then 0 else if 32 < z then 32 else z.toNat
def crashOne (keep : List Bool) (torn bytes : Int) (S : List (List Int)) (i : Nat) (x : Nat × List Int) : List (List Int) :=
  if (i : Int) = torn then S.set x.1 (x.2.take (cutOf bytes) ++ (S.getD x.1 []).drop (cutOf bytes)) else if keep.getD i false then S.set x.1 x.2 else S
/-- behind the first k cached writes -/
def crashK (keep : List Bool) (torn bytes : Int) (C : List (Nat × List Int)) (S : List (List Int)) : Nat → List (List Int)
  | 0 => S
  | k + 1 => match C[k]? with
    | some x => crashOne keep torn bytes (crashK keep torn bytes C S k) k x
    | none => crashK keep torn bytes C S k
def Sd.crashed (st : Sd) (f : Fat) : Sd := ⟨crashK f.keep f.torn f.bytes st.C st.S st.C.length, [], st.bad, -1, false⟩
def Sd.faulted (st : Sd) (at' : Int) (on : Bool) : Sd := if st.has at' then { st with bad := st.bad.set at'.toNat on } else st
def lenOf (n : Int) : Nat := if n < 0 then 0 else if 65536 < n then 65536 else n.toNat
def zeros : List Int := List.replicate 32 0
def newSd (n : Int) : Sd := ⟨List.replicate (lenOf n) zeros, [], List.replicate (lenOf n) false, -1, false⟩

def Sec (r : List Int) : Prop := r.length = 32 ∧ ∀ z ∈ r, 0 ≤ z ∧ z ≤ 255
structure OkS (st : Sd) : Prop where
  secs : ∀ r ∈ st.S, Sec r
  cach : ∀ x ∈ st.C, x.1 < st.S.length ∧ Sec x.2
  bads : st.bad.length = st.S.length
  size : st.S.length ≤ 65536
  l0 : -1 ≤ st.left
  l1 : st.left ≤ 9223372036854775807

theorem has_iff {st : Sd} {a : Int} : st.has a = true ↔ 0 ≤ a ∧ a < (st.S.length : Int) := by simp [Sd.has]
theorem sec_zeros : Sec zeros := ⟨by simp [zeros], by intro z hz; simp [zeros] at hz; omega⟩
theorem OkS.new (n : Int) : OkS (newSd n) :=
  ⟨fun r hr => by simp [newSd] at hr; rw [hr.2]; exact sec_zeros, by simp [newSd], by simp [newSd], by simp [newSd, lenOf]; split <;> (try split) <;> omega, by simp [newSd], by simp [newSd]⟩
theorem OkS.acted {st : Sd} (h : OkS st) : OkS st.acted := by
  unfold Sd.acted
  split
  · refine ⟨h.secs, h.cach, h.bads, h.size, ?_, ?_⟩ <;> (have := h.l0; have := h.l1; simp only; split <;> omega)
  · exact ⟨h.secs, h.cach, h.bads, h.size, h.l0, h.l1⟩
theorem acted_S (st : Sd) : st.acted.S = st.S := by unfold Sd.acted; split <;> rfl
theorem acted_C (st : Sd) : st.acted.C = st.C := by unfold Sd.acted; split <;> rfl
theorem acted_bad (st : Sd) : st.acted.bad = st.bad := by unfold Sd.acted; split <;> rfl
theorem OkS.wrote {st : Sd} (h : OkS st) (a : Int) {b : List Int} (hb : ∀ z ∈ b, 0 ≤ z ∧ z ≤ 255) : OkS (st.wrote a b).2 := by
  unfold Sd.wrote
  split
  · exact h
  · split
    · next h1 =>
      simp only [Bool.and_eq_true, beq_iff_eq] at h1
      have h2 := has_iff.1 h1.1
      split
      · have k := h.acted
        refine ⟨k.secs, ?_, k.bads, k.size, k.l0, k.l1⟩
        intro x hx
        simp only [List.mem_append, List.mem_singleton] at hx
        rcases hx with hx | hx
        · exact k.cach x (by rw [acted_C]; exact hx)
        · subst hx
          exact ⟨by simp only [acted_S]; omega, h1.2, hb⟩
      · exact h.acted
    · exact h
theorem putAll_len (c : List (Nat × List Int)) : ∀ S : List (List Int), (putAll c S).length = S.length := by
  induction c with
  | nil => intro S; rfl
  | cons x c ih => intro S; simp only [putAll, List.foldl_cons] at ih ⊢; rw [ih]; simp
theorem putAll_mem {P : List Int → Prop} (c : List (Nat × List Int)) : ∀ S : List (List Int), (∀ r ∈ S, P r) → (∀ x ∈ c, P x.2) → ∀ r ∈ putAll c S, P r := by
  induction c with
  | nil => intro S h _; exact h
  | cons x c ih =>
    intro S h k
    refine ih (S.set x.1 x.2) ?_ (fun y hy => k y (by simp [hy]))
    intro r hr
    rcases List.mem_or_eq_of_mem_set hr with hr | hr
    · exact h r hr
    · rw [hr]; exact k x (by simp)
theorem OkS.flushed {st : Sd} (h : OkS st) : OkS st.flushed.2 := by
  unfold Sd.flushed
  split
  · have k := h.acted
    exact ⟨putAll_mem _ _ h.secs (fun x hx => (h.cach x hx).2), by simp, by simp only [putAll_len, acted_bad]; exact h.bads, by simp only [putAll_len]; exact h.size, k.l0, k.l1⟩
  · exact h.acted
theorem OkS.armed {st : Sd} (h : OkS st) {n : Int} (hn : n ≤ 9223372036854775807) : OkS (st.armed n) :=
  ⟨h.secs, h.cach, h.bads, h.size, by simp only [Sd.armed]; split <;> omega, by simp only [Sd.armed]; split <;> omega⟩
theorem OkS.faulted {st : Sd} (h : OkS st) (a : Int) (on : Bool) : OkS (st.faulted a on) := by
  unfold Sd.faulted
  split
  · exact ⟨h.secs, h.cach, by simp [h.bads], h.size, h.l0, h.l1⟩
  · exact h
theorem sec_mix {a b : List Int} (ha : Sec a) (hb : Sec b) (z : Int) : Sec (a.take (cutOf z) ++ b.drop (cutOf z)) := by
  have hc : cutOf z ≤ 32 := by unfold cutOf; split <;> (try split) <;> omega
  refine ⟨by simp [ha.1, hb.1]; omega, ?_⟩
  intro y hy
  simp only [List.mem_append] at hy
  rcases hy with hy | hy
  · exact ha.2 y (List.mem_of_mem_take hy)
  · exact hb.2 y (List.mem_of_mem_drop hy)
theorem crashK_ok {keep : List Bool} {torn bytes : Int} {C : List (Nat × List Int)} {S : List (List Int)} (hS : ∀ r ∈ S, Sec r) (hC : ∀ x ∈ C, x.1 < S.length ∧ Sec x.2) : ∀ k, (crashK keep torn bytes C S k).length = S.length ∧ ∀ r ∈ crashK keep torn bytes C S k, Sec r
  | 0 => ⟨rfl, hS⟩
  | k + 1 => by
    obtain ⟨h1, h2⟩ := crashK_ok (keep := keep) (torn := torn) (bytes := bytes) hS hC k
    simp only [crashK]
    cases hx : C[k]? with
    | none => exact ⟨h1, h2⟩
    | some x =>
      have hc := hC x (List.mem_of_getElem? hx)
      simp only [crashOne]
      split
      · refine ⟨by simp [h1], ?_⟩
        intro r hr
        rcases List.mem_or_eq_of_mem_set hr with hr | hr
        · exact h2 r hr
        · rw [hr]
          have hlt : x.1 < (crashK keep torn bytes C S k).length := by omega
          have : (crashK keep torn bytes C S k).getD x.1 [] = (crashK keep torn bytes C S k)[x.1] := by simp [List.getD, hlt]
          rw [this]
          exact sec_mix hc.2 (h2 _ (List.getElem_mem hlt)) _
      · split
        · refine ⟨by simp [h1], ?_⟩
          intro r hr
          rcases List.mem_or_eq_of_mem_set hr with hr | hr
          · exact h2 r hr
          · rw [hr]; exact hc.2
        · exact ⟨h1, h2⟩
theorem OkS.crashed {st : Sd} (h : OkS st) (f : Fat) : OkS (st.crashed f) := by
  obtain ⟨h1, h2⟩ := crashK_ok (keep := f.keep) (torn := f.torn) (bytes := f.bytes) h.secs h.cach st.C.length
  exact ⟨h2, by simp [Sd.crashed], by simp only [Sd.crashed, h1]; exact h.bads, by simp only [Sd.crashed, h1]; exact h.size, by simp [Sd.crashed], by simp [Sd.crashed]⟩

theorem lastOf_snoc {C : List (Nat × List Int)} {k : Nat} {x : Nat × List Int} (h : C[k]? = some x) (at' : Nat) (b : List Int) : lastOf (C.take (k + 1)) at' b = if x.1 = at' then x.2 else lastOf (C.take k) at' b := by
  rw [List.take_add_one, h]
  simp [lastOf, List.foldl_append]
theorem putAll_snoc {C : List (Nat × List Int)} {k : Nat} {x : Nat × List Int} (h : C[k]? = some x) (S : List (List Int)) : putAll (C.take (k + 1)) S = (putAll (C.take k) S).set x.1 x.2 := by
  rw [List.take_add_one, h]
  simp [putAll, List.foldl_append]
end Apo
namespace Apo
open Go Go.RowKit

/-- what a Save makes of a device -/
def Sd.save (st : Sd) (s : Sup) : Int × Sd :=
  if st.flushed.1 = 0 then (if (st.flushed.2.wrote ((s.e : Int) % 2) (superB s)).1 = 0 then (st.flushed.2.wrote ((s.e : Int) % 2) (superB s)).2.flushed else st.flushed.2.wrote ((s.e : Int) % 2) (superB s)) else st.flushed
theorem flushed_vals (st : Sd) : st.flushed.1 = 0 ∨ st.flushed.1 = 40 := by
  unfold Sd.flushed
  split
  · exact .inl rfl
  · exact .inr rfl
theorem wrote_vals (st : Sd) (a : Int) (b : List Int) : (st.wrote a b).1 = 0 ∨ (st.wrote a b).1 = 1 ∨ (st.wrote a b).1 = 40 := by
  unfold Sd.wrote
  split
  · exact .inr (.inr rfl)
  · split
    · split
      · exact .inl rfl
      · exact .inr (.inr rfl)
    · exact .inr (.inl rfl)
/-- the super that is loaded of two sectors' bytes -/
def pickSup (la lb : List Int) : Sup × Int :=
  if isSup la = false ∧ isSup lb = false then (Sup.none, 50) else if isSup la = false ∨ (isSup lb = true ∧ (supOf la).e < (supOf lb).e) then (supOf lb, 0) else (supOf la, 0)
def Sd.load (st : Sd) : Sup × Int :=
  if (st.told 0).2 = 0 then (if (st.told 1).2 = 0 then pickSup (st.told 0).1 (st.told 1).1 else (Sup.none, (st.told 1).2)) else (Sup.none, (st.told 0).2)
theorem told_byt {st : Sd} (ok : OkS st) (a : Int) : ∀ z ∈ (st.told a).1, 0 ≤ z ∧ z ≤ 255 := by
  unfold Sd.told
  split
  · simp
  · split
    · next h =>
      split
      · simp
      · have h2 := has_iff.1 h
        have hi : a.toNat < st.S.length := by omega
        have hg : st.S.getD a.toNat [] = st.S[a.toNat] := by simp [List.getD, hi]
        rw [hg]
        have : ∀ (C : List (Nat × List Int)) (b : List Int), (∀ x ∈ C, Sec x.2) → Sec b → Sec (lastOf C a.toNat b) := by
          intro C
          induction C with
          | nil => intro b _ hb; exact hb
          | cons x C ih =>
            intro b hC hb
            have := ih (if x.1 = a.toNat then x.2 else b) (fun y hy => hC y (by simp [hy])) (by split; exact hC x (by simp); exact hb)
            simpa [lastOf] using this
        exact (this st.C _ (fun x hx => (ok.cach x hx).2) (ok.secs _ (List.getElem_mem hi))).2
    · simp
end Apo
