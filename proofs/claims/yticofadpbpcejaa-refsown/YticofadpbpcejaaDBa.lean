/- Picked out of other texts of mine. -/
import Derived.Test.YticofadpbpcejaaGBa
import Derived.Laws.StructEq
import Derived.BigQuiet
import Derived.Deep.QuietTactic
import Derived.Lib.Bytealg
import Derived.Lib.Walk
import Derived.BigRegion
namespace Apo
open Go Go.RowKit
/-- an entry, a child, a node -/
structure En where
  k : ByteArray
  v : ByteArray
instance : Inhabited En := ⟨⟨ByteArray.empty, ByteArray.empty⟩⟩
def keyE (k : ByteArray) : Int := if k.size < 1 ∨ 40 < k.size then 100 else 0
def valE (v : ByteArray) : Int := if 200 < v.size then 101 else 0
def sLt (a b : ByteArray) : Bool := Op.bytesLess a.toList b.toList
def enE (e : En) : Int := if keyE e.k ≠ 0 then keyE e.k else valE e.v
/-- the first error of a row -/
def firstE {α : Type} (f : α → Int) : List α → Int
  | [] => 0
  | x :: l => if f x ≠ 0 then f x else firstE f l
theorem firstE_none {α : Type} {f : α → Int} : ∀ {l : List α}, (∀ x ∈ l, f x = 0) → firstE f l = 0
  | [], _ => rfl
  | x :: l, h => by
    unfold firstE
    rw [if_neg (by rw [h x (by simp)]; simp)]
    exact firstE_none (fun y hy => h y (by simp [hy]))
theorem firstE_at {α : Type} {f : α → Int} : ∀ {l : List α} {k : Nat} {x : α}, l[k]? = some x → (∀ y ∈ l.take k, f y = 0) → f x ≠ 0 → firstE f l = f x
  | [], _, _, h, _, _ => by simp at h
  | y :: l, 0, x, h, _, hx => by
    simp at h
    subst h
    unfold firstE
    rw [if_pos hx]
  | y :: l, k + 1, x, h, hb, hx => by
    unfold firstE
    rw [if_neg (by rw [hb y (by simp)]; simp)]
    exact firstE_at (k := k) (by simpa using h) (fun z hz => hb z (by simp [hz])) hx
/-- entries in a row of memory -/
def RdEn (w : World) (a : Option Addr) (l : List En) : Prop :=
  ∀ i e, l[i]? = some e → ∃ g o, a = some ⟨g, o, none⟩ ∧ w.cell? ⟨g, o + i * 2, none⟩ = some (.string e.k) ∧ w.cell? ⟨g, o + i * 2 + 1, none⟩ = some (.string e.v)
theorem RdEn.below {w w' : World} {a : Option Addr} {l : List En} (h : RdEn w a l) (b : Below w.heap.size w w') : RdEn w' a l := fun i e hi => by
  obtain ⟨g, o, h1, h2, h3⟩ := h i e hi
  have hg := World.block_lt_of_cell? _ _ h2
  exact ⟨g, o, h1, (b.cell (p := ⟨g, o + i * 2, none⟩) hg).trans h2, (b.cell (p := ⟨g, o + i * 2 + 1, none⟩) hg).trans h3⟩
def smallEn (e : En) : Bool := decide (e.k.size ≤ 60) && decide (e.v.size ≤ 250)
def lightB (l : List En) : Bool := l.all smallEn && decide (l.length ≤ 60)
theorem all_take_false {α : Type} {p : α → Bool} {l : List α} {k : Nat} {x : α} (h : l[k]? = some x) (hx : p x = false) : l.all p = false := by
  rw [List.all_eq_false]
  exact ⟨x, List.mem_of_getElem? h, by rw [hx]; simp⟩
end Apo
namespace Go.Proofs.Yticofadpbpcejaa
open Go.RowKit Apo
end Go.Proofs.Yticofadpbpcejaa
namespace Apo
open Go Go.RowKit
theorem bl_irr : ∀ x : List UInt8, Op.bytesLess x x = false
  | [] => rfl
  | a :: x => by simp [Op.bytesLess, bl_irr x]
theorem bl_trans : ∀ x y z : List UInt8, Op.bytesLess x y = true → Op.bytesLess y z = true → Op.bytesLess x z = true
  | _, [], _, h, _ => by simp [Op.bytesLess] at h
  | _, _ :: _, [], _, h => by simp [Op.bytesLess] at h
  | [], _ :: _, _ :: _, _, _ => by simp [Op.bytesLess]
  | a :: x, b :: y, c :: z, h, k => by
    simp only [Op.bytesLess, Bool.or_eq_true, Bool.and_eq_true, decide_eq_true_eq, beq_iff_eq] at h k ⊢
    rcases h with h | ⟨rfl, h⟩
    · rcases k with k | ⟨rfl, k⟩
      · exact .inl (UInt8.lt_trans h k)
      · exact .inl h
    · rcases k with k | ⟨rfl, k⟩
      · exact .inl k
      · exact .inr ⟨rfl, bl_trans x y z h k⟩
theorem bl_conn : ∀ x y : List UInt8, Op.bytesLess x y = false → Op.bytesLess y x = false → x = y
  | [], [], _, _ => rfl
  | [], _ :: _, h, _ => by simp [Op.bytesLess] at h
  | _ :: _, [], _, h => by simp [Op.bytesLess] at h
  | a :: x, b :: y, h, k => by
    simp only [Op.bytesLess, Bool.or_eq_false_iff, decide_eq_false_iff_not, Bool.and_eq_false_iff] at h k
    have hab : a = b := by
      have h1 := h.1
      have h2 := k.1
      rw [UInt8.not_lt] at h1 h2
      exact UInt8.le_antisymm h2 h1
    subst hab
    have h2 := h.2
    have k2 := k.2
    simp at h2 k2
    rw [bl_conn x y h2 k2]
theorem sLt_trans {a b c : ByteArray} (h : sLt a b = true) (k : sLt b c = true) : sLt a c = true := bl_trans _ _ _ h k
theorem sLt_irr (a : ByteArray) : sLt a a = false := bl_irr _
end Apo
namespace Go.Proofs.Yticofadpbpcejaa
open Go.RowKit Apo
set_option maxRecDepth 100000 in
theorem bytes_of_list {a b : ByteArray} (h : a.toList = b.toList) : a = b := by
  rw [ByteArray.toList_eq, ByteArray.toList_eq] at h
  exact ByteArray.ext (Array.ext' h)
open Classical in
open Classical in
theorem sLt_conn {a b : ByteArray} (h : sLt a b = false) (k : sLt b a = false) : a = b := bytes_of_list (bl_conn _ _ h k)
/-- keys that rise -/
def Rise (l : List ByteArray) : Prop := l.Pairwise (fun a b => sLt a b = true)
theorem rise_of {l : List ByteArray} (h : ∀ i, i + 1 < l.length → sLt (l.getD i ByteArray.empty) (l.getD (i + 1) ByteArray.empty) = true) : Rise l := by
  induction l with
  | nil => exact List.Pairwise.nil
  | cons x l ih =>
    have hl : Rise l := ih (fun i hi => by have := h (i + 1) (by simp; omega); simpa using this)
    refine List.Pairwise.cons (fun y hy => ?_) hl
    cases l with
    | nil => simp at hy
    | cons z l =>
      have h0 : sLt x z = true := by have := h 0 (by simp); simpa using this
      rcases List.mem_cons.1 hy with rfl | q
      · exact h0
      · exact sLt_trans h0 (List.rel_of_pairwise_cons hl q)
theorem Rise.at {l : List ByteArray} (h : Rise l) {i : Nat} (hi : i + 1 < l.length) : sLt (l.getD i ByteArray.empty) (l.getD (i + 1) ByteArray.empty) = true := by
  have := List.pairwise_iff_getElem.1 h i (i + 1) (by omega) hi (by omega)
  rw [List.getD_eq_getElem?_getD, List.getD_eq_getElem?_getD, List.getElem?_eq_getElem (by omega), List.getElem?_eq_getElem hi]
  exact this
/-- a map's entries -/
structure MapOk (es : List En) : Prop where
  rise : Rise (es.map En.k)
  key : ∀ e ∈ es, 1 ≤ e.k.size ∧ e.k.size ≤ 40
  val : ∀ e ∈ es, e.v.size ≤ 200
end Go.Proofs.Yticofadpbpcejaa
namespace Apo
open Go Go.RowKit
theorem enE_key {e : En} (h : keyE e.k ≠ 0) : enE e = keyE e.k := by unfold enE; rw [if_pos h]
theorem enE_val {e : En} (h : keyE e.k = 0) : enE e = valE e.v := by unfold enE; rw [if_neg (by simp [h])]
theorem keyE_ok {k : ByteArray} (h : keyE k = 0) : 1 ≤ k.size ∧ k.size ≤ 40 := by
  unfold keyE at h
  split at h
  · simp at h
  · omega
theorem firstE_zero {α : Type} {f : α → Int} : ∀ {l : List α}, firstE f l = 0 → ∀ x ∈ l, f x = 0
  | [], _, x, hx => by simp at hx
  | y :: l, h, x, hx => by
    unfold firstE at h
    by_cases q : f y = 0
    · rw [if_neg (by simp [q])] at h
      rcases List.mem_cons.1 hx with rfl | z
      · exact q
      · exact firstE_zero h x z
    · rw [if_pos q] at h
      exact absurd h q
end Apo
namespace Go.Proofs.Yticofadpbpcejaa
open Go.RowKit Apo
/-- what tells whether keys rise -/
def RsP (es : List En) (w : World) (e : Ending) (w' : World) : Prop := ∃ b : Bool, e = .returned (.bool b) ∧ (b = true ↔ Rise (es.map En.k)) ∧ Below w.heap.size w w'
theorem rise_getD {es : List En} {i : Nat} {e f : En} (h : Rise (es.map En.k)) (h1 : es[i]? = some e) (h2 : es[i + 1]? = some f) : sLt e.k f.k = true := by
  have hl := (List.getElem?_eq_some_iff.1 h2).1
  have := h.at (i := i) (by simpa using hl)
  simpa [List.getD_eq_getElem?_getD, h1, h2] using this
theorem rise_all {es : List En} (h : ∀ i e f, es[i]? = some e → es[i + 1]? = some f → sLt e.k f.k = true) : Rise (es.map En.k) := by
  refine rise_of (fun i hi => ?_)
  simp only [List.length_map] at hi
  have h1 : es[i]? = some (es[i]'(by omega)) := List.getElem?_eq_getElem _
  have h2 : es[i + 1]? = some (es[i + 1]'hi) := List.getElem?_eq_getElem _
  simpa [List.getD_eq_getElem?_getD, h1, h2] using h i _ _ h1 h2
open Classical in
/-- what is wrong with a map's entries -/
noncomputable def rightE (es : List En) : Int := if firstE enE es ≠ 0 then firstE enE es else if Rise (es.map En.k) then 0 else 90
theorem rightE_map {es : List En} (h : rightE es = 0) : MapOk es := by
  unfold rightE at h
  by_cases h1 : firstE enE es ≠ 0
  · rw [if_pos h1] at h; exact absurd h h1
  · rw [if_neg h1] at h
    by_cases h2 : Rise (es.map En.k)
    · have h3 : firstE enE es = 0 := by simpa using h1
      have h4 : ∀ e ∈ es, keyE e.k = 0 ∧ valE e.v = 0 := fun e he => by
        have := firstE_zero h3 e he
        by_cases q : keyE e.k = 0
        · rw [enE_val q] at this; exact ⟨q, this⟩
        · rw [enE_key q] at this; exact absurd this q
      refine ⟨h2, fun e he => keyE_ok (h4 e he).1, fun e he => ?_⟩
      have := (h4 e he).2
      unfold valE at this
      split at this
      · simp at this
      · omega
    · rw [if_neg h2] at h; simp at h
theorem take_enE {es : List En} {k : Nat} {e : En} (h : es[k]? = some e) (hp : ∀ y ∈ es.take k, enE y = 0) (hx : enE e = 0) : ∀ y ∈ es.take (k + 1), enE y = 0 := by
  intro y hy
  rw [List.take_add_one, h] at hy
  rcases List.mem_append.1 hy with q | q
  · exact hp y q
  · simp at q; rw [q]; exact hx
theorem rightE_at {es : List En} {k : Nat} {e : En} (h : es[k]? = some e) (hp : ∀ y ∈ es.take k, enE y = 0) (hx : enE e ≠ 0) : rightE es = enE e := by
  unfold rightE
  rw [firstE_at h hp hx, if_pos hx]
/-- what is told of a key: its value, or that there is none -/
def Gets (es : List En) (key : ByteArray) (v : ByteArray) (b : Bool) : Prop := (b = true ∧ ∃ e ∈ es, e.k = key ∧ e.v = v) ∨ (b = false ∧ v = ⟨#[]⟩ ∧ ∀ e ∈ es, e.k ≠ key)
def RrP (es : List En) (w : World) (e : Ending) (w' : World) : Prop := e = .returned (.int .i64 (rightE es)) ∧ Below w.heap.size w w'
def RgP (es : List En) (key : ByteArray) (w : World) (e : Ending) (w' : World) : Prop := ∃ (v : ByteArray) (b : Bool), e = .returned (.agg #[.bool b, .string v]) ∧ Gets es key v b ∧ Below w.heap.size w w'
/-- how two texts are held against each other -/
def cmpS (a b : ByteArray) : Int := Lib.compareBytes a.data.toList b.data.toList
theorem cb_lt : ∀ x y : List UInt8, (Lib.compareBytes x y < 0 ↔ Op.bytesLess x y = true) ∧ (Lib.compareBytes x y = 0 ↔ x = y) ∧ -1 ≤ Lib.compareBytes x y ∧ Lib.compareBytes x y ≤ 1
  | [], [] => by simp [Lib.compareBytes, Op.bytesLess]
  | [], _ :: _ => by simp [Lib.compareBytes, Op.bytesLess]
  | _ :: _, [] => by simp [Lib.compareBytes, Op.bytesLess]
  | a :: x, b :: y => by
    have ih := cb_lt x y
    unfold Lib.compareBytes
    by_cases h1 : a < b
    · rw [if_pos h1]
      refine ⟨by simp [Op.bytesLess, h1], ⟨fun q => by simp at q, fun q => ?_⟩, by omega, by omega⟩
      have : a = b := by injection q
      subst this
      exact absurd h1 (UInt8.lt_irrefl a)
    · rw [if_neg h1]
      by_cases h2 : b < a
      · rw [if_pos h2]
        have hne : a ≠ b := fun q => by subst q; exact UInt8.lt_irrefl a h2
        refine ⟨by simp [Op.bytesLess, h1, hne], ⟨fun q => by simp at q, fun q => ?_⟩, by omega, by omega⟩
        injection q with q
        exact absurd q hne
      · rw [if_neg h2]
        have hab : a = b := by
          rw [UInt8.not_lt] at h1 h2
          exact UInt8.le_antisymm h2 h1
        subst hab
        refine ⟨?_, ?_, ih.2.2.1, ih.2.2.2⟩
        · rw [ih.1]
          simp [Op.bytesLess]
        · rw [ih.2.1]
          simp
theorem cmpS_lt {a b : ByteArray} : cmpS a b < 0 ↔ sLt a b = true := by
  unfold cmpS sLt
  rw [ByteArray.toList_eq, ByteArray.toList_eq]
  exact (cb_lt _ _).1
theorem cmpS_eq {a b : ByteArray} : cmpS a b = 0 ↔ a = b := by
  unfold cmpS
  rw [(cb_lt _ _).2.1]
  exact ⟨fun q => ByteArray.ext (Array.ext' q), fun q => by rw [q]⟩
/-- entries whose keys rise -/
def RiseE (es : List En) : Prop := es.Pairwise (fun a b => sLt a.k b.k = true)
theorem riseE_iff {es : List En} : RiseE es ↔ Rise (es.map En.k) := by unfold RiseE Rise; rw [List.pairwise_map]
theorem gets_uniq {es : List En} {key v v' : ByteArray} {b b' : Bool} (hr : RiseE es) (h : Gets es key v b) (h' : Gets es key v' b') : v = v' ∧ b = b' := by
  rcases h with ⟨rfl, e, h1, h2, h3⟩ | ⟨rfl, rfl, h1⟩
  · rcases h' with ⟨rfl, f, k1, k2, k3⟩ | ⟨rfl, rfl, k1⟩
    · obtain ⟨i, hi, qi⟩ := List.mem_iff_getElem.1 h1
      obtain ⟨j, hj, qj⟩ := List.mem_iff_getElem.1 k1
      have hP := List.pairwise_iff_getElem.1 hr
      rcases Nat.lt_trichotomy i j with z | z | z
      · have := hP i j hi hj z
        rw [qi, qj, h2, k2, sLt_irr] at this
        cases this
      · subst z
        rw [← h3, ← k3, ← qi, ← qj]
        exact ⟨rfl, rfl⟩
      · have := hP j i hj hi z
        rw [qi, qj, h2, k2, sLt_irr] at this
        cases this
    · exact absurd h2 (k1 e h1)
  · rcases h' with ⟨rfl, f, k1, k2, k3⟩ | ⟨rfl, rfl, k1⟩
    · exact absurd k2 (h1 f k1)
    · exact ⟨rfl, rfl⟩
end Go.Proofs.Yticofadpbpcejaa
