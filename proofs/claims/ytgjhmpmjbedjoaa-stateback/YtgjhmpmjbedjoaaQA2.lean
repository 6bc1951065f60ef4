/- Picked out of other texts of mine. Rows of things of some cells each, in general; edits and changes. -/
import Derived.Laws.StructEq
import Derived.BigQuiet
import Derived.Deep.QuietTactic
import Derived.Lib.Bytealg
import Derived.Lib.Walk
import Derived.BigRegion
import Derived.Maps.AppendAt
import Derived.Test.YtgjhmpmjbedjoaaQGBa
namespace Apo
open Go Go.RowKit
/-- an entry, a child, a node -/
structure En where
  k : ByteArray
  v : ByteArray
instance : Inhabited En := ⟨⟨ByteArray.empty, ByteArray.empty⟩⟩
def keyE (k : ByteArray) : Int := if k.size < 1 ∨ 40 < k.size then 100 else 0
def valE (v : ByteArray) : Int := if 200 < v.size then 101 else 0
def sLt (a b : ByteArray) : Bool := Op.bytesLess a.toList b.toList
def enE (e : En) : Int := if keyE e.k ≠ 0 then keyE e.k else valE e.v
/-- the first error of a row -/
def firstE {α : Type} (f : α → Int) : List α → Int
  | [] => 0
  | x :: l => if f x ≠ 0 then f x else firstE f l
theorem firstE_none {α : Type} {f : α → Int} : ∀ {l : List α}, (∀ x ∈ l, f x = 0) → firstE f l = 0
  | [], _ => rfl
  | x :: l, h => by
    unfold firstE
    rw [if_neg (by rw [h x (by simp)]; simp)]
    exact firstE_none (fun y hy => h y (by simp [hy]))
theorem firstE_at {α : Type} {f : α → Int} : ∀ {l : List α} {k : Nat} {x : α}, l[k]? = some x → (∀ y ∈ l.take k, f y = 0) → f x ≠ 0 → firstE f l = f x
  | [], _, _, h, _, _ => by simp at h
  | y :: l, 0, x, h, _, hx => by
    simp at h
    subst h
    unfold firstE
    rw [if_pos hx]
  | y :: l, k + 1, x, h, hb, hx => by
    unfold firstE
    rw [if_neg (by rw [hb y (by simp)]; simp)]
    exact firstE_at (k := k) (by simpa using h) (fun z hz => hb z (by simp [hz])) hx
/-- entries in a row of memory -/
def RdEn (w : World) (a : Option Addr) (l : List En) : Prop :=
  ∀ i e, l[i]? = some e → ∃ g o, a = some ⟨g, o, none⟩ ∧ w.cell? ⟨g, o + i * 2, none⟩ = some (.string e.k) ∧ w.cell? ⟨g, o + i * 2 + 1, none⟩ = some (.string e.v)
theorem RdEn.below {w w' : World} {a : Option Addr} {l : List En} (h : RdEn w a l) (b : Below w.heap.size w w') : RdEn w' a l := fun i e hi => by
  obtain ⟨g, o, h1, h2, h3⟩ := h i e hi
  have hg := World.block_lt_of_cell? _ _ h2
  exact ⟨g, o, h1, (b.cell (p := ⟨g, o + i * 2, none⟩) hg).trans h2, (b.cell (p := ⟨g, o + i * 2 + 1, none⟩) hg).trans h3⟩
def smallEn (e : En) : Bool := decide (e.k.size ≤ 60) && decide (e.v.size ≤ 250)
def lightB (l : List En) : Bool := l.all smallEn && decide (l.length ≤ 60)
theorem all_take_false {α : Type} {p : α → Bool} {l : List α} {k : Nat} {x : α} (h : l[k]? = some x) (hx : p x = false) : l.all p = false := by
  rw [List.all_eq_false]
  exact ⟨x, List.mem_of_getElem? h, by rw [hx]; simp⟩
end Apo
namespace Go.Proofs.Ytgjhmpmjbedjoaa
open Go.RowKit Apo
end Go.Proofs.Ytgjhmpmjbedjoaa
namespace Apo
open Go Go.RowKit
theorem bl_irr : ∀ x : List UInt8, Op.bytesLess x x = false
  | [] => rfl
  | a :: x => by simp [Op.bytesLess, bl_irr x]
theorem bl_trans : ∀ x y z : List UInt8, Op.bytesLess x y = true → Op.bytesLess y z = true → Op.bytesLess x z = true
  | _, [], _, h, _ => by simp [Op.bytesLess] at h
  | _, _ :: _, [], _, h => by simp [Op.bytesLess] at h
  | [], _ :: _, _ :: _, _, _ => by simp [Op.bytesLess]
  | a :: x, b :: y, c :: z, h, k => by
    simp only [Op.bytesLess, Bool.or_eq_true, Bool.and_eq_true, decide_eq_true_eq, beq_iff_eq] at h k ⊢
    rcases h with h | ⟨rfl, h⟩
    · rcases k with k | ⟨rfl, k⟩
      · exact .inl (UInt8.lt_trans h k)
      · exact .inl h
    · rcases k with k | ⟨rfl, k⟩
      · exact .inl k
      · exact .inr ⟨rfl, bl_trans x y z h k⟩
theorem bl_conn : ∀ x y : List UInt8, Op.bytesLess x y = false → Op.bytesLess y x = false → x = y
  | [], [], _, _ => rfl
  | [], _ :: _, h, _ => by simp [Op.bytesLess] at h
  | _ :: _, [], _, h => by simp [Op.bytesLess] at h
  | a :: x, b :: y, h, k => by
    simp only [Op.bytesLess, Bool.or_eq_false_iff, decide_eq_false_iff_not, Bool.and_eq_false_iff] at h k
    have hab : a = b := by
      have h1 := h.1
      have h2 := k.1
      rw [UInt8.not_lt] at h1 h2
      exact UInt8.le_antisymm h2 h1
    subst hab
    have h2 := h.2
    have k2 := k.2
    simp at h2 k2
    rw [bl_conn x y h2 k2]
theorem sLt_trans {a b c : ByteArray} (h : sLt a b = true) (k : sLt b c = true) : sLt a c = true := bl_trans _ _ _ h k
theorem sLt_irr (a : ByteArray) : sLt a a = false := bl_irr _
end Apo
namespace Go.Proofs.Ytgjhmpmjbedjoaa
open Go.RowKit Apo
set_option maxRecDepth 100000 in
theorem bytes_of_list {a b : ByteArray} (h : a.toList = b.toList) : a = b := by
  rw [ByteArray.toList_eq, ByteArray.toList_eq] at h
  exact ByteArray.ext (Array.ext' h)
open Classical in
open Classical in
theorem sLt_conn {a b : ByteArray} (h : sLt a b = false) (k : sLt b a = false) : a = b := bytes_of_list (bl_conn _ _ h k)
/-- keys that rise -/
def Rise (l : List ByteArray) : Prop := l.Pairwise (fun a b => sLt a b = true)
theorem rise_of {l : List ByteArray} (h : ∀ i, i + 1 < l.length → sLt (l.getD i ByteArray.empty) (l.getD (i + 1) ByteArray.empty) = true) : Rise l := by
  induction l with
  | nil => exact List.Pairwise.nil
  | cons x l ih =>
    have hl : Rise l := ih (fun i hi => by have := h (i + 1) (by simp; omega); simpa using this)
    refine List.Pairwise.cons (fun y hy => ?_) hl
    cases l with
    | nil => simp at hy
    | cons z l =>
      have h0 : sLt x z = true := by have := h 0 (by simp); simpa using this
      rcases List.mem_cons.1 hy with rfl | q
      · exact h0
      · exact sLt_trans h0 (List.rel_of_pairwise_cons hl q)
theorem Rise.at {l : List ByteArray} (h : Rise l) {i : Nat} (hi : i + 1 < l.length) : sLt (l.getD i ByteArray.empty) (l.getD (i + 1) ByteArray.empty) = true := by
  have := List.pairwise_iff_getElem.1 h i (i + 1) (by omega) hi (by omega)
  rw [List.getD_eq_getElem?_getD, List.getD_eq_getElem?_getD, List.getElem?_eq_getElem (by omega), List.getElem?_eq_getElem hi]
  exact this
/-- a map's entries -/
structure MapOk (es : List En) : Prop where
  rise : Rise (es.map En.k)
  key : ∀ e ∈ es, 1 ≤ e.k.size ∧ e.k.size ≤ 40
  val : ∀ e ∈ es, e.v.size ≤ 200
set_option maxRecDepth 100000 in
theorem rkey_any (k : ByteArray) (w : World) (hk : k.size ≤ 9223372036854775807) : Calls Try.prog 55 #[.string k] w fun e w' => e = .returned (.int .i64 (keyE k)) ∧ w = w' := by
  unfold keyE
  by_cases h1 : k.size < 1
  · have d1 : decide ((k.size : Int) < 1) = true := by simp; omega
    rw [if_pos (.inl h1)]
    go_enter Try.func55, Try.ntmps55
    go_wp2
    go_ret
    exact ⟨rfl, rfl⟩
  · have d1 : decide ((k.size : Int) < 1) = false := by simp; omega
    by_cases h2 : 40 < k.size
    · have d2 : decide ((40 : Int) < (k.size : Int)) = true := by simp; omega
      rw [if_pos (.inr h2)]
      go_enter Try.func55, Try.ntmps55
      go_wp2
      go_ret
      exact ⟨rfl, rfl⟩
    · have d2 : decide ((40 : Int) < (k.size : Int)) = false := by simp; omega
      rw [if_neg (by omega)]
      go_enter Try.func55, Try.ntmps55
      go_wp2
      go_ret
      exact ⟨rfl, rfl⟩
set_option maxRecDepth 100000 in
theorem rval_any (v : ByteArray) (w : World) (hk : v.size ≤ 9223372036854775807) : Calls Try.prog 56 #[.string v] w fun e w' => e = .returned (.int .i64 (valE v)) ∧ w = w' := by
  unfold valE
  by_cases h2 : 200 < v.size
  · have d2 : decide ((200 : Int) < (v.size : Int)) = true := by simp; omega
    rw [if_pos h2]
    go_enter Try.func56, Try.ntmps56
    go_wp2
    go_ret
    exact ⟨rfl, rfl⟩
  · have d2 : decide ((200 : Int) < (v.size : Int)) = false := by simp; omega
    rw [if_neg h2]
    go_enter Try.func56, Try.ntmps56
    go_wp2
    go_ret
    exact ⟨rfl, rfl⟩
end Go.Proofs.Ytgjhmpmjbedjoaa
namespace Apo
open Go Go.RowKit
theorem enE_key {e : En} (h : keyE e.k ≠ 0) : enE e = keyE e.k := by unfold enE; rw [if_pos h]
theorem enE_val {e : En} (h : keyE e.k = 0) : enE e = valE e.v := by unfold enE; rw [if_neg (by simp [h])]
theorem keyE_ok {k : ByteArray} (h : keyE k = 0) : 1 ≤ k.size ∧ k.size ≤ 40 := by
  unfold keyE at h
  split at h
  · simp at h
  · omega
theorem firstE_zero {α : Type} {f : α → Int} : ∀ {l : List α}, firstE f l = 0 → ∀ x ∈ l, f x = 0
  | [], _, x, hx => by simp at hx
  | y :: l, h, x, hx => by
    unfold firstE at h
    by_cases q : f y = 0
    · rw [if_neg (by simp [q])] at h
      rcases List.mem_cons.1 hx with rfl | z
      · exact q
      · exact firstE_zero h x z
    · rw [if_pos q] at h
      exact absurd h q
end Apo
namespace Go.Proofs.Ytgjhmpmjbedjoaa
open Go.RowKit Apo
/-- what tells whether keys rise -/
def RsP (es : List En) (w : World) (e : Ending) (w' : World) : Prop := ∃ b : Bool, e = .returned (.bool b) ∧ (b = true ↔ Rise (es.map En.k)) ∧ Below w.heap.size w w'
theorem rise_getD {es : List En} {i : Nat} {e f : En} (h : Rise (es.map En.k)) (h1 : es[i]? = some e) (h2 : es[i + 1]? = some f) : sLt e.k f.k = true := by
  have hl := (List.getElem?_eq_some_iff.1 h2).1
  have := h.at (i := i) (by simpa using hl)
  simpa [List.getD_eq_getElem?_getD, h1, h2] using this
theorem rise_all {es : List En} (h : ∀ i e f, es[i]? = some e → es[i + 1]? = some f → sLt e.k f.k = true) : Rise (es.map En.k) := by
  refine rise_of (fun i hi => ?_)
  simp only [List.length_map] at hi
  have h1 : es[i]? = some (es[i]'(by omega)) := List.getElem?_eq_getElem _
  have h2 : es[i + 1]? = some (es[i + 1]'hi) := List.getElem?_eq_getElem _
  simpa [List.getD_eq_getElem?_getD, h1, h2] using h i _ _ h1 h2
open Classical in
/-- what is wrong with a map's entries -/
noncomputable def rightE (es : List En) : Int := if firstE enE es ≠ 0 then firstE enE es else if Rise (es.map En.k) then 0 else 90
theorem rightE_map {es : List En} (h : rightE es = 0) : MapOk es := by
  unfold rightE at h
  by_cases h1 : firstE enE es ≠ 0
  · rw [if_pos h1] at h; exact absurd h h1
  · rw [if_neg h1] at h
    by_cases h2 : Rise (es.map En.k)
    · have h3 : firstE enE es = 0 := by simpa using h1
      have h4 : ∀ e ∈ es, keyE e.k = 0 ∧ valE e.v = 0 := fun e he => by
        have := firstE_zero h3 e he
        by_cases q : keyE e.k = 0
        · rw [enE_val q] at this; exact ⟨q, this⟩
        · rw [enE_key q] at this; exact absurd this q
      refine ⟨h2, fun e he => keyE_ok (h4 e he).1, fun e he => ?_⟩
      have := (h4 e he).2
      unfold valE at this
      split at this
      · simp at this
      · omega
    · rw [if_neg h2] at h; simp at h
theorem take_enE {es : List En} {k : Nat} {e : En} (h : es[k]? = some e) (hp : ∀ y ∈ es.take k, enE y = 0) (hx : enE e = 0) : ∀ y ∈ es.take (k + 1), enE y = 0 := by
  intro y hy
  rw [List.take_add_one, h] at hy
  rcases List.mem_append.1 hy with q | q
  · exact hp y q
  · simp at q; rw [q]; exact hx
theorem rightE_at {es : List En} {k : Nat} {e : En} (h : es[k]? = some e) (hp : ∀ y ∈ es.take k, enE y = 0) (hx : enE e ≠ 0) : rightE es = enE e := by
  unfold rightE
  rw [firstE_at h hp hx, if_pos hx]
/-- what is told of a key: its value, or that there is none -/
def Gets (es : List En) (key : ByteArray) (v : ByteArray) (b : Bool) : Prop := (b = true ∧ ∃ e ∈ es, e.k = key ∧ e.v = v) ∨ (b = false ∧ v = ⟨#[]⟩ ∧ ∀ e ∈ es, e.k ≠ key)
def RrP (es : List En) (w : World) (e : Ending) (w' : World) : Prop := e = .returned (.int .i64 (rightE es)) ∧ Below w.heap.size w w'
def RgP (es : List En) (key : ByteArray) (w : World) (e : Ending) (w' : World) : Prop := ∃ (v : ByteArray) (b : Bool), e = .returned (.agg #[.bool b, .string v]) ∧ Gets es key v b ∧ Below w.heap.size w w'
set_option maxRecDepth 100000 in
theorem size_side : (Try.prog.info? 73).map (·.size) = some 2 := by kernel_rfl
/-- how two texts are held against each other -/
def cmpS (a b : ByteArray) : Int := Lib.compareBytes a.data.toList b.data.toList
theorem cb_lt : ∀ x y : List UInt8, (Lib.compareBytes x y < 0 ↔ Op.bytesLess x y = true) ∧ (Lib.compareBytes x y = 0 ↔ x = y) ∧ -1 ≤ Lib.compareBytes x y ∧ Lib.compareBytes x y ≤ 1
  | [], [] => by simp [Lib.compareBytes, Op.bytesLess]
  | [], _ :: _ => by simp [Lib.compareBytes, Op.bytesLess]
  | _ :: _, [] => by simp [Lib.compareBytes, Op.bytesLess]
  | a :: x, b :: y => by
    have ih := cb_lt x y
    unfold Lib.compareBytes
    by_cases h1 : a < b
    · rw [if_pos h1]
      refine ⟨by simp [Op.bytesLess, h1], ⟨fun q => by simp at q, fun q => ?_⟩, by omega, by omega⟩
      have : a = b := by injection q
      subst this
      exact absurd h1 (UInt8.lt_irrefl a)
    · rw [if_neg h1]
      by_cases h2 : b < a
      · rw [if_pos h2]
        have hne : a ≠ b := fun q => by subst q; exact UInt8.lt_irrefl a h2
        refine ⟨by simp [Op.bytesLess, h1, hne], ⟨fun q => by simp at q, fun q => ?_⟩, by omega, by omega⟩
        injection q with q
        exact absurd q hne
      · rw [if_neg h2]
        have hab : a = b := by
          rw [UInt8.not_lt] at h1 h2
          exact UInt8.le_antisymm h2 h1
        subst hab
        refine ⟨?_, ?_, ih.2.2.1, ih.2.2.2⟩
        · rw [ih.1]
          simp [Op.bytesLess]
        · rw [ih.2.1]
          simp
theorem cmpS_lt {a b : ByteArray} : cmpS a b < 0 ↔ sLt a b = true := by
  unfold cmpS sLt
  rw [ByteArray.toList_eq, ByteArray.toList_eq]
  exact (cb_lt _ _).1
theorem cmpS_eq {a b : ByteArray} : cmpS a b = 0 ↔ a = b := by
  unfold cmpS
  rw [(cb_lt _ _).2.1]
  exact ⟨fun q => ByteArray.ext (Array.ext' q), fun q => by rw [q]⟩
/-- entries whose keys rise -/
def RiseE (es : List En) : Prop := es.Pairwise (fun a b => sLt a.k b.k = true)
theorem riseE_iff {es : List En} : RiseE es ↔ Rise (es.map En.k) := by unfold RiseE Rise; rw [List.pairwise_map]
theorem gets_uniq {es : List En} {key v v' : ByteArray} {b b' : Bool} (hr : RiseE es) (h : Gets es key v b) (h' : Gets es key v' b') : v = v' ∧ b = b' := by
  rcases h with ⟨rfl, e, h1, h2, h3⟩ | ⟨rfl, rfl, h1⟩
  · rcases h' with ⟨rfl, f, k1, k2, k3⟩ | ⟨rfl, rfl, k1⟩
    · obtain ⟨i, hi, qi⟩ := List.mem_iff_getElem.1 h1
      obtain ⟨j, hj, qj⟩ := List.mem_iff_getElem.1 k1
      have hP := List.pairwise_iff_getElem.1 hr
      rcases Nat.lt_trichotomy i j with z | z | z
      · have := hP i j hi hj z
        rw [qi, qj, h2, k2, sLt_irr] at this
        cases this
      · subst z
        rw [← h3, ← k3, ← qi, ← qj]
        exact ⟨rfl, rfl⟩
      · have := hP j i hj hi z
        rw [qi, qj, h2, k2, sLt_irr] at this
        cases this
    · exact absurd h2 (k1 e h1)
  · rcases h' with ⟨rfl, f, k1, k2, k3⟩ | ⟨rfl, rfl, k1⟩
    · exact absurd k2 (h1 f k1)
    · exact ⟨rfl, rfl⟩
end Go.Proofs.Ytgjhmpmjbedjoaa
namespace Apo
open Go Go.RowKit
/-- an edit, a change -/
structure Ed where
  k : ByteArray
  v : ByteArray
  g : Bool
structure Ch where
  k : ByteArray
  had : Bool
  was : ByteArray
  has : Bool
  now : ByteArray
def cEn (e : En) : List Value := [.string e.k, .string e.v]
def cEd (e : Ed) : List Value := [.string e.k, .string e.v, .bool e.g]
def cCh (e : Ch) : List Value := [.string e.k, .bool e.had, .string e.was, .bool e.has, .string e.now]
def cTx (s : ByteArray) : List Value := [.string s]
section
variable {α : Type} (c : α → List Value) (k : Nat)
def gcells (l : List α) : List Value := l.flatMap c
def RdG (w : World) (a : Option Addr) (l : List α) : Prop :=
  ∀ i x, l[i]? = some x → ∃ g o, a = some ⟨g, o, none⟩ ∧ ∀ j u, (c x)[j]? = some u → w.cell? ⟨g, o + i * k + j, none⟩ = some u
variable {c : α → List Value} {k : Nat}
theorem gcells_app (a b : List α) : gcells c (a ++ b) = gcells c a ++ gcells c b := by simp [gcells]
theorem gcells_len (hk : ∀ x, (c x).length = k) : ∀ l : List α, (gcells c l).length = l.length * k
  | [] => by simp [gcells]
  | x :: l => by
    have := gcells_len hk l
    unfold gcells at this ⊢
    rw [List.flatMap_cons, List.length_append, this, List.length_cons, hk, Nat.succ_mul]
    omega
theorem gcells_at (hk : ∀ x, (c x).length = k) : ∀ (l : List α) {i j : Nat} {x : α} {u : Value}, l[i]? = some x → (c x)[j]? = some u → (gcells c l)[i * k + j]? = some u
  | [], _, _, _, _, h, _ => by simp at h
  | y :: l, 0, j, x, u, h, hu => by
    simp at h
    subst h
    have hj := (List.getElem?_eq_some_iff.1 hu).1
    unfold gcells
    rw [List.flatMap_cons, Nat.zero_mul, Nat.zero_add, List.getElem?_append_left hj]
    exact hu
  | y :: l, i + 1, j, x, u, h, hu => by
    have := gcells_at hk l (i := i) (by simpa using h) hu
    unfold gcells at this ⊢
    rw [List.flatMap_cons, List.getElem?_append_right (by rw [hk, Nat.succ_mul]; omega), hk, show (i + 1) * k + j - k = i * k + j by rw [Nat.succ_mul]; omega]
    exact this
theorem RdG.nil (w : World) (a : Option Addr) : RdG c k w a [] := fun i x h => by simp at h
theorem RdG.below {w w' : World} {a : Option Addr} {l : List α} (h : RdG c k w a l) (b : Below w.heap.size w w') : RdG c k w' a l := fun i e hi => by
  obtain ⟨g, o, h1, h2⟩ := h i e hi
  exact ⟨g, o, h1, fun j u hu => (b.cell (p := ⟨g, o + i * k + j, none⟩) (World.block_lt_of_cell? _ _ (h2 j u hu))).trans (h2 j u hu)⟩
theorem RdG.onl {w w' : World} {a : Option Addr} {l : List α} {O : Nat → Prop} (h : RdG c k w a l) (ho : Onl O w w') (hr : ∀ x, a = some x → ¬ O x.block) : RdG c k w' a l := fun i e hi => by
  obtain ⟨g, o, h1, h2⟩ := h i e hi
  refine ⟨g, o, h1, fun j u hu => ?_⟩
  have hc := h2 j u hu
  exact (World.cell?_of_block (ho.block g (World.block_lt_of_cell? w _ hc) (hr ⟨g, o, none⟩ h1))).trans hc
theorem RdG.news (hk : ∀ x, (c x).length = k) (hk0 : 0 < k) {w : World} {x : Addr} {l : List α} (h : RdG c k w (some x) l) : ∀ j u, (gcells c l)[j]? = some u → w.cell? (x.add j) = some u := by
  intro j u hu
  have hj := (List.getElem?_eq_some_iff.1 hu).1
  rw [gcells_len hk] at hj
  have hi : j / k < l.length := by rw [Nat.div_lt_iff_lt_mul hk0]; exact hj
  have he : l[j / k]? = some (l[j / k]'hi) := List.getElem?_eq_getElem _
  obtain ⟨g, o, h1, h2⟩ := h _ _ he
  injection h1 with h1
  subst h1
  have hm : j % k < k := Nat.mod_lt _ hk0
  have hcu : (c (l[j / k]'hi))[j % k]? = some ((c (l[j / k]'hi))[j % k]'(by rw [hk]; exact hm)) := List.getElem?_eq_getElem _
  have hat := gcells_at hk l he hcu
  have hjj : j / k * k + j % k = j := Nat.div_add_mod' j k
  rw [hjj] at hat
  rw [hat] at hu
  injection hu with hu
  have := h2 _ _ hcu
  rw [hu, Nat.add_assoc, hjj] at this
  have hadd : (⟨g, o, none⟩ : Addr).add j = ⟨g, o + j, none⟩ := by unfold Addr.add; split <;> simp_all
  rw [hadd]
  exact this
theorem rd_gcells (hk : ∀ x, (c x).length = k) {O : Nat → Prop} {W : World} {e : TypeId} {v : Value} {l : List α} (h : Row O W e k v l.length (gcells c l)) :
    ∃ a cp, v = .slice a l.length cp ∧ RdG c k W a l ∧ l.length ≤ cp ∧ cp ≤ maxLen ∧ (a = none → cp = 0) ∧ ∀ x, a = some x → ∃ g, x = ⟨g, 0, none⟩ ∧ O g := by
  obtain ⟨a, cp, hv, h1, h2, h3, h4⟩ := h.form
  refine ⟨a, cp, hv, fun i x hi => ?_, h1, h2, h3, h4⟩
  have hil := (List.getElem?_eq_some_iff.1 hi).1
  obtain ⟨g, cap, hv2, _, _, _, _, hc, _⟩ := h.shape (by omega)
  rw [hv] at hv2
  injection hv2 with e1 e2 e3
  refine ⟨g, 0, e1, fun j u hu => ?_⟩
  have hj := (List.getElem?_eq_some_iff.1 hu).1
  rw [hk] at hj
  rw [Nat.zero_add, hc (i * k + j) (by
    have : (i + 1) * k ≤ l.length * k := Nat.mul_le_mul_right k hil
    rw [Nat.succ_mul] at this
    omega)]
  exact gcells_at hk l hi hu
theorem rd_lit (t : TypeId) (W : World) (x : α) : RdG c k (W.alloc (.cells (c x).toArray t)) (some ⟨W.heap.size, 0, none⟩) [x] := by
  intro i e h
  have hi : i = 0 := by have := (List.getElem?_eq_some_iff.1 h).1; simp at this; omega
  subst hi
  simp only [List.getElem?_cons_zero, Option.some.injEq] at h
  subst h
  refine ⟨_, _, rfl, fun j u hu => ?_⟩
  have hob : Ob (W.alloc (.cells (c x).toArray t)) W.heap.size t (c x) := Ob.new W (c x) t
  have := hob.cell j
  rw [hu] at this
  simpa using this
/-- append(l, xs...) -/
theorem app_G {P : Program} (hk : ∀ x, (c x).length = k) (hk0 : 0 < k) (h1 : ∀ x, ∀ u ∈ c x, u.oneCell' = true) {t e : TypeId} {z : Value} {by' : Nat} (hu : P.underlying t = some (.slice e)) (hi : (P.info? e).map (fun i => (i.zero, i.size, i.bytes)) = some (some z, k, by')) (hz : z.cells.size = k) (hby : by' ≤ 1000)
    {O : Nat → Prop} {W : World} {v : Value} {l xs : List α} (h : Row O W e k v l.length (gcells c l)) (hn : l.length + xs.length ≤ 100000000) {y : Addr} {cp : Nat} (hr : RdG c k W (some y) xs) :
    ∃ v' w', (Builtin.append_ #[t, t] t #[v, .slice (some y) xs.length cp]).run P W = .ok v' w' ∧ Row (fun g => O g ∨ g = W.heap.size) w' e k v' (l ++ xs).length (gcells c (l ++ xs)) ∧ Onl (fun g => v.ownBlock = some g) W w' ∧ ∀ g, v'.ownBlock = some g → v.ownBlock = some g ∨ g = W.heap.size := by
  obtain ⟨i0, hi, hz0, hz1, hz2⟩ := info_parts hi
  obtain ⟨v5, w5, RR, r5, g5, _, ho5⟩ := run_append_own_at (P := P) W 0 t t e i0 _ k by' hu hi hz0 hz1 hz2 hz hk0 v l.length (gcells c l) h.1 y xs.length cp (gcells c xs) (gcells_len hk xs) (RdG.news hk hk0 hr) (by intro u hu; simp only [gcells, List.mem_flatMap] at hu; obtain ⟨x, _, hu⟩ := hu; exact h1 x u hu) (by unfold maxLen; omega) (by
    have : (l.length + xs.length) * by' ≤ 100000000 * 1000 := Nat.mul_le_mul hn hby
    omega) (Nat.zero_le _)
  refine ⟨v5, w5, RR, ⟨?_, fun g hg => ?_⟩, (Onl.refl _ W).grown g5 (fun k hk => .inl hk), fun g hg => ?_⟩
  · rw [List.length_append, gcells_app]
    exact r5
  · rcases ho5 with q | q
    · rw [q] at hg; exact .inl (h.2 g hg)
    · rw [q] at hg; cases hg; exact .inr rfl
  · rcases ho5 with q | q
    · rw [q] at hg; exact .inl hg
    · rw [q] at hg; cases hg; exact .inr rfl
end
theorem cEn_len (x : En) : (cEn x).length = 2 := rfl
theorem cEd_len (x : Ed) : (cEd x).length = 3 := rfl
theorem cCh_len (x : Ch) : (cCh x).length = 5 := rfl
theorem cTx_len (x : ByteArray) : (cTx x).length = 1 := rfl
theorem cEn_one (x : En) : ∀ u ∈ cEn x, u.oneCell' = true := by simp [cEn, Value.oneCell']
theorem cEd_one (x : Ed) : ∀ u ∈ cEd x, u.oneCell' = true := by simp [cEd, Value.oneCell']
theorem cCh_one (x : Ch) : ∀ u ∈ cCh x, u.oneCell' = true := by simp [cCh, Value.oneCell']
theorem cTx_one (x : ByteArray) : ∀ u ∈ cTx x, u.oneCell' = true := by simp [cTx, Value.oneCell']
theorem RdG.en {w : World} {a : Option Addr} {l : List En} : RdG cEn 2 w a l ↔ RdEn w a l := by
  constructor
  · intro h i e hi
    obtain ⟨g, o, h1, h2⟩ := h i e hi
    exact ⟨g, o, h1, h2 0 _ rfl, h2 1 _ rfl⟩
  · intro h i e hi
    obtain ⟨g, o, h1, h2, h3⟩ := h i e hi
    refine ⟨g, o, h1, fun j u hu => ?_⟩
    match j with
    | 0 => simp [cEn] at hu; rw [← hu]; exact h2
    | 1 => simp [cEn] at hu; rw [← hu]; exact h3
    | j + 2 => simp [cEn] at hu
theorem RdG.ed {w : World} {a : Option Addr} {l : List Ed} (h : RdG cEd 3 w a l) {i : Nat} {x : Ed} (hi : l[i]? = some x) : ∃ g o, a = some ⟨g, o, none⟩ ∧ w.cell? ⟨g, o + i * 3, none⟩ = some (.string x.k) ∧ w.cell? ⟨g, o + i * 3 + 1, none⟩ = some (.string x.v) ∧ w.cell? ⟨g, o + i * 3 + 2, none⟩ = some (.bool x.g) := by
  obtain ⟨g, o, h1, h2⟩ := h i x hi
  exact ⟨g, o, h1, h2 0 _ rfl, h2 1 _ rfl, h2 2 _ rfl⟩
theorem RdG.ch {w : World} {a : Option Addr} {l : List Ch} (h : RdG cCh 5 w a l) {i : Nat} {x : Ch} (hi : l[i]? = some x) : ∃ g o, a = some ⟨g, o, none⟩ ∧ w.cell? ⟨g, o + i * 5, none⟩ = some (.string x.k) ∧ w.cell? ⟨g, o + i * 5 + 1, none⟩ = some (.bool x.had) ∧ w.cell? ⟨g, o + i * 5 + 2, none⟩ = some (.string x.was) ∧ w.cell? ⟨g, o + i * 5 + 3, none⟩ = some (.bool x.has) ∧ w.cell? ⟨g, o + i * 5 + 4, none⟩ = some (.string x.now) := by
  obtain ⟨g, o, h1, h2⟩ := h i x hi
  exact ⟨g, o, h1, h2 0 _ rfl, h2 1 _ rfl, h2 2 _ rfl, h2 3 _ rfl, h2 4 _ rfl⟩
theorem RdG.tx {w : World} {a : Option Addr} {l : List ByteArray} (h : RdG cTx 1 w a l) {i : Nat} {x : ByteArray} (hi : l[i]? = some x) : ∃ g o, a = some ⟨g, o, none⟩ ∧ w.cell? ⟨g, o + i, none⟩ = some (.string x) := by
  obtain ⟨g, o, h1, h2⟩ := h i x hi
  exact ⟨g, o, h1, by simpa using h2 0 _ rfl⟩
end Apo
namespace Go.Proofs.Ytgjhmpmjbedjoaa
open Go.RowKit Apo
set_option maxRecDepth 100000 in
theorem info_tx : (Try.prog.info? 9).map (fun i => (i.zero, i.size, i.bytes)) = some (some (.string ByteArray.empty), 1, 16) := by kernel_rfl
section
variable {O : Nat → Prop} {W : World} {v : Value} {y : Addr} {cp : Nat}
end
end Go.Proofs.Ytgjhmpmjbedjoaa
