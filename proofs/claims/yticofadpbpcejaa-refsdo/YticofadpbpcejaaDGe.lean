/- Rows of things of some cells each, in general; edits and changes. -/
import Derived.Test.YticofadpbpcejaaDBa
import Derived.Maps.AppendAt
namespace Apo
open Go Go.RowKit
/-- an edit, a change -/
structure Ed where
  k : ByteArray
  v : ByteArray
  g : Bool
structure Ch where
  k : ByteArray
  had : Bool
  was : ByteArray
  has : Bool
  now : ByteArray
def cEn (e : En) : List Value := [.string e.k, .string e.v]
def cEd (e : Ed) : List Value := [.string e.k, .string e.v, .bool e.g]
def cCh (e : Ch) : List Value := [.string e.k, .bool e.had, .string e.was, .bool e.has, .string e.now]
def cTx (s : ByteArray) : List Value := [.string s]
section
variable {α : Type} (c : α → List Value) (k : Nat)
def gcells (l : List α) : List Value := l.flatMap c
def RdG (w : World) (a : Option Addr) (l : List α) : Prop :=
  ∀ i x, l[i]? = some x → ∃ g o, a = some ⟨g, o, none⟩ ∧ ∀ j u, (c x)[j]? = some u → w.cell? ⟨g, o + i * k + j, none⟩ = some u
variable {c : α → List Value} {k : Nat}
theorem gcells_app (a b : List α) : gcells c (a ++ b) = gcells c a ++ gcells c b := by simp [gcells]
theorem gcells_len (hk : ∀ x, (c x).length = k) : ∀ l : List α, (gcells c l).length = l.length * k
  | [] => by simp [gcells]
  | x :: l => by
    have := gcells_len hk l
    unfold gcells at this ⊢
    rw [List.flatMap_cons, List.length_append, this, List.length_cons, hk, Nat.succ_mul]
    omega
theorem gcells_at (hk : ∀ x, (c x).length = k) : ∀ (l : List α) {i j : Nat} {x : α} {u : Value}, l[i]? = some x → (c x)[j]? = some u → (gcells c l)[i * k + j]? = some u
  | [], _, _, _, _, h, _ => by simp at h
  | y :: l, 0, j, x, u, h, hu => by
    simp at h
    subst h
    have hj := (List.getElem?_eq_some_iff.1 hu).1
    unfold gcells
    rw [List.flatMap_cons, Nat.zero_mul, Nat.zero_add, List.getElem?_append_left hj]
    exact hu
  | y :: l, i + 1, j, x, u, h, hu => by
    have := gcells_at hk l (i := i) (by simpa using h) hu
    unfold gcells at this ⊢
    rw [List.flatMap_cons, List.getElem?_append_right (by rw [hk, Nat.succ_mul]; omega), hk, show (i + 1) * k + j - k = i * k + j by rw [Nat.succ_mul]; omega]
    exact this
theorem RdG.nil (w : World) (a : Option Addr) : RdG c k w a [] := fun i x h => by simp at h
theorem RdG.below {w w' : World} {a : Option Addr} {l : List α} (h : RdG c k w a l) (b : Below w.heap.size w w') : RdG c k w' a l := fun i e hi => by
  obtain ⟨g, o, h1, h2⟩ := h i e hi
  exact ⟨g, o, h1, fun j u hu => (b.cell (p := ⟨g, o + i * k + j, none⟩) (World.block_lt_of_cell? _ _ (h2 j u hu))).trans (h2 j u hu)⟩
theorem RdG.onl {w w' : World} {a : Option Addr} {l : List α} {O : Nat → Prop} (h : RdG c k w a l) (ho : Onl O w w') (hr : ∀ x, a = some x → ¬ O x.block) : RdG c k w' a l := fun i e hi => by
  obtain ⟨g, o, h1, h2⟩ := h i e hi
  refine ⟨g, o, h1, fun j u hu => ?_⟩
  have hc := h2 j u hu
  exact (World.cell?_of_block (ho.block g (World.block_lt_of_cell? w _ hc) (hr ⟨g, o, none⟩ h1))).trans hc
theorem RdG.news (hk : ∀ x, (c x).length = k) (hk0 : 0 < k) {w : World} {x : Addr} {l : List α} (h : RdG c k w (some x) l) : ∀ j u, (gcells c l)[j]? = some u → w.cell? (x.add j) = some u := by
  intro j u hu
  have hj := (List.getElem?_eq_some_iff.1 hu).1
  rw [gcells_len hk] at hj
  have hi : j / k < l.length := by rw [Nat.div_lt_iff_lt_mul hk0]; exact hj
  have he : l[j / k]? = some (l[j / k]'hi) := List.getElem?_eq_getElem _
  obtain ⟨g, o, h1, h2⟩ := h _ _ he
  injection h1 with h1
  subst h1
  have hm : j % k < k := Nat.mod_lt _ hk0
  have hcu : (c (l[j / k]'hi))[j % k]? = some ((c (l[j / k]'hi))[j % k]'(by rw [hk]; exact hm)) := List.getElem?_eq_getElem _
  have hat := gcells_at hk l he hcu
  have hjj : j / k * k + j % k = j := Nat.div_add_mod' j k
  rw [hjj] at hat
  rw [hat] at hu
  injection hu with hu
  have := h2 _ _ hcu
  rw [hu, Nat.add_assoc, hjj] at this
  have hadd : (⟨g, o, none⟩ : Addr).add j = ⟨g, o + j, none⟩ := by unfold Addr.add; split <;> simp_all
  rw [hadd]
  exact this
theorem rd_gcells (hk : ∀ x, (c x).length = k) {O : Nat → Prop} {W : World} {e : TypeId} {v : Value} {l : List α} (h : Row O W e k v l.length (gcells c l)) :
    ∃ a cp, v = .slice a l.length cp ∧ RdG c k W a l ∧ l.length ≤ cp ∧ cp ≤ maxLen ∧ (a = none → cp = 0) ∧ ∀ x, a = some x → ∃ g, x = ⟨g, 0, none⟩ ∧ O g := by
  obtain ⟨a, cp, hv, h1, h2, h3, h4⟩ := h.form
  refine ⟨a, cp, hv, fun i x hi => ?_, h1, h2, h3, h4⟩
  have hil := (List.getElem?_eq_some_iff.1 hi).1
  obtain ⟨g, cap, hv2, _, _, _, _, hc, _⟩ := h.shape (by omega)
  rw [hv] at hv2
  injection hv2 with e1 e2 e3
  refine ⟨g, 0, e1, fun j u hu => ?_⟩
  have hj := (List.getElem?_eq_some_iff.1 hu).1
  rw [hk] at hj
  rw [Nat.zero_add, hc (i * k + j) (by
    have : (i + 1) * k ≤ l.length * k := Nat.mul_le_mul_right k hil
    rw [Nat.succ_mul] at this
    omega)]
  exact gcells_at hk l hi hu
theorem rd_lit (t : TypeId) (W : World) (x : α) : RdG c k (W.alloc (.cells (c x).toArray t)) (some ⟨W.heap.size, 0, none⟩) [x] := by
  intro i e h
  have hi : i = 0 := by have := (List.getElem?_eq_some_iff.1 h).1; simp at this; omega
  subst hi
  simp only [List.getElem?_cons_zero, Option.some.injEq] at h
  subst h
  refine ⟨_, _, rfl, fun j u hu => ?_⟩
  have hob : Ob (W.alloc (.cells (c x).toArray t)) W.heap.size t (c x) := Ob.new W (c x) t
  have := hob.cell j
  rw [hu] at this
  simpa using this
/-- append(l, xs...) -/
theorem app_G {P : Program} (hk : ∀ x, (c x).length = k) (hk0 : 0 < k) (h1 : ∀ x, ∀ u ∈ c x, u.oneCell' = true) {t e : TypeId} {z : Value} {by' : Nat} (hu : P.underlying t = some (.slice e)) (hi : (P.info? e).map (fun i => (i.zero, i.size, i.bytes)) = some (some z, k, by')) (hz : z.cells.size = k) (hby : by' ≤ 1000)
    {O : Nat → Prop} {W : World} {v : Value} {l xs : List α} (h : Row O W e k v l.length (gcells c l)) (hn : l.length + xs.length ≤ 100000000) {y : Addr} {cp : Nat} (hr : RdG c k W (some y) xs) :
    ∃ v' w', (Builtin.append_ #[t, t] t #[v, .slice (some y) xs.length cp]).run P W = .ok v' w' ∧ Row (fun g => O g ∨ g = W.heap.size) w' e k v' (l ++ xs).length (gcells c (l ++ xs)) ∧ Onl (fun g => v.ownBlock = some g) W w' ∧ ∀ g, v'.ownBlock = some g → v.ownBlock = some g ∨ g = W.heap.size := by
  obtain ⟨i0, hi, hz0, hz1, hz2⟩ := info_parts hi
  obtain ⟨v5, w5, RR, r5, g5, _, ho5⟩ := run_append_own_at (P := P) W 0 t t e i0 _ k by' hu hi hz0 hz1 hz2 hz hk0 v l.length (gcells c l) h.1 y xs.length cp (gcells c xs) (gcells_len hk xs) (RdG.news hk hk0 hr) (by intro u hu; simp only [gcells, List.mem_flatMap] at hu; obtain ⟨x, _, hu⟩ := hu; exact h1 x u hu) (by unfold maxLen; omega) (by
    have : (l.length + xs.length) * by' ≤ 100000000 * 1000 := Nat.mul_le_mul hn hby
    omega) (Nat.zero_le _)
  refine ⟨v5, w5, RR, ⟨?_, fun g hg => ?_⟩, (Onl.refl _ W).grown g5 (fun k hk => .inl hk), fun g hg => ?_⟩
  · rw [List.length_append, gcells_app]
    exact r5
  · rcases ho5 with q | q
    · rw [q] at hg; exact .inl (h.2 g hg)
    · rw [q] at hg; cases hg; exact .inr rfl
  · rcases ho5 with q | q
    · rw [q] at hg; exact .inl hg
    · rw [q] at hg; cases hg; exact .inr rfl
end
theorem cEn_len (x : En) : (cEn x).length = 2 := rfl
theorem cEd_len (x : Ed) : (cEd x).length = 3 := rfl
theorem cCh_len (x : Ch) : (cCh x).length = 5 := rfl
theorem cTx_len (x : ByteArray) : (cTx x).length = 1 := rfl
theorem cEn_one (x : En) : ∀ u ∈ cEn x, u.oneCell' = true := by simp [cEn, Value.oneCell']
theorem cEd_one (x : Ed) : ∀ u ∈ cEd x, u.oneCell' = true := by simp [cEd, Value.oneCell']
theorem cCh_one (x : Ch) : ∀ u ∈ cCh x, u.oneCell' = true := by simp [cCh, Value.oneCell']
theorem cTx_one (x : ByteArray) : ∀ u ∈ cTx x, u.oneCell' = true := by simp [cTx, Value.oneCell']
theorem RdG.en {w : World} {a : Option Addr} {l : List En} : RdG cEn 2 w a l ↔ RdEn w a l := by
  constructor
  · intro h i e hi
    obtain ⟨g, o, h1, h2⟩ := h i e hi
    exact ⟨g, o, h1, h2 0 _ rfl, h2 1 _ rfl⟩
  · intro h i e hi
    obtain ⟨g, o, h1, h2, h3⟩ := h i e hi
    refine ⟨g, o, h1, fun j u hu => ?_⟩
    match j with
    | 0 => simp [cEn] at hu; rw [← hu]; exact h2
    | 1 => simp [cEn] at hu; rw [← hu]; exact h3
    | j + 2 => simp [cEn] at hu
theorem RdG.ed {w : World} {a : Option Addr} {l : List Ed} (h : RdG cEd 3 w a l) {i : Nat} {x : Ed} (hi : l[i]? = some x) : ∃ g o, a = some ⟨g, o, none⟩ ∧ w.cell? ⟨g, o + i * 3, none⟩ = some (.string x.k) ∧ w.cell? ⟨g, o + i * 3 + 1, none⟩ = some (.string x.v) ∧ w.cell? ⟨g, o + i * 3 + 2, none⟩ = some (.bool x.g) := by
  obtain ⟨g, o, h1, h2⟩ := h i x hi
  exact ⟨g, o, h1, h2 0 _ rfl, h2 1 _ rfl, h2 2 _ rfl⟩
theorem RdG.ch {w : World} {a : Option Addr} {l : List Ch} (h : RdG cCh 5 w a l) {i : Nat} {x : Ch} (hi : l[i]? = some x) : ∃ g o, a = some ⟨g, o, none⟩ ∧ w.cell? ⟨g, o + i * 5, none⟩ = some (.string x.k) ∧ w.cell? ⟨g, o + i * 5 + 1, none⟩ = some (.bool x.had) ∧ w.cell? ⟨g, o + i * 5 + 2, none⟩ = some (.string x.was) ∧ w.cell? ⟨g, o + i * 5 + 3, none⟩ = some (.bool x.has) ∧ w.cell? ⟨g, o + i * 5 + 4, none⟩ = some (.string x.now) := by
  obtain ⟨g, o, h1, h2⟩ := h i x hi
  exact ⟨g, o, h1, h2 0 _ rfl, h2 1 _ rfl, h2 2 _ rfl, h2 3 _ rfl, h2 4 _ rfl⟩
theorem RdG.tx {w : World} {a : Option Addr} {l : List ByteArray} (h : RdG cTx 1 w a l) {i : Nat} {x : ByteArray} (hi : l[i]? = some x) : ∃ g o, a = some ⟨g, o, none⟩ ∧ w.cell? ⟨g, o + i, none⟩ = some (.string x) := by
  obtain ⟨g, o, h1, h2⟩ := h i x hi
  exact ⟨g, o, h1, by simpa using h2 0 _ rfl⟩
end Apo
namespace Go.Proofs.Yticofadpbpcejaa
open Go.RowKit Apo
set_option maxRecDepth 100000 in
theorem info_tx : (Try.prog.info? 9).map (fun i => (i.zero, i.size, i.bytes)) = some (some (.string ByteArray.empty), 1, 16) := by kernel_rfl
section
variable {O : Nat → Prop} {W : World} {v : Value} {y : Addr} {cp : Nat}
set_option maxRecDepth 100000 in
theorem app_tx {l xs : List ByteArray} (h : Row O W 9 1 v l.length (gcells cTx l)) (hn : l.length + xs.length ≤ 100000000) (hr : RdG cTx 1 W (some y) xs) :
    ∃ v' w', (Builtin.append_ #[62, 62] 62 #[v, .slice (some y) xs.length cp]).run Try.prog W = .ok v' w' ∧ Row (fun g => O g ∨ g = W.heap.size) w' 9 1 v' (l ++ xs).length (gcells cTx (l ++ xs)) ∧ Onl (fun g => v.ownBlock = some g) W w' ∧ ∀ g, v'.ownBlock = some g → v.ownBlock = some g ∨ g = W.heap.size :=
  app_G cTx_len (by decide) cTx_one Try.underlying62 info_tx rfl (by decide) h hn hr
end
end Go.Proofs.Yticofadpbpcejaa
