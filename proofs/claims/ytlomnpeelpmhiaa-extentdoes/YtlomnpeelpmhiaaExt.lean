/- Which pages are free, as it is meant. No Go text is named here. -/
import Derived.Test.YtlomnpeelpmhiaaRd
namespace Apo
open Go

/-- all the k bools from a on are b -/
def allb (L : List Bool) (a k : Nat) (b : Bool) : Bool := ((L.drop a).take k).all (· == b)
theorem allb_zero (L : List Bool) (a : Nat) (b : Bool) : allb L a 0 b = true := by simp [allb]
theorem allb_snoc {L : List Bool} {a k : Nat} {c : Bool} (h : L[a + k]? = some c) (b : Bool) : allb L a (k + 1) b = (allb L a k b && (c == b)) := by
  unfold allb
  rw [List.take_add_one, List.getElem?_drop, h]
  simp
theorem allb_less {L : List Bool} {a k : Nat} {b : Bool} (h : allb L a k b = false) {m : Nat} (hm : k ≤ m) : allb L a m b = false := by
  by_cases hh : allb L a m b = true
  · unfold allb at h hh
    rw [List.all_eq_true] at hh
    have : ((L.drop a).take k).all (· == b) = true := by
      rw [List.all_eq_true]
      intro x hx
      refine hh x ?_
      have e : (L.drop a).take k = ((L.drop a).take m).take k := by rw [List.take_take, Nat.min_eq_left hm]
      rw [e] at hx
      exact List.mem_of_mem_take hx
    rw [this] at h
    cases h
  · simpa using hh
theorem allb_iff {L : List Bool} {a k : Nat} {b : Bool} (h : a + k ≤ L.length) : allb L a k b = true ↔ ∀ i, a ≤ i → i < a + k → L[i]? = some b := by
  induction k with
  | zero =>
    rw [allb_zero]
    exact ⟨fun _ i h1 h2 => by omega, fun _ => rfl⟩
  | succ k ih =>
    have hk : L[a + k]? = some L[a + k] := List.getElem?_eq_getElem (by omega)
    rw [allb_snoc hk, Bool.and_eq_true, ih (by omega)]
    constructor
    · rintro ⟨h1, h2⟩ i hi hj
      by_cases e : i = a + k
      · subst e; rw [hk]; simpa using h2
      · exact h1 i hi (by omega)
    · intro h1
      refine ⟨fun i hi hj => h1 i hi (by omega), ?_⟩
      have := h1 (a + k) (by omega) (by omega)
      rw [hk] at this
      simpa using this

/-- the k bools from a on, set to b -/
def setR (L : List Bool) (a : Nat) (b : Bool) : Nat → List Bool
  | 0 => L
  | k + 1 => (setR L a b k).set (a + k) b
theorem setR_len (L : List Bool) (a : Nat) (b : Bool) : ∀ k, (setR L a b k).length = L.length
  | 0 => rfl
  | k + 1 => by simp [setR, setR_len L a b k]
theorem setR_at (L : List Bool) (a : Nat) (b : Bool) : ∀ k i, (setR L a b k)[i]? = if a ≤ i ∧ i < a + k ∧ i < L.length then some b else L[i]?
  | 0, i => by rw [if_neg (by omega)]; rfl
  | k + 1, i => by
    rw [setR, List.getElem?_set, setR_at L a b k i, setR_len]
    by_cases e : a + k = i
    · subst e
      by_cases hl : a + k < L.length
      · rw [if_pos rfl, if_pos hl, if_pos ⟨by omega, by omega, hl⟩]
      · rw [if_pos rfl, if_neg hl, if_neg (by omega), List.getElem?_eq_none (by omega)]
    · rw [if_neg e]
      by_cases hh : a ≤ i ∧ i < a + k ∧ i < L.length
      · rw [if_pos hh, if_pos ⟨hh.1, by omega, hh.2.2⟩]
      · rw [if_neg hh, if_neg (by omega)]

/-- the row that was told last has a page more -/
def bump : List (Nat × Nat) → List (Nat × Nat)
  | [] => []
  | [x] => [(x.1, x.2 + 1)]
  | x :: y :: l => x :: bump (y :: l)
theorem bump_snoc (R : List (Nat × Nat)) (a k : Nat) : bump (R ++ [(a, k)]) = R ++ [(a, k + 1)] := by
  induction R with
  | nil => rfl
  | cons x R ih =>
    cases R with
    | nil => rfl
    | cons y R => simp only [List.cons_append, bump] at ih ⊢; rw [ih]
/-- the rows of the first n pages -/
def spansTo (L : List Bool) : Nat → List (Nat × Nat)
  | 0 => []
  | i + 1 => if L.getD i false = false then spansTo L i else if 0 < i ∧ L.getD (i - 1) false = true then bump (spansTo L i) else spansTo L i ++ [(i, 1)]
/-- rising rows, none next to another one -/
def Can (R : List (Nat × Nat)) : Prop := R.Pairwise (fun x y => x.1 + x.2 < y.1) ∧ ∀ x ∈ R, 1 ≤ x.2
def cov (R : List (Nat × Nat)) (i : Nat) : Prop := ∃ x ∈ R, x.1 ≤ i ∧ i < x.1 + x.2
theorem Can.tail {x : Nat × Nat} {R : List (Nat × Nat)} (h : Can (x :: R)) : Can R := ⟨(List.pairwise_cons.1 h.1).2, fun y hy => h.2 y (by simp [hy])⟩
theorem Can.head {x : Nat × Nat} {R : List (Nat × Nat)} (h : Can (x :: R)) : ∀ y ∈ R, x.1 + x.2 < y.1 := (List.pairwise_cons.1 h.1).1
/-- rows are told by their pages -/
theorem can_unique : ∀ {R R' : List (Nat × Nat)}, Can R → Can R' → (∀ i, cov R i ↔ cov R' i) → R = R'
  | [], [], _, _, _ => rfl
  | [], x :: R', _, h', hc => by
    obtain ⟨y, hy, _⟩ := (hc x.1).2 ⟨x, by simp, Nat.le_refl _, by have := h'.2 x (by simp); omega⟩
    cases hy
  | x :: R, [], h, _, hc => by
    obtain ⟨y, hy, _⟩ := (hc x.1).1 ⟨x, by simp, Nat.le_refl _, by have := h.2 x (by simp); omega⟩
    cases hy
  | x :: R, y :: R', h, h', hc => by
    have hx := h.2 x (by simp)
    have hy := h'.2 y (by simp)
    have lo : ∀ {x : Nat × Nat} {R : List (Nat × Nat)}, Can (x :: R) → ∀ i, cov (x :: R) i → x.1 ≤ i := by
      intro x R h i hi
      obtain ⟨z, hz, h1, _⟩ := hi
      rcases List.mem_cons.1 hz with rfl | hz
      · exact h1
      · have := h.head z hz; omega
    have e1 : x.1 = y.1 := by
      have a := lo h' x.1 ((hc x.1).1 ⟨x, by simp, Nat.le_refl _, by omega⟩)
      have b := lo h y.1 ((hc y.1).2 ⟨y, by simp, Nat.le_refl _, by omega⟩)
      omega
    have gap : ∀ {x : Nat × Nat} {R : List (Nat × Nat)}, Can (x :: R) → ¬ cov (x :: R) (x.1 + x.2) := by
      intro x R h hi
      obtain ⟨z, hz, h1, h2⟩ := hi
      rcases List.mem_cons.1 hz with rfl | hz
      · omega
      · have := h.head z hz; omega
    have e2 : x.2 = y.2 := by
      rcases Nat.lt_trichotomy x.2 y.2 with hl | hl | hl
      · exact absurd ((hc _).2 ⟨y, by simp, by omega, by omega⟩) (gap h)
      · exact hl
      · exact absurd ((hc _).1 ⟨x, by simp, by omega, by omega⟩) (gap h')
    have e : x = y := Prod.ext e1 e2
    subst e
    have : R = R' := by
      refine can_unique h.tail h'.tail (fun i => ?_)
      constructor
      · rintro ⟨z, hz, h1, h2⟩
        obtain ⟨u, hu, h3, h4⟩ := (hc i).1 ⟨z, by simp [hz], h1, h2⟩
        rcases List.mem_cons.1 hu with rfl | hu
        · have := h.head z hz; omega
        · exact ⟨u, hu, h3, h4⟩
      · rintro ⟨z, hz, h1, h2⟩
        obtain ⟨u, hu, h3, h4⟩ := (hc i).2 ⟨z, by simp [hz], h1, h2⟩
        rcases List.mem_cons.1 hu with rfl | hu
        · have := h'.head z hz; omega
        · exact ⟨u, hu, h3, h4⟩
    rw [this]
theorem spans_all (L : List Bool) : ∀ n, Can (spansTo L n) ∧ (∀ i, cov (spansTo L n) i ↔ (i < n ∧ L.getD i false = true)) ∧ (∀ x ∈ spansTo L n, x.1 + x.2 ≤ n) ∧
    (0 < n → L.getD (n - 1) false = true → ∃ R a k, spansTo L n = R ++ [(a, k)] ∧ a + k = n) ∧ (n = 0 ∨ L.getD (n - 1) false = false → ∀ x ∈ spansTo L n, x.1 + x.2 < n)
  | 0 => ⟨⟨List.Pairwise.nil, by simp [spansTo]⟩, fun i => ⟨fun h => by obtain ⟨x, hx, _⟩ := h; simp [spansTo] at hx, fun h => by omega⟩, by simp [spansTo], fun h => by omega, by simp [spansTo]⟩
  | n + 1 => by
    obtain ⟨hc, hv, he, hl, hg⟩ := spans_all L n
    by_cases h0 : L.getD n false = false
    · have e : spansTo L (n + 1) = spansTo L n := by rw [spansTo, if_pos h0]
      rw [e]
      refine ⟨hc, fun i => ?_, fun x hx => by have := he x hx; omega, fun _ h => ?_, fun _ x hx => by have := he x hx; omega⟩
      · rw [hv i]
        constructor
        · rintro ⟨h1, h2⟩; exact ⟨by omega, h2⟩
        · rintro ⟨h1, h2⟩
          refine ⟨?_, h2⟩
          rcases Nat.lt_or_ge i n with h | h
          · exact h
          · rw [show i = n by omega, h0] at h2; cases h2
      · rw [show n + 1 - 1 = n by omega, h0] at h; cases h
    · have h1 : L.getD n false = true := by simpa using h0
      by_cases hb : 0 < n ∧ L.getD (n - 1) false = true
      · obtain ⟨R, a, k, hR, hk⟩ := hl hb.1 hb.2
        have e : spansTo L (n + 1) = R ++ [(a, k + 1)] := by rw [spansTo, if_neg h0, if_pos hb, hR, bump_snoc]
        rw [hR] at hc hv he
        rw [e]
        refine ⟨⟨?_, ?_⟩, fun i => ?_, ?_, fun _ _ => ⟨R, a, k + 1, rfl, by omega⟩, fun h => ?_⟩
        · have := hc.1
          rw [List.pairwise_append] at this ⊢
          refine ⟨this.1, List.pairwise_singleton _ _, fun x hx y hy => ?_⟩
          rw [List.mem_singleton] at hy
          subst hy
          exact this.2.2 x hx (a, k) (by simp)
        · intro x hx
          rcases List.mem_append.1 hx with hx | hx
          · exact hc.2 x (by simp [hx])
          · rw [List.mem_singleton] at hx; subst hx; simp
        · constructor
          · rintro ⟨x, hx, h2, h3⟩
            rcases List.mem_append.1 hx with hx | hx
            · have := (hv i).1 ⟨x, by simp [hx], h2, h3⟩
              exact ⟨by omega, this.2⟩
            · rw [List.mem_singleton] at hx
              subst hx
              simp only at h2 h3
              by_cases ei : i = n
              · subst ei; exact ⟨by omega, h1⟩
              · have := (hv i).1 ⟨(a, k), by simp, h2, by simp only; omega⟩
                exact ⟨by omega, this.2⟩
          · rintro ⟨h2, h3⟩
            by_cases ei : i = n
            · subst ei
              exact ⟨(a, k + 1), by simp, by simp only; omega, by simp only; omega⟩
            · obtain ⟨x, hx, h4, h5⟩ := (hv i).2 ⟨by omega, h3⟩
              rcases List.mem_append.1 hx with hx | hx
              · exact ⟨x, by simp [hx], h4, h5⟩
              · rw [List.mem_singleton] at hx
                subst hx
                exact ⟨(a, k + 1), by simp, h4, by simp only at h5 ⊢; omega⟩
        · intro x hx
          rcases List.mem_append.1 hx with hx | hx
          · have := he x (by simp [hx]); omega
          · rw [List.mem_singleton] at hx; subst hx; simp only; omega
        · rcases h with h | h
          · omega
          · rw [show n + 1 - 1 = n by omega, h1] at h; cases h
      · have e : spansTo L (n + 1) = spansTo L n ++ [(n, 1)] := by rw [spansTo, if_neg h0, if_neg hb]
        have hg' : ∀ x ∈ spansTo L n, x.1 + x.2 < n := hg (by
          rcases Nat.eq_zero_or_pos n with h | h
          · exact .inl h
          · right
            cases hq : L.getD (n - 1) false
            · rfl
            · exact absurd ⟨h, hq⟩ hb)
        rw [e]
        refine ⟨⟨?_, ?_⟩, fun i => ?_, ?_, fun _ _ => ⟨spansTo L n, n, 1, rfl, rfl⟩, fun h => ?_⟩
        · rw [List.pairwise_append]
          refine ⟨hc.1, List.pairwise_singleton _ _, fun x hx y hy => ?_⟩
          rw [List.mem_singleton] at hy
          subst hy
          exact hg' x hx
        · intro x hx
          rcases List.mem_append.1 hx with hx | hx
          · exact hc.2 x hx
          · rw [List.mem_singleton] at hx; subst hx; simp
        · constructor
          · rintro ⟨x, hx, h2, h3⟩
            rcases List.mem_append.1 hx with hx | hx
            · have := (hv i).1 ⟨x, hx, h2, h3⟩
              exact ⟨by omega, this.2⟩
            · rw [List.mem_singleton] at hx
              subst hx
              simp only at h2 h3
              have : i = n := by omega
              subst this
              exact ⟨by omega, h1⟩
          · rintro ⟨h2, h3⟩
            by_cases ei : i = n
            · subst ei; exact ⟨(i, 1), by simp, by simp, by simp⟩
            · obtain ⟨x, hx, h4, h5⟩ := (hv i).2 ⟨by omega, h3⟩
              exact ⟨x, by simp [hx], h4, h5⟩
        · intro x hx
          rcases List.mem_append.1 hx with hx | hx
          · have := he x hx; omega
          · rw [List.mem_singleton] at hx; subst hx; simp
        · rcases h with h | h
          · omega
          · rw [show n + 1 - 1 = n by omega, h1] at h; cases h
end Apo
