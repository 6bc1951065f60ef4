/- Rows of free pages, cut and joined, as they are meant. No Go text is named here. -/
import Derived.Test.YtlomnpeelpmhiaaFre
namespace Apo
open Go

/-- the row has the span whole -/
def wnb (s : Spn) (x : Nat × Nat) : Bool := decide (1 ≤ s.k) && (decide ((x.1 : Int) ≤ s.a) && decide (s.k ≤ (x.2 : Int) - (s.a - x.1)))
def mtb (s : Spn) (x : Nat × Nat) : Bool := decide (s.a < (x.1 : Int) + x.2) && decide ((x.1 : Int) < s.a + s.k)
def ftb (n : Int) (x : Nat × Nat) : Bool := decide (1 ≤ n) && decide (n ≤ (x.2 : Int))
def ahb (s : Spn) (x : Nat × Nat) : Bool := decide (s.a < (x.1 : Int))
theorem wnb_iff {s : Spn} {x : Nat × Nat} : wnb s x = true ↔ (1 ≤ s.k ∧ (x.1 : Int) ≤ s.a ∧ s.a + s.k ≤ x.1 + x.2) := by
  unfold wnb
  simp only [Bool.and_eq_true, decide_eq_true_eq]
  omega
theorem mtb_iff {s : Spn} {x : Nat × Nat} : mtb s x = true ↔ (s.a < x.1 + x.2 ∧ (x.1 : Int) < s.a + s.k) := by
  unfold mtb
  simp only [Bool.and_eq_true, decide_eq_true_eq]
theorem ftb_iff {n : Int} {x : Nat × Nat} : ftb n x = true ↔ (1 ≤ n ∧ n ≤ x.2) := by
  unfold ftb
  simp only [Bool.and_eq_true, decide_eq_true_eq]

theorem cov_app {A B : List (Nat × Nat)} {i : Nat} : cov (A ++ B) i ↔ cov A i ∨ cov B i := by
  constructor
  · rintro ⟨x, hx, h⟩
    rcases List.mem_append.1 hx with hx | hx
    · exact .inl ⟨x, hx, h⟩
    · exact .inr ⟨x, hx, h⟩
  · rintro (⟨x, hx, h⟩ | ⟨x, hx, h⟩)
    · exact ⟨x, by simp [hx], h⟩
    · exact ⟨x, by simp [hx], h⟩
theorem cov_one {x : Nat × Nat} {i : Nat} : cov [x] i ↔ (x.1 ≤ i ∧ i < x.1 + x.2) := by
  constructor
  · rintro ⟨y, hy, h⟩
    rw [List.mem_singleton] at hy
    subst hy
    exact h
  · exact fun h => ⟨x, by simp, h⟩
theorem cov_nil {i : Nat} : ¬ cov [] i := by rintro ⟨x, hx, _⟩; cases hx

theorem row_low {f : Fr} (ok : OkFr f) {x : Nat × Nat} (hx : x ∈ f.rows) : f.lo ≤ x.1 ∧ x.1 + x.2 ≤ f.L.length ∧ 1 ≤ x.2 := by
  have h1 := (rows_can f).2 x hx
  have h := all_iff.1 (row_all ok hx (n := (x.2 : Int)) (by omega) (Int.le_refl _))
  simp only [Int.toNat_natCast] at h
  omega
theorem all_rows {f : Fr} (ok : OkFr f) (s : Spn) : f.all s true = f.rows.any (wnb s) := by
  rw [Bool.eq_iff_iff, List.any_eq_true, all_iff]
  constructor
  · rintro ⟨h1, h2, h3, h4⟩
    obtain ⟨x, hx, h5, h6⟩ := (rows_cov f s.a.toNat).2 (h4 _ (Nat.le_refl _) (by omega))
    have := can_within (rows_can f) hx h5 h6 (n := s.k.toNat) (fun j q1 q2 => (rows_cov f j).2 (h4 j q1 q2))
    exact ⟨x, hx, wnb_iff.2 ⟨h1, by omega, by omega⟩⟩
  · rintro ⟨x, hx, h⟩
    obtain ⟨h1, h2, h3⟩ := wnb_iff.1 h
    have hl := row_low ok hx
    exact ⟨h1, by omega, by omega, fun i q1 q2 => (rows_cov f i).1 ⟨x, hx, by omega, by omega⟩⟩
/-- the pages that there are, as the program keeps them -/
def Fr.whole (f : Fr) : Nat × Nat := if f.lo < f.L.length then (f.lo, f.L.length - f.lo) else (0, 0)
theorem all_none {f : Fr} (s : Spn) : f.all s false = (wnb s f.whole && !(f.rows.any (mtb s))) := by
  rw [Bool.eq_iff_iff, all_iff, Bool.and_eq_true, Bool.not_eq_true', wnb_iff, List.any_eq_false]
  constructor
  · rintro ⟨h1, h2, h3, h4⟩
    have hw : f.whole = (f.lo, f.L.length - f.lo) := by unfold Fr.whole; rw [if_pos (by omega)]
    rw [hw]
    refine ⟨⟨h1, h2, by simp only; omega⟩, fun x hx hm => ?_⟩
    obtain ⟨h5, h6⟩ := mtb_iff.1 hm
    have hp := (rows_can f).2 x hx
    have h7 := (rows_cov f (max x.1 s.a.toNat)).1 ⟨x, hx, by omega, by omega⟩
    rw [h4 _ (by omega) (by omega)] at h7
    cases h7
  · rintro ⟨⟨h1, h2, h3⟩, h4⟩
    unfold Fr.whole at h2 h3
    split at h2
    · next hl =>
      rw [if_pos hl] at h3
      simp only at h2 h3
      refine ⟨h1, h2, by omega, fun i q1 q2 => ?_⟩
      have hi : i < f.L.length := by omega
      cases hb : f.L[i] with
      | false => rw [List.getElem?_eq_getElem hi, hb]
      | true =>
        obtain ⟨x, hx, h5, h6⟩ := (rows_cov f i).2 (by rw [List.getElem?_eq_getElem hi, hb])
        exact absurd (mtb_iff.2 ⟨by omega, by omega⟩) (h4 x hx)
    · next hl =>
      rw [if_neg hl] at h3
      simp only at h2 h3
      omega

/-- what is left of a row -/
def leftOf (s : Spn) (x : Nat × Nat) : List (Nat × Nat) := (if (x.1 : Int) < s.a then [(x.1, s.a.toNat - x.1)] else []) ++ (if s.a + s.k < (x.1 : Int) + x.2 then [((s.a + s.k).toNat, x.1 + x.2 - (s.a + s.k).toNat)] else [])
theorem cut_rows {f : Fr} {s : Spn} {x : Nat × Nat} {I : Nat} (hI : f.rows[I]? = some x) (hs : wnb s x = true) : f.rows.take I ++ leftOf s x ++ f.rows.drop (I + 1) = (f.put s false).rows := by
  obtain ⟨h1, h2, h3⟩ := wnb_iff.1 hs
  have hIl := (List.getElem?_eq_some_iff.1 hI).1
  have hR : f.rows = f.rows.take I ++ x :: f.rows.drop (I + 1) := by
    have := List.take_append_drop I f.rows
    rw [List.drop_eq_getElem_cons hIl, (List.getElem?_eq_some_iff.1 hI).2] at this
    exact this.symm
  have hcan := rows_can f
  have hcov := rows_cov f
  generalize f.rows.take I = A at *
  generalize f.rows.drop (I + 1) = B at *
  rw [hR] at hcan hcov
  have hp := List.pairwise_append.1 hcan.1
  have hpB := List.pairwise_cons.1 hp.2.1
  have hAx : ∀ y ∈ A, y.1 + y.2 < x.1 := fun y hy => hp.2.2 y hy x (by simp)
  have hxB : ∀ z ∈ B, x.1 + x.2 < z.1 := hpB.1
  have hlc : ∀ i, cov (leftOf s x) i ↔ ((x.1 ≤ i ∧ i < x.1 + x.2) ∧ ¬ (s.a.toNat ≤ i ∧ i < s.a.toNat + s.k.toNat)) := by
    intro i
    unfold leftOf
    rw [cov_app]
    by_cases q1 : (x.1 : Int) < s.a
    · by_cases q2 : s.a + s.k < (x.1 : Int) + x.2
      · rw [if_pos q1, if_pos q2, cov_one, cov_one]; simp only; omega
      · rw [if_pos q1, if_neg q2, cov_one]; simp only [cov_nil, or_false]; omega
    · by_cases q2 : s.a + s.k < (x.1 : Int) + x.2
      · rw [if_neg q1, if_pos q2, cov_one]; simp only [cov_nil, false_or]; omega
      · rw [if_neg q1, if_neg q2]
        exact ⟨fun h => h.elim (fun h => (cov_nil h).elim) (fun h => (cov_nil h).elim), fun h => by omega⟩
  have hlm : ∀ y ∈ leftOf s x, x.1 ≤ y.1 ∧ y.1 + y.2 ≤ x.1 + x.2 ∧ 1 ≤ y.2 := by
    intro y hy
    unfold leftOf at hy
    rcases List.mem_append.1 hy with hy | hy
    · split at hy
      · rw [List.mem_singleton] at hy; subst hy; simp only; omega
      · cases hy
    · split at hy
      · rw [List.mem_singleton] at hy; subst hy; simp only; omega
      · cases hy
  have hlp : (leftOf s x).Pairwise (fun x y => x.1 + x.2 < y.1) := by
    unfold leftOf
    rw [List.pairwise_append]
    refine ⟨?_, ?_, fun y hy z hz => ?_⟩
    · split
      · exact List.pairwise_singleton _ _
      · exact List.Pairwise.nil
    · split
      · exact List.pairwise_singleton _ _
      · exact List.Pairwise.nil
    · split at hy
      · split at hz
        · rw [List.mem_singleton] at hy hz; subst hy; subst hz; simp only; omega
        · cases hz
      · cases hy
  refine rows_unique ⟨?_, ?_⟩ (fun i => ?_)
  · rw [List.append_assoc, List.pairwise_append, List.pairwise_append]
    refine ⟨hp.1, ⟨hlp, hpB.2, fun y hy z hz => ?_⟩, fun y hy z hz => ?_⟩
    · have := hlm y hy; have := hxB z hz; omega
    · have q := hAx y hy
      rcases List.mem_append.1 hz with hz | hz
      · have := hlm z hz; omega
      · have := hxB z hz; omega
  · intro y hy
    rcases List.mem_append.1 hy with hy | hy
    · rcases List.mem_append.1 hy with hy | hy
      · exact hcan.2 y (by simp [hy])
      · exact (hlm y hy).2.2
    · exact hcan.2 y (by simp [hy])
  · have hat := setR_at f.L s.a.toNat false s.k.toNat i
    have e : (f.put s false).L[i]? = (setR f.L s.a.toNat false s.k.toNat)[i]? := rfl
    rw [e, hat, cov_app, cov_app, hlc]
    have hc := hcov i
    rw [cov_app, show x :: B = [x] ++ B from rfl, cov_app, cov_one] at hc
    by_cases q : s.a.toNat ≤ i ∧ i < s.a.toNat + s.k.toNat ∧ i < f.L.length
    · rw [if_pos q]
      refine ⟨fun h => ?_, fun h => by cases h⟩
      exfalso
      rcases h with (⟨y, hy, r⟩ | h) | ⟨y, hy, r⟩
      · have := hAx y hy; omega
      · omega
      · have := hxB y hy; omega
    · rw [if_neg q, ← hc]
      have hx3 : ∀ i, x.1 ≤ i → i < x.1 + x.2 → i < f.L.length := fun i q1 q2 => (List.getElem?_eq_some_iff.1 ((hcov i).1 ⟨x, by simp, q1, q2⟩)).1
      constructor
      · rintro ((h | h) | h)
        · exact .inl h
        · exact .inr (.inl h.1)
        · exact .inr (.inr h)
      · rintro (h | h | h)
        · exact .inl (.inl h)
        · refine .inl (.inr ⟨h, fun r => q ⟨r.1, r.2, hx3 i h.1 h.2⟩⟩)
        · exact .inr h

/-- rows of which M lie next to a span of which nothing is free, M and the span as one -/
theorem join_rows {f : Fr} {s : Spn} {A M B : List (Nat × Nat)} {st en : Nat} (hR : f.rows = A ++ (M ++ B)) (hs : f.all s false = true)
    (hA : ∀ y ∈ A, y.1 + y.2 < st) (hB : ∀ z ∈ B, en < z.1) (hlt : st < en) (hM : ∀ i, (st ≤ i ∧ i < en) ↔ (cov M i ∨ (s.a.toNat ≤ i ∧ i < s.a.toNat + s.k.toNat))) :
    A ++ ((st, en - st) :: B) = (f.put s true).rows := by
  obtain ⟨h1, h2, h3, h4⟩ := all_iff.1 hs
  have hcan := rows_can f
  have hcov := rows_cov f
  rw [hR] at hcan hcov
  have hp := List.pairwise_append.1 hcan.1
  have hpB := List.pairwise_append.1 hp.2.1
  refine rows_unique ⟨?_, ?_⟩ (fun i => ?_)
  · rw [List.pairwise_append, List.pairwise_cons]
    refine ⟨hp.1, ⟨fun z hz => by have := hB z hz; simp only; omega, hpB.2.1⟩, fun y hy z hz => ?_⟩
    have q := hA y hy
    rcases List.mem_cons.1 hz with rfl | hz
    · exact q
    · have := hB z hz; omega
  · intro y hy
    rcases List.mem_append.1 hy with hy | hy
    · exact hcan.2 y (by simp [hy])
    · rcases List.mem_cons.1 hy with rfl | hy
      · simp only; omega
      · exact hcan.2 y (by simp [hy])
  · have hat := setR_at f.L s.a.toNat true s.k.toNat i
    have e : (f.put s true).L[i]? = (setR f.L s.a.toNat true s.k.toNat)[i]? := rfl
    have hc := hcov i
    rw [cov_app, cov_app] at hc
    rw [e, hat, cov_app, show (st, en - st) :: B = [(st, en - st)] ++ B from rfl, cov_app, cov_one]
    have e2 : ((st, en - st).1 ≤ i ∧ i < (st, en - st).1 + (st, en - st).2) ↔ (st ≤ i ∧ i < en) := by simp only; omega
    rw [e2, hM i]
    by_cases q : s.a.toNat ≤ i ∧ i < s.a.toNat + s.k.toNat ∧ i < f.L.length
    · rw [if_pos q]
      exact ⟨fun _ => rfl, fun _ => .inr (.inl (.inr ⟨q.1, q.2.1⟩))⟩
    · rw [if_neg q, ← hc]
      constructor
      · rintro (h | (h | h) | h)
        · exact .inl h
        · exact .inr (.inl h)
        · exact absurd ⟨h.1, h.2, by omega⟩ q
        · exact .inr (.inr h)
      · rintro (h | h | h)
        · exact .inl h
        · exact .inr (.inl (.inl h))
        · exact .inr (.inr h)

/-- the place of the first such row, or -1 -/
def idx (P : Nat × Nat → Bool) (R : List (Nat × Nat)) : Int := match R.findIdx? P with
  | some i => i
  | none => -1
theorem idx_some {P : Nat × Nat → Bool} {R : List (Nat × Nat)} {i : Nat} {x : Nat × Nat} (hx : R[i]? = some x) (hp : P x = true) (hb : ∀ j y, j < i → R[j]? = some y → P y = false) : idx P R = i := by
  have : R.findIdx? P = some i := by
    rw [List.findIdx?_eq_some_iff_getElem]
    obtain ⟨hl, he⟩ := List.getElem?_eq_some_iff.1 hx
    refine ⟨hl, by rw [he]; exact hp, fun j hj => ?_⟩
    simp [hb j _ hj (List.getElem?_eq_getElem (Nat.lt_trans hj hl))]
  unfold idx
  rw [this]
theorem idx_none {P : Nat × Nat → Bool} {R : List (Nat × Nat)} (h : ∀ (j : Nat) y, R[j]? = some y → P y = false) : idx P R = -1 := by
  have : R.findIdx? P = none := by
    rw [List.findIdx?_eq_none_iff]
    intro x hx
    obtain ⟨j, hj⟩ := List.getElem?_of_mem hx
    exact h j x hj
  unfold idx
  rw [this]
theorem idx_cases (P : Nat × Nat → Bool) (R : List (Nat × Nat)) : (∃ (i : Nat) (x : Nat × Nat), idx P R = i ∧ R[i]? = some x ∧ P x = true ∧ ∀ (j : Nat) (y : Nat × Nat), j < i → R[j]? = some y → P y = false) ∨ (idx P R = -1 ∧ ∀ y ∈ R, P y = false) := by
  unfold idx
  cases h : R.findIdx? P with
  | none =>
    right
    rw [List.findIdx?_eq_none_iff] at h
    exact ⟨rfl, h⟩
  | some i =>
    left
    rw [List.findIdx?_eq_some_iff_getElem] at h
    obtain ⟨hl, h1, h2⟩ := h
    refine ⟨i, R[i], rfl, List.getElem?_eq_getElem hl, h1, fun j y hj hy => ?_⟩
    have := h2 j hj
    obtain ⟨_, e⟩ := List.getElem?_eq_some_iff.1 hy
    rw [e] at this
    simpa using this
theorem find_first {f : Fr} (ok : OkFr f) {n : Int} {i : Nat} {x : Nat × Nat} (hx : f.rows[i]? = some x) (hp : ftb n x = true) (hb : ∀ j y, j < i → f.rows[j]? = some y → ftb n y = false) : f.first n = some x.1 := by
  obtain ⟨h1, h2⟩ := ftb_iff.1 hp
  have : f.rows.find? (fun x => decide (n ≤ (x.2 : Int))) = some x := by
    rw [List.find?_eq_some_iff_getElem]
    obtain ⟨hl, he⟩ := List.getElem?_eq_some_iff.1 hx
    refine ⟨by simpa using h2, i, hl, he, fun j hj => ?_⟩
    have := hb j _ hj (List.getElem?_eq_getElem (Nat.lt_trans hj hl))
    unfold ftb at this
    rw [decide_eq_true h1, Bool.true_and] at this
    simp [this]
  rw [first_rows ok h1, this]
  rfl
theorem find_none {f : Fr} (ok : OkFr f) {n : Int} (hb : ∀ y ∈ f.rows, ftb n y = false) : f.first n = none := by
  by_cases h1 : 1 ≤ n
  · have : f.rows.find? (fun x => decide (n ≤ (x.2 : Int))) = none := by
      rw [List.find?_eq_none]
      intro y hy
      have := hb y hy
      unfold ftb at this
      rw [decide_eq_true h1, Bool.true_and] at this
      simp [this]
    rw [first_rows ok h1, this]
    rfl
  · unfold Fr.first
    rw [List.find?_eq_none]
    intro j _
    rw [Bool.not_eq_true]
    cases q : f.all ⟨j, n⟩ true with
    | false => rfl
    | true => exact absurd (all_iff.1 q).1 h1
end Apo
