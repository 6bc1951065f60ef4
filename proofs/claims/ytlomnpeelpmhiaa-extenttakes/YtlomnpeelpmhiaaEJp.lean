/- Rows joined with a span of which nothing is free, as join does it. No Go text is named here. -/
import Derived.Test.YtlomnpeelpmhiaaEPu
namespace Apo
open Go

theorem cov_mid {R : List (Nat × Nat)} {lo hi : Nat} {i : Nat} : cov ((R.drop lo).take (hi - lo)) i ↔ ∃ j x, lo ≤ j ∧ j < hi ∧ R[j]? = some x ∧ x.1 ≤ i ∧ i < x.1 + x.2 := by
  constructor
  · rintro ⟨x, hx, h⟩
    obtain ⟨j, hj⟩ := List.getElem?_of_mem hx
    have hl := (List.getElem?_eq_some_iff.1 hj).1
    rw [List.length_take] at hl
    rw [List.getElem?_take_of_lt (by omega), List.getElem?_drop] at hj
    exact ⟨lo + j, x, by omega, by omega, hj, h⟩
  · rintro ⟨j, x, h1, h2, h3, h⟩
    refine ⟨x, ?_, h⟩
    have : ((R.drop lo).take (hi - lo))[j - lo]? = some x := by
      rw [List.getElem?_take_of_lt (by omega), List.getElem?_drop, show lo + (j - lo) = j by omega]
      exact h3
    exact List.mem_of_getElem? this
theorem rows_lt {f : Fr} {i j : Nat} {x y : Nat × Nat} (hx : f.rows[i]? = some x) (hy : f.rows[j]? = some y) (h : i < j) : x.1 + x.2 < y.1 := by
  obtain ⟨h1, rfl⟩ := List.getElem?_eq_some_iff.1 hx
  obtain ⟨h2, rfl⟩ := List.getElem?_eq_some_iff.1 hy
  exact List.pairwise_iff_getElem.1 (rows_can f).1 i j h1 h2 h
theorem join_all {f : Fr} {s : Spn} {lo lo' hi' st en : Nat} (hs : f.all s false = true) (hlo : lo ≤ f.rows.length) (hA : ∀ j y, j < lo → f.rows[j]? = some y → (y.1 : Int) ≤ s.a) (hB : ∀ j z, lo ≤ j → f.rows[j]? = some z → s.a < (z.1 : Int))
    (hL : (lo' = lo ∧ (st : Int) = s.a ∧ ∀ y, 0 < lo → f.rows[lo - 1]? = some y → (y.1 : Int) + y.2 ≠ s.a) ∨ (0 < lo ∧ lo' = lo - 1 ∧ ∃ y, f.rows[lo - 1]? = some y ∧ (y.1 : Int) + y.2 = s.a ∧ st = y.1))
    (hH : (hi' = lo ∧ (en : Int) = s.a + s.k ∧ ∀ z, f.rows[lo]? = some z → (z.1 : Int) ≠ s.a + s.k) ∨ (hi' = lo + 1 ∧ ∃ z, f.rows[lo]? = some z ∧ (z.1 : Int) = s.a + s.k ∧ en = z.1 + z.2)) :
    f.rows.take lo' ++ ((st, en - st) :: f.rows.drop hi') = (f.put s true).rows ∧ lo' ≤ hi' ∧ hi' ≤ f.rows.length ∧ st < en := by
  have hs2 := hs
  rw [all_none, Bool.and_eq_true, Bool.not_eq_true', List.any_eq_false] at hs2
  obtain ⟨hw, hno⟩ := hs2
  obtain ⟨k1, k2, _⟩ := wnb_iff.1 hw
  have hpos : ∀ (j : Nat) y, f.rows[j]? = some y → 1 ≤ y.2 := fun j y hy => (rows_can f).2 y (List.mem_of_getElem? hy)
  have hAe : ∀ j y, j < lo → f.rows[j]? = some y → (y.1 : Int) + y.2 ≤ s.a := fun j y hj hy => by
    have h1 := hA j y hj hy
    have h2 : ¬ (s.a < (y.1 : Int) + y.2 ∧ (y.1 : Int) < s.a + s.k) := fun q => hno y (List.mem_of_getElem? hy) (mtb_iff.2 q)
    omega
  have hBe : ∀ j z, lo ≤ j → f.rows[j]? = some z → s.a + s.k ≤ (z.1 : Int) := fun j z hj hz => by
    have h1 := hB j z hj hz
    have h2 : ¬ (s.a < (z.1 : Int) + z.2 ∧ (z.1 : Int) < s.a + s.k) := fun q => hno z (List.mem_of_getElem? hz) (mtb_iff.2 q)
    omega
  have hle : lo' ≤ lo ∧ (st : Int) ≤ s.a := by
    rcases hL with ⟨h1, h2, _⟩ | ⟨h0, h1, y, hy, h2, h3⟩
    · omega
    · have := hpos _ y hy; omega
  have hge : lo ≤ hi' ∧ s.a + s.k ≤ (en : Int) ∧ hi' ≤ f.rows.length := by
    rcases hH with ⟨h1, h2, _⟩ | ⟨h1, z, hz, h2, h3⟩
    · omega
    · have := (List.getElem?_eq_some_iff.1 hz).1; omega
  have hRm : f.rows = f.rows.take lo' ++ ((f.rows.drop lo').take (hi' - lo') ++ f.rows.drop hi') := by
    have e1 := List.take_append_drop lo' f.rows
    have e2 := List.take_append_drop (hi' - lo') (f.rows.drop lo')
    rw [List.drop_drop, show lo' + (hi' - lo') = hi' by omega] at e2
    rw [e2, e1]
  refine ⟨join_rows hRm hs ?_ ?_ (by omega) ?_, by omega, by omega, by omega⟩
  · intro y hy
    obtain ⟨j, hj⟩ := List.getElem?_of_mem hy
    have hjl := (List.getElem?_eq_some_iff.1 hj).1
    rw [List.length_take] at hjl
    rw [List.getElem?_take_of_lt (by omega)] at hj
    rcases hL with ⟨h1, h2, h3⟩ | ⟨h0, h1, y0, hy0, h2, h3⟩
    · have h4 := hAe j y (by omega) hj
      by_cases e : j = lo - 1
      · subst e
        have := h3 y (by omega) hj
        omega
      · have hl1 : lo - 1 < f.rows.length := by omega
        have h5 := rows_lt hj (List.getElem?_eq_getElem hl1) (by omega)
        have h6 := hA (lo - 1) _ (by omega) (List.getElem?_eq_getElem hl1)
        omega
    · have := rows_lt hj hy0 (by omega)
      omega
  · intro z hz
    obtain ⟨j, hj⟩ := List.getElem?_of_mem hz
    rw [List.getElem?_drop] at hj
    rcases hH with ⟨h1, h2, h3⟩ | ⟨h1, z0, hz0, h2, h3⟩
    · by_cases e : hi' + j = lo
      · rw [e] at hj
        have := h3 z hj
        have := hBe lo z (Nat.le_refl _) hj
        omega
      · have hl1 : lo < f.rows.length := by have := (List.getElem?_eq_some_iff.1 hj).1; omega
        have h5 := rows_lt (List.getElem?_eq_getElem hl1) hj (by omega)
        have h6 := hBe lo _ (Nat.le_refl _) (List.getElem?_eq_getElem hl1)
        omega
    · have := rows_lt hz0 hj (by omega)
      omega
  · intro i
    rw [cov_mid]
    constructor
    · rintro ⟨h1, h2⟩
      by_cases q1 : i < s.a.toNat
      · rcases hL with ⟨e1, e2, _⟩ | ⟨h0, e1, y, hy, e2, e3⟩
        · omega
        · exact .inl ⟨lo - 1, y, by omega, by omega, hy, by omega, by omega⟩
      · by_cases q2 : i < s.a.toNat + s.k.toNat
        · exact .inr ⟨by omega, q2⟩
        · rcases hH with ⟨e1, e2, _⟩ | ⟨e1, z, hz, e2, e3⟩
          · omega
          · exact .inl ⟨lo, z, by omega, by omega, hz, by omega, by omega⟩
    · rintro (⟨j, x, h1, h2, h3, h4, h5⟩ | h)
      · rcases Nat.lt_or_ge j lo with q | q
        · rcases hL with ⟨e1, _⟩ | ⟨h0, e1, y, hy, e2, e3⟩
          · omega
          · have e : j = lo - 1 := by omega
            subst e
            rw [hy] at h3
            cases h3
            omega
        · rcases hH with ⟨e1, _⟩ | ⟨e1, z, hz, e2, e3⟩
          · omega
          · have e : j = lo := by omega
            subst e
            rw [hz] at h3
            cases h3
            omega
      · omega
end Apo
