/- A Free as it is meant, what is done with it, and that nothing is lost. No Go text is named here. -/
import Derived.Test.YtlomnpeelpmhiaaExt
namespace Apo
open Go

/-- pages from lo on are there; whether each is free -/
structure Fr where
  lo : Nat
  L : List Bool
structure Spn where
  a : Int
  k : Int
def lenF (n : Int) : Nat := if n > 16384 then 16384 else n.toNat
def newFr (m n : Int) : Fr := ⟨m.toNat, (List.range (lenF n)).map (fun i => decide (m.toNat ≤ i))⟩
def Fr.all (f : Fr) (s : Spn) (b : Bool) : Bool := decide (1 ≤ s.k ∧ (f.lo : Int) ≤ s.a ∧ s.a < f.L.length ∧ s.k ≤ f.L.length - s.a) && allb f.L s.a.toNat s.k.toNat b
def Fr.put (f : Fr) (s : Spn) (b : Bool) : Fr := { f with L := setR f.L s.a.toNat b s.k.toNat }
def Fr.claim (f : Fr) (s : Spn) : Bool × Fr := if f.all s true = true then (true, f.put s false) else (false, f)
def Fr.give (f : Fr) (s : Spn) : Bool × Fr := if f.all s false = true then (true, f.put s true) else (false, f)
def Fr.first (f : Fr) (n : Int) : Option Nat := (List.range f.L.length).find? (fun i => f.all ⟨i, n⟩ true)
def Fr.take (f : Fr) (n : Int) : (Int × Bool) × Fr :=
  match f.first n with
  | some i => ((i, true), f.put ⟨i, n⟩ false)
  | none => ((0, false), f)
def Fr.rows (f : Fr) : List (Nat × Nat) := spansTo f.L f.L.length
def sumP (R : List (Nat × Nat)) : Nat := R.foldl (fun m x => m + x.2) 0
def maxP (R : List (Nat × Nat)) : Nat := R.foldl (fun m x => max m x.2) 0
/-- no more pages than there may be, none below the first is free -/
structure OkFr (f : Fr) : Prop where
  len : f.L.length ≤ 16384
  low : ∀ i, i < f.lo → f.L.getD i false = false
theorem newFr_ok (m n : Int) : OkFr (newFr m n) := by
  refine ⟨?_, fun i hi => ?_⟩
  · simp [newFr, lenF]; split <;> omega
  · simp only [newFr] at hi ⊢
    rw [List.getD_eq_getElem?_getD, List.getElem?_map]
    by_cases h : i < lenF n
    · rw [List.getElem?_range h]; simp; omega
    · rw [List.getElem?_eq_none (by simpa using h)]; rfl
theorem Fr.put_len (f : Fr) (s : Spn) (b : Bool) : (f.put s b).L.length = f.L.length := setR_len _ _ _ _
theorem all_iff {f : Fr} {s : Spn} {b : Bool} : f.all s b = true ↔ (1 ≤ s.k ∧ (f.lo : Int) ≤ s.a ∧ s.a.toNat + s.k.toNat ≤ f.L.length ∧ ∀ i, s.a.toNat ≤ i → i < s.a.toNat + s.k.toNat → f.L[i]? = some b) := by
  unfold Fr.all
  rw [Bool.and_eq_true, decide_eq_true_eq]
  constructor
  · rintro ⟨⟨h1, h2, h3, h4⟩, h5⟩
    have h6 : s.a.toNat + s.k.toNat ≤ f.L.length := by omega
    exact ⟨h1, h2, h6, (allb_iff h6).1 h5⟩
  · rintro ⟨h1, h2, h3, h4⟩
    exact ⟨⟨h1, h2, by omega, by omega⟩, (allb_iff h3).2 h4⟩
theorem put_ok {f : Fr} (h : OkFr f) {s : Spn} (hs : (f.lo : Int) ≤ s.a) (b : Bool) : OkFr (f.put s b) := by
  refine ⟨by rw [Fr.put_len]; exact h.len, fun i hi => ?_⟩
  have := h.low i hi
  show (setR f.L s.a.toNat b s.k.toNat).getD i false = false
  rw [List.getD_eq_getElem?_getD, setR_at, if_neg (by have : (f.put s b).lo = f.lo := rfl; omega), ← List.getD_eq_getElem?_getD]
  exact this
theorem claim_ok {f : Fr} (h : OkFr f) (s : Spn) : OkFr (f.claim s).2 := by
  unfold Fr.claim
  split
  · next q => exact put_ok h (all_iff.1 q).2.1 _
  · exact h
theorem give_ok {f : Fr} (h : OkFr f) (s : Spn) : OkFr (f.give s).2 := by
  unfold Fr.give
  split
  · next q => exact put_ok h (all_iff.1 q).2.1 _
  · exact h
theorem first_some {f : Fr} {n : Int} {i : Nat} (h : f.first n = some i) : i < f.L.length ∧ f.all ⟨i, n⟩ true = true ∧ ∀ j, j < i → f.all ⟨j, n⟩ true = false := by
  unfold Fr.first at h
  rw [List.find?_range_eq_some] at h
  refine ⟨by simpa using h.2.1, h.1, fun j hj => ?_⟩
  simpa using h.2.2 j hj
theorem first_none {f : Fr} {n : Int} (h : f.first n = none) : ∀ j, j < f.L.length → f.all ⟨j, n⟩ true = false := by
  unfold Fr.first at h
  rw [List.find?_eq_none] at h
  intro j hj
  simpa using h j (by simpa using hj)
theorem take_ok {f : Fr} (h : OkFr f) (n : Int) : OkFr (f.take n).2 := by
  unfold Fr.take
  split
  · next i q => exact put_ok h (all_iff.1 (first_some q).2.1).2.1 _
  · exact h

theorem rows_can (f : Fr) : Can f.rows := (spans_all f.L f.L.length).1
theorem rows_cov (f : Fr) (i : Nat) : cov f.rows i ↔ f.L[i]? = some true := by
  rw [show cov f.rows i ↔ _ from (spans_all f.L f.L.length).2.1 i]
  constructor
  · rintro ⟨h1, h2⟩
    rw [List.getD_eq_getElem?_getD] at h2
    rw [List.getElem?_eq_getElem h1] at h2 ⊢
    simpa using h2
  · intro h
    have h1 := (List.getElem?_eq_some_iff.1 h).1
    exact ⟨h1, by rw [List.getD_eq_getElem?_getD, h]; rfl⟩
/-- rows that rise, none next to another one, with just the free pages, are the rows -/
theorem rows_unique {f : Fr} {R : List (Nat × Nat)} (h : Can R) (hc : ∀ i, cov R i ↔ f.L[i]? = some true) : R = f.rows :=
  can_unique h (rows_can f) (fun i => (hc i).trans (rows_cov f i).symm)
theorem can_next {R : List (Nat × Nat)} (h : Can R) {x : Nat × Nat} (hx : x ∈ R) (hc : cov R (x.1 + x.2)) : False := by
  obtain ⟨y, hy, h1, h2⟩ := hc
  rcases List.mem_iff_getElem.1 hx with ⟨i, hi, rfl⟩
  rcases List.mem_iff_getElem.1 hy with ⟨j, hj, rfl⟩
  have hp := List.pairwise_iff_getElem.1 h.1
  rcases Nat.lt_trichotomy i j with hl | hl | hl
  · have := hp i j hi hj hl; omega
  · subst hl; omega
  · have := hp j i hj hi hl; omega
/-- pages in a row that are free lie in one row -/
theorem can_within {R : List (Nat × Nat)} (h : Can R) {x : Nat × Nat} (hx : x ∈ R) {i n : Nat} (_ : x.1 ≤ i) (h2 : i < x.1 + x.2) (hc : ∀ j, i ≤ j → j < i + n → cov R j) : i + n ≤ x.1 + x.2 := by
  rcases Nat.lt_or_ge (x.1 + x.2) (i + n) with hl | hl
  · exact (can_next h hx (hc _ (by omega) hl)).elim
  · exact hl
theorem row_all {f : Fr} (ok : OkFr f) {x : Nat × Nat} (hx : x ∈ f.rows) {n : Int} (hn : 1 ≤ n) (hk : n ≤ x.2) : f.all ⟨x.1, n⟩ true = true := by
  have hc : ∀ j, x.1 ≤ j → j < x.1 + x.2 → f.L[j]? = some true := fun j h1 h2 => (rows_cov f j).1 ⟨x, hx, h1, h2⟩
  have h0 := hc x.1 (Nat.le_refl _) (by omega)
  have hl := (List.getElem?_eq_some_iff.1 (hc (x.1 + n.toNat - 1) (by omega) (by omega))).1
  refine all_iff.2 ⟨hn, ?_, ?_, fun i h1 h2 => hc i (by simpa using h1) (by simp at h2; omega)⟩
  · rcases Nat.lt_or_ge x.1 f.lo with h | h
    · have := ok.low x.1 h
      rw [List.getD_eq_getElem?_getD, h0] at this
      cases this
    · simp only; omega
  · simp only [Int.toNat_natCast]; omega
/-- the first place is the first row's that is long enough -/
theorem first_rows {f : Fr} (ok : OkFr f) {n : Int} (hn : 1 ≤ n) : f.first n = (f.rows.find? (fun x => decide (n ≤ x.2))).map (·.1) := by
  cases hr : f.rows.find? (fun x => decide (n ≤ x.2)) with
  | none =>
    rw [List.find?_eq_none] at hr
    cases hf : f.first n with
    | none => rfl
    | some i =>
      obtain ⟨hi, ha, _⟩ := first_some hf
      obtain ⟨_, _, h3, h4⟩ := all_iff.1 ha
      simp only [Int.toNat_natCast] at h3 h4
      obtain ⟨x, hx, h5, h6⟩ := (rows_cov f i).2 (h4 i (Nat.le_refl _) (by omega))
      have := can_within (rows_can f) hx h5 h6 (n := n.toNat) (fun j q1 q2 => (rows_cov f j).2 (h4 j q1 q2))
      exact absurd (decide_eq_true (show n ≤ (x.2 : Int) by omega)) (by simpa using hr x hx)
  | some x =>
    have hx := List.mem_of_find?_eq_some hr
    have hk : n ≤ (x.2 : Int) := by simpa using List.find?_some hr
    have ha := row_all ok hx hn hk
    have hl : x.1 < f.L.length := by
      have := (all_iff.1 ha).2.2.1
      simp only [Int.toNat_natCast] at this
      omega
    show (List.range f.L.length).find? (fun i : Nat => f.all ⟨i, n⟩ true) = some x.1
    rw [List.find?_range_eq_some]
    refine ⟨ha, by simpa using hl, fun j hj => ?_⟩
    cases hja : f.all ⟨j, n⟩ true
    · rfl
    · exfalso
      obtain ⟨_, _, h3, h4⟩ := all_iff.1 hja
      simp only [Int.toNat_natCast] at h3 h4
      obtain ⟨y, hy, h5, h6⟩ := (rows_cov f j).2 (h4 j (Nat.le_refl _) (by omega))
      have hw := can_within (rows_can f) hy h5 h6 (n := n.toNat) (fun i q1 q2 => (rows_cov f i).2 (h4 i q1 q2))
      have hny : n ≤ (y.2 : Int) := by omega
      obtain ⟨_, as, bs, he, hno⟩ := List.find?_eq_some_iff_append.1 hr
      have hyx : y ∈ as ∨ y = x ∨ y ∈ bs := by
        rw [he] at hy
        simpa using hy
      have hcan := (rows_can f).1
      rw [he, List.pairwise_append] at hcan
      rcases hyx with h | h | h
      · have := hno y h
        simp at this
        omega
      · subst h; omega
      · have := (List.pairwise_cons.1 hcan.2.1).1 y h; omega
theorem max_le : ∀ (R : List (Nat × Nat)) (m : Nat), m ≤ R.foldl (fun m x => max m x.2) m ∧ ∀ x ∈ R, x.2 ≤ R.foldl (fun m x => max m x.2) m
  | [], m => by simp
  | x :: R, m => by
    obtain ⟨h1, h2⟩ := max_le R (max m x.2)
    refine ⟨by rw [List.foldl_cons]; omega, fun y hy => ?_⟩
    rw [List.foldl_cons]
    rcases List.mem_cons.1 hy with rfl | hy
    · omega
    · exact h2 y hy
theorem max_in : ∀ (R : List (Nat × Nat)) (m : Nat), R.foldl (fun m x => max m x.2) m = m ∨ ∃ x ∈ R, R.foldl (fun m x => max m x.2) m = x.2
  | [], m => .inl rfl
  | x :: R, m => by
    rw [List.foldl_cons]
    rcases max_in R (max m x.2) with h | ⟨y, hy, h⟩
    · rw [h]
      rcases Nat.le_total m x.2 with q | q
      · exact .inr ⟨x, by simp, by omega⟩
      · exact .inl (by omega)
    · exact .inr ⟨y, by simp [hy], h⟩
/-- what is not found is longer than any row -/
theorem first_max {f : Fr} (ok : OkFr f) {n : Int} (hn : 1 ≤ n) (h : f.first n = none) : (maxP f.rows : Int) < n := by
  rw [first_rows ok hn] at h
  cases hr : f.rows.find? (fun x => decide (n ≤ x.2)) with
  | some x => rw [hr] at h; cases h
  | none =>
    rw [List.find?_eq_none] at hr
    rcases max_in f.rows 0 with q | ⟨x, hx, q⟩
    · show ((f.rows.foldl (fun m x => max m x.2) 0 : Nat) : Int) < n
      rw [q]; omega
    · show ((f.rows.foldl (fun m x => max m x.2) 0 : Nat) : Int) < n
      rw [q]
      have := hr x hx
      simp at this
      omega

/-- T was taken of f0, f is left -/
structure Tk (f0 f : Fr) (T : List (Nat × Nat)) : Prop where
  lo : f.lo = f0.lo
  len : f.L.length = f0.L.length
  ok : OkFr f
  each : ∀ t ∈ T, 1 ≤ t.2 ∧ f.lo ≤ t.1 ∧ t.1 + t.2 ≤ f.L.length
  apart : T.Pairwise (fun x y => x.1 + x.2 ≤ y.1 ∨ y.1 + y.2 ≤ x.1)
  cover : ∀ i, i < f.L.length → (f0.L[i]? = some true ↔ (f.L[i]? = some true ∨ cov T i))
  none : ∀ i, cov T i → f.L[i]? = some false
theorem Tk.new {f : Fr} (h : OkFr f) : Tk f f [] :=
  ⟨rfl, rfl, h, by simp, List.Pairwise.nil, fun i _ => ⟨fun h => .inl h, fun h => h.elim id (fun ⟨x, hx, _⟩ => by cases hx)⟩, fun i ⟨x, hx, _⟩ => by cases hx⟩
theorem Tk.take {f0 f : Fr} {T : List (Nat × Nat)} (h : Tk f0 f T) {n : Int} {i : Nat} (hf : f.first n = some i) :
    Tk f0 (f.put ⟨i, n⟩ false) (T ++ [(i, n.toNat)]) ∧ ∀ t ∈ T, ¬ ((i : Int) < t.1 + t.2 ∧ (t.1 : Int) < i + n) := by
  obtain ⟨hi, ha, _⟩ := first_some hf
  obtain ⟨h1, h2, h3, h4⟩ := all_iff.1 ha
  simp only [Int.toNat_natCast] at h1 h2 h3 h4
  have hat : ∀ j, (f.put ⟨i, n⟩ false).L[j]? = if i ≤ j ∧ j < i + n.toNat ∧ j < f.L.length then some false else f.L[j]? := fun j => by
    have := setR_at f.L i false n.toNat j
    simpa [Fr.put] using this
  have hsep : ∀ t ∈ T, i + n.toNat ≤ t.1 ∨ t.1 + t.2 ≤ i := by
    intro t ht
    rcases Nat.lt_or_ge t.1 (i + n.toNat) with q | q
    · rcases Nat.lt_or_ge i (t.1 + t.2) with r | r
      · have ht2 := (h.each t ht).1
        have hm : max i t.1 < i + n.toNat := by omega
        have h5 := h4 (max i t.1) (by omega) hm
        have h6 := h.none (max i t.1) ⟨t, ht, by omega, by omega⟩
        rw [h5] at h6
        cases h6
      · exact .inr r
    · exact .inl q
  refine ⟨⟨h.lo, by rw [Fr.put_len]; exact h.len, put_ok h.ok h2 _, ?_, ?_, ?_, ?_⟩, fun t ht hh => by have := hsep t ht; omega⟩
  · intro t ht
    rw [Fr.put_len]
    rcases List.mem_append.1 ht with ht | ht
    · exact h.each t ht
    · rw [List.mem_singleton] at ht
      subst ht
      have : (f.put ⟨i, n⟩ false).lo = f.lo := rfl
      simp only
      omega
  · rw [List.pairwise_append]
    refine ⟨h.apart, List.pairwise_singleton _ _, fun x hx y hy => ?_⟩
    rw [List.mem_singleton] at hy
    subst hy
    exact (hsep x hx).symm
  · intro j hj
    rw [Fr.put_len] at hj
    rw [h.cover j hj, hat j]
    by_cases q : i ≤ j ∧ j < i + n.toNat ∧ j < f.L.length
    · rw [if_pos q]
      have := h4 j q.1 q.2.1
      exact ⟨fun _ => .inr ⟨(i, n.toNat), by simp, q.1, q.2.1⟩, fun _ => .inl this⟩
    · rw [if_neg q]
      constructor
      · rintro (r | ⟨x, hx, r⟩)
        · exact .inl r
        · exact .inr ⟨x, by simp [hx], r⟩
      · rintro (r | ⟨x, hx, r1, r2⟩)
        · exact .inl r
        · rcases List.mem_append.1 hx with hx | hx
          · exact .inr ⟨x, hx, r1, r2⟩
          · rw [List.mem_singleton] at hx
            subst hx
            exact absurd ⟨r1, r2, hj⟩ q
  · rintro j ⟨x, hx, r1, r2⟩
    rw [hat j]
    rcases List.mem_append.1 hx with hx | hx
    · split
      · rfl
      · exact h.none j ⟨x, hx, r1, r2⟩
    · rw [List.mem_singleton] at hx
      subst hx
      simp only at r1 r2
      rw [if_pos ⟨r1, r2, by omega⟩]
theorem Tk.give {f0 f : Fr} {t : Nat × Nat} {T : List (Nat × Nat)} (h : Tk f0 f (t :: T)) :
    f.all ⟨t.1, t.2⟩ true = false ∧ f.all ⟨t.1, t.2⟩ false = true ∧ (f.put ⟨t.1, t.2⟩ true).all ⟨t.1, t.2⟩ false = false ∧ Tk f0 (f.put ⟨t.1, t.2⟩ true) T := by
  obtain ⟨e1, e2, e3⟩ := h.each t (by simp)
  have hno : ∀ j, t.1 ≤ j → j < t.1 + t.2 → f.L[j]? = some false := fun j q1 q2 => h.none j ⟨t, by simp, q1, q2⟩
  have hat : ∀ j, (f.put ⟨t.1, t.2⟩ true).L[j]? = if t.1 ≤ j ∧ j < t.1 + t.2 ∧ j < f.L.length then some true else f.L[j]? := fun j => by
    have := setR_at f.L t.1 true t.2 j
    simpa [Fr.put] using this
  have hap := List.pairwise_cons.1 h.apart
  refine ⟨?_, ?_, ?_, ⟨h.lo, by rw [Fr.put_len]; exact h.len, put_ok h.ok (by simp only; omega) _, fun x hx => by rw [Fr.put_len]; exact h.each x (by simp [hx]), hap.2, ?_, ?_⟩⟩
  · cases q : f.all ⟨t.1, t.2⟩ true
    · rfl
    · have := (all_iff.1 q).2.2.2 t.1 (by simp) (by simp; omega)
      rw [hno t.1 (Nat.le_refl _) (by omega)] at this
      cases this
  · exact all_iff.2 ⟨by simp only; omega, by simp only; omega, by simp; omega, fun j q1 q2 => hno j (by simpa using q1) (by simpa using q2)⟩
  · cases q : (f.put ⟨t.1, t.2⟩ true).all ⟨t.1, t.2⟩ false
    · rfl
    · have := (all_iff.1 q).2.2.2 t.1 (by simp) (by simp; omega)
      rw [hat t.1, if_pos ⟨Nat.le_refl _, by omega, by omega⟩] at this
      cases this
  · intro j hj
    rw [Fr.put_len] at hj
    rw [h.cover j hj, hat j]
    by_cases q : t.1 ≤ j ∧ j < t.1 + t.2 ∧ j < f.L.length
    · rw [if_pos q]
      exact ⟨fun _ => .inl rfl, fun _ => .inr ⟨t, by simp, q.1, q.2.1⟩⟩
    · rw [if_neg q]
      constructor
      · rintro (r | ⟨x, hx, r1, r2⟩)
        · exact .inl r
        · rcases List.mem_cons.1 hx with rfl | hx
          · exact absurd ⟨r1, r2, hj⟩ q
          · exact .inr ⟨x, hx, r1, r2⟩
      · rintro (r | ⟨x, hx, r⟩)
        · exact .inl r
        · exact .inr ⟨x, by simp [hx], r⟩
  · rintro j ⟨x, hx, r1, r2⟩
    rw [hat j, if_neg]
    · exact h.none j ⟨x, by simp [hx], r1, r2⟩
    · rintro ⟨q1, q2, _⟩
      have := hap.1 x hx
      omega
theorem Tk.back {f0 f : Fr} (h : Tk f0 f []) : f = f0 := by
  have e : f.L = f0.L := by
    refine List.ext_getElem? (fun i => ?_)
    rcases Nat.lt_or_ge i f.L.length with hi | hi
    · have hi0 : i < f0.L.length := by have := h.len; omega
      have hc := h.cover i hi
      rw [List.getElem?_eq_getElem hi] at hc ⊢
      rw [List.getElem?_eq_getElem hi0] at hc ⊢
      cases h1 : f.L[i] <;> cases h2 : f0.L[i]
      · rfl
      · rw [h1, h2] at hc
        rcases hc.1 rfl with q | ⟨x, hx, _⟩
        · cases q
        · cases hx
      · rw [h1, h2] at hc
        exact absurd (hc.2 (.inl rfl)) (by simp)
      · rfl
    · rw [List.getElem?_eq_none hi, List.getElem?_eq_none (by have := h.len; omega)]
  cases f; cases f0
  have := h.lo
  simp_all
end Apo
