/- A heap as container/heap keeps it, pure: no Go text is named here. -/
import Derived.Test.YtmkafoidfgaokaaQGPu
namespace Go.Proofs.Ytmkafoidfgaokaa.Hp
variable {α : Type}
def par (k : Nat) : Nat := (k - 1) / 2
theorem par_lt {k : Nat} (h : 0 < k) : par k < k := by unfold par; omega
def sw (f : Nat → α) (i j : Nat) : Nat → α := fun k => if k = i then f j else if k = j then f i else f k
/-- a strict order in which what is not less may be put in a row -/
structure Ord (lt : α → α → Bool) : Prop where
  as : ∀ x y, lt x y = true → lt y x = false
  tr : ∀ x y z, lt x y = false → lt y z = false → lt x z = false
variable {lt : α → α → Bool}
theorem Ord.tr2 (O : Ord lt) {x y z : α} (h1 : lt x y = true) (h2 : lt z y = false) : lt z x = false := O.tr _ _ _ h2 (O.as _ _ h1)
def HeapFrom (lt : α → α → Bool) (f : Nat → α) (n b : Nat) : Prop := ∀ k, 0 < k → k < n → b ≤ par k → lt (f k) (f (par k)) = false
def UpInv (lt : α → α → Bool) (f : Nat → α) (n j : Nat) : Prop := j < n ∧ (∀ k, 0 < k → k < n → k ≠ j → lt (f k) (f (par k)) = false) ∧ ∀ k, 0 < j → 0 < k → k < n → par k = j → lt (f k) (f (par j)) = false
def DownInv (lt : α → α → Bool) (f : Nat → α) (n b i : Nat) : Prop := b ≤ i ∧ (∀ k, 0 < k → k < n → b ≤ par k → par k ≠ i → lt (f k) (f (par k)) = false) ∧ ∀ k, 0 < i → 0 < k → k < n → b ≤ par i → par k = i → lt (f k) (f (par i)) = false
theorem up_start {f : Nat → α} {n : Nat} {y : α} (h : HeapFrom lt f n 0) : UpInv lt (fun k => if k = n then y else f k) (n + 1) n := by
  refine ⟨by omega, fun k h0 hk hn => ?_, fun k h0 hk hn hp => ?_⟩
  · have := par_lt h0
    simp only [if_neg hn, if_neg (by omega : ¬ par k = n)]
    exact h k h0 (by omega) (Nat.zero_le _)
  · have := par_lt hk
    omega
theorem up_stop {f : Nat → α} {n j : Nat} (h : UpInv lt f n j) (hs : j = 0 ∨ lt (f j) (f (par j)) = false) : HeapFrom lt f n 0 := by
  intro k h0 hk _
  by_cases q : k = j
  · subst q
    rcases hs with hs | hs
    · omega
    · exact hs
  · exact h.2.1 k h0 hk q
theorem up_step (O : Ord lt) {f : Nat → α} {n j : Nat} (h : UpInv lt f n j) (hj : 0 < j) (hl : lt (f j) (f (par j)) = true) : UpInv lt (sw f (par j) j) n (par j) := by
  have hp := par_lt hj
  refine ⟨by have := h.1; omega, fun k h0 hk hn => ?_, fun k h0 hk hkn hpk => ?_⟩
  · by_cases q : k = j
    · subst q
      simp only [sw, if_neg hn, if_true]
      exact O.as _ _ hl
    · by_cases r : par k = j
      · simp only [sw, if_neg hn, if_neg q, r, if_true, if_neg (by omega : ¬ j = par j)]
        exact h.2.2 k hj h0 hk r
      · by_cases s : par k = par j
        · simp only [sw, if_neg hn, if_neg q, s, if_true]
          have := h.2.1 k h0 hk q
          rw [s] at this
          exact O.tr2 hl this
        · simp only [sw, if_neg hn, if_neg q, if_neg r, if_neg s]
          exact h.2.1 k h0 hk q
  · have hpp := par_lt h0
    by_cases q : k = j
    · subst q
      simp only [sw, if_true, if_neg (by omega : ¬ k = par k), if_neg (by omega : ¬ par (par k) = par k), if_neg (by omega : ¬ par (par k) = k)]
      exact h.2.1 (par k) h0 (by have := h.1; omega) (by omega)
    · have hkk := par_lt hk
      simp only [sw, if_neg q, if_neg (by omega : ¬ k = par j), if_neg (by omega : ¬ par (par j) = par j), if_neg (by omega : ¬ par (par j) = j)]
      have h1 := h.2.1 k hk hkn q
      rw [hpk] at h1
      exact O.tr _ _ _ h1 (h.2.1 (par j) h0 (by have := h.1; omega) (by omega))
theorem down_leaf {f : Nat → α} {n b i : Nat} (h : DownInv lt f n b i) (hl : n ≤ 2 * i + 1) : HeapFrom lt f n b := by
  intro k h0 hk hb
  exact h.2.1 k h0 hk hb (by unfold par; omega)
/-- c: the child that is to go up -/
def Least (lt : α → α → Bool) (f : Nat → α) (n i c : Nat) : Prop := c < n ∧ ((c = 2 * i + 1 ∧ (2 * i + 2 < n → lt (f (2 * i + 2)) (f c) = false)) ∨ (c = 2 * i + 2 ∧ lt (f (2 * i + 1)) (f c) = false))
theorem Least.par {f : Nat → α} {n i c : Nat} (h : Least lt f n i c) : par c = i ∧ 0 < c := by
  rcases h.2 with ⟨e, _⟩ | ⟨e, _⟩ <;> subst e <;> unfold Hp.par <;> omega
theorem Least.all {f : Nat → α} {n i c : Nat} (h : Least lt f n i c) {k : Nat} (h0 : 0 < k) (hk : k < n) (hp : Hp.par k = i) : lt (f k) (f c) = false ∨ k = c := by
  by_cases q : k = c
  · exact .inr q
  · left
    unfold Hp.par at hp
    rcases h.2 with ⟨e, h1⟩ | ⟨e, h1⟩
    · obtain rfl : k = 2 * i + 2 := by omega
      exact h1 hk
    · obtain rfl : k = 2 * i + 1 := by omega
      exact h1
theorem down_stop (O : Ord lt) {f : Nat → α} {n b i c : Nat} (h : DownInv lt f n b i) (hc : Least lt f n i c) (hl : lt (f c) (f i) = false) : HeapFrom lt f n b := by
  intro k h0 hk hb
  by_cases q : par k = i
  · rw [q]
    rcases hc.all h0 hk q with h1 | h1
    · exact O.tr _ _ _ h1 hl
    · rw [h1]; exact hl
  · exact h.2.1 k h0 hk hb q
theorem down_step (O : Ord lt) {f : Nat → α} {n b i c : Nat} (h : DownInv lt f n b i) (hc : Least lt f n i c) (hl : lt (f c) (f i) = true) : DownInv lt (sw f i c) n b c := by
  obtain ⟨hpc, hc0⟩ := hc.par
  have hci := par_lt hc0
  refine ⟨by have := h.1; omega, fun k h0 hk hb hn => ?_, fun k h0 hk hkn hb hpk => ?_⟩
  · have hkk := par_lt h0
    by_cases q : par k = i
    · by_cases r : k = c
      · subst r
        simp only [sw, if_neg (by omega : ¬ k = i), q, if_true]
        exact O.as _ _ hl
      · simp only [sw, if_neg (by omega : ¬ k = i), if_neg r, q, if_true]
        rcases hc.all h0 hk q with h1 | h1
        · exact h1
        · exact absurd h1 r
    · by_cases r : k = i
      · subst r
        simp only [sw, if_true, if_neg (by omega : ¬ par k = k), if_neg hn]
        exact h.2.2 c (by omega) hc0 hc.1 hb hpc
      · by_cases s : k = c
        · subst s; omega
        · simp only [sw, if_neg r, if_neg s, if_neg q, if_neg hn]
          exact h.2.1 k h0 hk hb q
  · have hkk := par_lt hk
    have := h.2.1 k hk hkn (by have := h.1; omega) (by omega)
    rw [hpk] at this
    simp only [sw, hpc, if_true, if_neg (by omega : ¬ k = i), if_neg (by omega : ¬ k = c)]
    exact this
theorem root_least (O : Ord lt) {f : Nat → α} {n : Nat} (h : HeapFrom lt f n 0) : ∀ k, k < n → lt (f k) (f 0) = false ∨ k = 0 := by
  intro k
  induction k using Nat.strongRecOn with
  | ind k ih =>
    intro hk
    by_cases q : k = 0
    · exact .inr q
    · left
      have hp := par_lt (Nat.pos_of_ne_zero q)
      have h1 := h k (Nat.pos_of_ne_zero q) hk (Nat.zero_le _)
      rcases ih (par k) hp (by omega) with h2 | h2
      · exact O.tr _ _ _ h1 h2
      · rw [h2] at h1; exact h1
theorem pop_start {f : Nat → α} {n : Nat} (h : HeapFrom lt f (n + 1) 0) : DownInv lt (sw f 0 n) n 0 0 := by
  refine ⟨Nat.le_refl _, fun k h0 hk _ hp => ?_, fun k h0 => by omega⟩
  have := par_lt h0
  simp only [sw, if_neg (by omega : ¬ k = 0), if_neg (by omega : ¬ k = n), if_neg hp, if_neg (by omega : ¬ par k = n)]
  exact h k h0 (by omega) (Nat.zero_le _)
theorem init_start (f : Nat → α) (n i : Nat) (h : HeapFrom lt f n (i + 1)) : DownInv lt f n i i := by
  refine ⟨Nat.le_refl _, fun k h0 hk hb hp => h k h0 hk (by omega), fun k h0 hk hn hb => ?_⟩
  have := par_lt h0
  omega
theorem init_leaf (f : Nat → α) (n i : Nat) (h : n ≤ 2 * i + 1) : HeapFrom lt f n i := by
  intro k h0 hk hb
  unfold par at hb
  omega
/-- lists: two places changed for each other -/
def swL (l : List α) (i j : Nat) : List α := match l[i]?, l[j]? with
  | some x, some y => (l.set i y).set j x
  | _, _ => l
def fn (l : List α) (d : α) (k : Nat) : α := l.getD k d
theorem swL_eq {l : List α} {i j : Nat} {x y : α} (hi : l[i]? = some x) (hj : l[j]? = some y) : swL l i j = (l.set i y).set j x := by
  unfold swL
  rw [hi, hj]
theorem swL_len (l : List α) (i j : Nat) : (swL l i j).length = l.length := by
  unfold swL
  split <;> simp
theorem swL_fn {l : List α} {d : α} {i j : Nat} (hi : i < l.length) (hj : j < l.length) : fn (swL l i j) d = sw (fn l d) i j := by
  funext k
  rw [swL_eq (List.getElem?_eq_getElem hi) (List.getElem?_eq_getElem hj)]
  unfold fn sw
  simp only [List.getD_eq_getElem?_getD, List.getElem?_set, List.length_set]
  by_cases h1 : k = i
  · subst h1
    by_cases h2 : k = j
    · subst h2
      simp [hi]
    · have h3 : ¬ j = k := fun e => h2 e.symm
      simp [hi, hj, h3]
  · by_cases h2 : k = j
    · subst h2
      simp [hi, hj, h1]
    · simp [h1, h2, Ne.symm h1, Ne.symm h2]
theorem set_perm {l : List α} {i : Nat} {x y : α} (h : l[i]? = some x) : (x :: l.set i y).Perm (y :: l) := by
  induction l generalizing i with
  | nil => cases h
  | cons a l ih =>
    cases i with
    | zero =>
      simp only [List.getElem?_cons_zero, Option.some.injEq] at h
      subst h
      exact List.Perm.swap _ _ _
    | succ i =>
      simp only [List.getElem?_cons_succ] at h
      simp only [List.set_cons_succ]
      exact (List.Perm.swap _ _ _).trans (((ih h).cons a).trans (List.Perm.swap _ _ _))
theorem swL_perm (l : List α) (i j : Nat) : (swL l i j).Perm l := by
  unfold swL
  split
  · rename_i x y hx hy
    by_cases q : i = j
    · subst q
      rw [hx] at hy
      injection hy with hy
      subst hy
      have hlt := (List.getElem?_eq_some_iff.1 hx)
      obtain ⟨hl, hv⟩ := hlt
      rw [List.set_set, ← hv, List.set_getElem_self]
    · have h1 := set_perm (y := y) hx
      have h2 : (l.set i y)[j]? = some y := by rw [List.getElem?_set_ne q]; exact hy
      have h3 := set_perm (y := x) h2
      exact ((List.perm_cons y).1 (h3.trans h1))
  · exact List.Perm.refl _
end Go.Proofs.Ytmkafoidfgaokaa.Hp
