/- Texts sorted, each once: pure. -/
import Derived.Test.YtoneedobhopkkaaDKe
import Derived.Sort.Walk0
import Derived.Lib.RowBridge
namespace Go.Proofs.Ytoneedobhopkkaa
open Go.RowKit Apo
def toB (l : List UInt8) : ByteArray := ⟨l.toArray⟩
def toL (b : ByteArray) : List UInt8 := b.data.toList
theorem toB_toL (b : ByteArray) : toB (toL b) = b := rfl
theorem toL_toB (l : List UInt8) : toL (toB l) = l := rfl
theorem sLt_toB (x y : List UInt8) : sLt (toB x) (toB y) = decide (x < y) := by
  unfold sLt
  rw [Lib.toList_data, Lib.toList_data, bytesLess_eq]
  rfl
theorem le_iff (x y : List UInt8) : x ≤ y ↔ sLt (toB y) (toB x) = false := by
  rw [sLt_toB, decide_eq_false_iff_not]
  rfl
theorem toB_inj {x y : List UInt8} (h : toB x = toB y) : x = y := by
  have := congrArg toL h
  exact this
theorem le_tr {x y z : List UInt8} (h1 : x ≤ y) (h2 : y ≤ z) : x ≤ z := by
  rw [le_iff] at h1 h2 ⊢
  cases q : sLt (toB z) (toB x) with
  | false => rfl
  | true =>
    cases q2 : sLt (toB x) (toB y) with
    | true => exact absurd (sLt_trans q q2) (by rw [h2]; decide)
    | false =>
      have := sLt_conn q2 h1
      rw [this, h2] at q
      cases q
theorem le_tot (x y : List UInt8) : x ≤ y ∨ y ≤ x := by
  rw [le_iff, le_iff]
  cases q : sLt (toB y) (toB x) with
  | false => exact .inl rfl
  | true =>
    right
    cases q2 : sLt (toB x) (toB y) with
    | false => rfl
    | true =>
      have := sLt_trans q q2
      rw [sLt_irr] at this
      cases this
theorem lt_of {x y z : List UInt8} (h1 : x ≤ y) (h2 : y ≤ z) (hne : z ≠ y) : sLt (toB x) (toB z) = true := by
  rw [le_iff] at h1 h2
  have hyz : sLt (toB y) (toB z) = true := by
    cases q : sLt (toB y) (toB z) with
    | true => rfl
    | false => exact absurd (toB_inj (sLt_conn q h2)).symm hne
  cases q : sLt (toB x) (toB y) with
  | true => exact sLt_trans q hyz
  | false =>
    rw [sLt_conn q h1]
    exact hyz
theorem compact_mem (zs : List (List UInt8)) (x : List UInt8) : x ∈ Lib.compact zs ↔ x ∈ zs := by
  unfold Lib.compact Lib.compactUpTo
  rw [List.mem_map]
  constructor
  · rintro ⟨j, hj, rfl⟩
    rw [List.mem_filter, List.mem_range] at hj
    have hj1 := hj.1
    rw [getElem!_pos zs.toArray j (by simpa using hj1)]
    simp
  · intro hx
    obtain ⟨j, hj, rfl⟩ := List.mem_iff_getElem.1 hx
    clear hx
    induction j with
    | zero => exact ⟨0, by rw [List.mem_filter, List.mem_range]; exact ⟨hj, by simp [Lib.keeps]⟩, by rw [getElem!_pos zs.toArray 0 (by simpa using hj)]; simp⟩
    | succ j ih =>
      by_cases hk : Lib.keeps zs.toArray (j + 1) = true
      · exact ⟨j + 1, by rw [List.mem_filter, List.mem_range]; exact ⟨hj, hk⟩, by rw [getElem!_pos zs.toArray (j + 1) (by simpa using hj)]; simp⟩
      · obtain ⟨i, hi, he⟩ := ih (by omega)
        refine ⟨i, hi, he.trans ?_⟩
        have h2 : zs.toArray[j + 1]! = zs.toArray[j]! := by
          simp only [Lib.keeps, decide_eq_true_eq, not_or, Nat.add_sub_cancel] at hk
          exact Classical.byContradiction (fun q => hk.2 q)
        rw [getElem!_pos zs.toArray (j + 1) (by simpa using hj), getElem!_pos zs.toArray j (by simp; omega)] at h2
        simpa using h2.symm
theorem compact_rise {zs : List (List UInt8)} (h : zs.Pairwise (fun x y => x ≤ y)) : Rise ((Lib.compact zs).map toB) := by
  unfold Rise Lib.compact Lib.compactUpTo
  rw [List.map_map, List.pairwise_map, List.pairwise_filter]
  refine List.Pairwise.imp_of_mem ?_ (List.pairwise_lt_range (n := zs.length))
  intro i j hi hj hij _ hkj
  rw [List.mem_range] at hi hj
  show sLt (toB zs.toArray[i]!) (toB zs.toArray[j]!) = true
  simp only [Lib.keeps, decide_eq_true_eq] at hkj
  rcases hkj with q | q
  · omega
  · rw [getElem!_pos zs.toArray j (by simpa using hj), getElem!_pos zs.toArray (j - 1) (by simp; omega)] at q
    rw [getElem!_pos zs.toArray i (by simpa using hi), getElem!_pos zs.toArray j (by simpa using hj)]
    simp only [List.getElem_toArray] at q ⊢
    have hp := List.pairwise_iff_getElem.1 h
    refine lt_of (y := zs[j - 1]'(by omega)) ?_ (hp (j - 1) j (by omega) hj (by omega)) q
    by_cases e : i = j - 1
    · subst e
      exact (le_tot _ _).elim id id
    · exact hp i (j - 1) hi (by omega) (by omega)
theorem sorted_le (ss : List (List UInt8)) : (ss.mergeSort fun x y => decide (x ≤ y)).Pairwise (fun x y => x ≤ y) := by
  have := List.pairwise_mergeSort (le := fun x y : List UInt8 => decide (x ≤ y)) (fun a b c h1 h2 => decide_eq_true (le_tr (of_decide_eq_true h1) (of_decide_eq_true h2))) (fun a b => by
    rcases le_tot a b with q | q
    · simp [q]
    · simp [q]) ss
  exact this.imp (fun h => of_decide_eq_true h)
/-- texts sorted, each once -/
noncomputable def uniqB (l : List ByteArray) : List ByteArray := (Lib.compact ((l.map toL).mergeSort fun x y => decide (x ≤ y))).map toB
theorem uniqB_ok (l : List ByteArray) : KsS (uniqB l) l := by
  refine ⟨compact_rise (sorted_le _), fun k => ?_, ?_⟩
  · unfold uniqB
    rw [List.mem_map]
    constructor
    · rintro ⟨x, hx, rfl⟩
      rw [compact_mem, List.mem_mergeSort, List.mem_map] at hx
      obtain ⟨y, hy, rfl⟩ := hx
      exact hy
    · intro hk
      refine ⟨toL k, ?_, rfl⟩
      rw [compact_mem, List.mem_mergeSort, List.mem_map]
      exact ⟨k, hk, rfl⟩
  · unfold uniqB
    rw [List.length_map]
    refine Nat.le_trans (Lib.compact_length_le _) ?_
    rw [List.length_mergeSort, List.length_map]
    exact Nat.le_refl _
end Go.Proofs.Ytoneedobhopkkaa
