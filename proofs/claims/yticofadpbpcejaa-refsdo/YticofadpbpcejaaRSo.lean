/- Texts sorted: what slices.Sort makes of a row of texts; a table's names. Over the translation. -/
import Derived.Test.YticofadpbpcejaaMLy
import Derived.Test.YticofadpbpcejaaMAp
import Derived.Test.YticofadpbpcejaaRTp
import Derived.Sort.Walk0
import Derived.Lib.RowBridge
import Derived.Sort.OwnSorted
import Derived.Sort.Grow
import Derived.Lib.OwnBridge
namespace Go.Proofs.Yticofadpbpcejaa
open Go.RowKit Go.Shelf Go.Sort Apo
def toB (l : List UInt8) : ByteArray := ⟨l.toArray⟩
def toL (b : ByteArray) : List UInt8 := b.data.toList
theorem toB_toL (b : ByteArray) : toB (toL b) = b := rfl
theorem toL_toB (l : List UInt8) : toL (toB l) = l := rfl
theorem sLt_toB (x y : List UInt8) : sLt (toB x) (toB y) = decide (x < y) := by
  unfold sLt
  rw [Lib.toList_data, Lib.toList_data, bytesLess_eq]
  rfl
theorem le_iff (x y : List UInt8) : x ≤ y ↔ sLt (toB y) (toB x) = false := by
  rw [sLt_toB, decide_eq_false_iff_not]
  rfl
theorem toB_inj {x y : List UInt8} (h : toB x = toB y) : x = y := by
  have := congrArg toL h
  exact this
theorem le_tr {x y z : List UInt8} (h1 : x ≤ y) (h2 : y ≤ z) : x ≤ z := by
  rw [le_iff] at h1 h2 ⊢
  cases q : sLt (toB z) (toB x) with
  | false => rfl
  | true =>
    cases q2 : sLt (toB x) (toB y) with
    | true => exact absurd (sLt_trans q q2) (by rw [h2]; decide)
    | false =>
      have := sLt_conn q2 h1
      rw [this, h2] at q
      cases q
theorem le_tot (x y : List UInt8) : x ≤ y ∨ y ≤ x := by
  rw [le_iff, le_iff]
  cases q : sLt (toB y) (toB x) with
  | false => exact .inl rfl
  | true =>
    right
    cases q2 : sLt (toB x) (toB y) with
    | false => rfl
    | true =>
      have := sLt_trans q q2
      rw [sLt_irr] at this
      cases this
theorem sorted_le (ss : List (List UInt8)) : (ss.mergeSort fun x y => decide (x ≤ y)).Pairwise (fun x y => x ≤ y) := by
  have := List.pairwise_mergeSort (le := fun x y : List UInt8 => decide (x ≤ y)) (fun a b c h1 h2 => decide_eq_true (le_tr (of_decide_eq_true h1) (of_decide_eq_true h2))) (fun a b => by
    rcases le_tot a b with q | q
    · simp [q]
    · simp [q]) ss
  exact this.imp (fun h => of_decide_eq_true h)
theorem tx_enc (l : List ByteArray) : gcells cTx l = (l.map toL).map encStr := by
  rw [List.map_map]
  unfold gcells
  induction l with
  | nil => rfl
  | cons x l ih => rw [List.flatMap_cons, ih]; rfl
theorem enc_tx (l : List (List UInt8)) : l.map encStr = gcells cTx (l.map toB) := by
  have h : (l.map toB).map toL = l := by rw [List.map_map, show toL ∘ toB = id from rfl, List.map_id]
  rw [tx_enc, h]
/-- behind the sort -/
def SoP (l : List ByteArray) (a : Option Addr) (c B : Nat) (w w' : World) : Prop := Row (fun g => B ≤ g) w' 9 1 (.slice a l.length c) l.length (gcells cTx (((l.map toL).mergeSort fun x y => decide (x ≤ y)).map toB)) ∧ Below B w w'
set_option maxRecDepth 100000 in
theorem ssort_any (w : World) (B : Nat) (hB : B ≤ w.heap.size) (a : Option Addr) (c : Nat) (l : List ByteArray) (hl : l.length ≤ 100000000) (h : Row (fun g => B ≤ g) w 9 1 (.slice a l.length c) l.length (gcells cTx l)) :
    Calls Try.prog 33 #[.slice a l.length c] w fun e w' => e = .returned (.tuple #[]) ∧ SoP l a c B w w' := by
  have hlen : ((l.map toL).mergeSort fun x y => decide (x ≤ y)).length = (l.map toL).length := List.length_mergeSort _
  rcases h.1.2 with ⟨h0, hz⟩ | ⟨g, cap, cur, hv, hbase, hb, h1, h2, h3, h4⟩
  · cases l with
    | cons x l => simp at hz
    | nil =>
      refine (Any.slices_Sort_string_none Try.laysSort a c w).mono ?_
      rintro e w' ⟨rfl, rfl⟩
      exact ⟨rfl, by simpa using h, Below.refl _ _⟩
  · cases hv
    have hH := holds_of_block (ss := l.map toL) hb (by rw [List.length_map, ← tx_enc]; rw [Nat.mul_one] at h4; exact h4)
    have hg : g < w.heap.size := (Array.getElem?_eq_some_iff.1 hb).1
    have C := Any.slices_Sort_string Try.laysSort g 0 c (l.map toL) w hH hg (by rw [List.length_map]; omega)
    rw [List.length_map] at C
    refine C.mono ?_
    rintro e w' ⟨rfl, n, os, rfl⟩
    have hs := ownsRow_sorted (n := n) (os := os) (ts := (l.map toL).mergeSort fun x y => decide (x ≤ y)) hlen (Nat.zero_le g) hb (by rw [List.length_map]; exact h1) h2 h3
    rw [List.length_map, enc_tx] at hs
    exact ⟨rfl, ⟨hs, h.2⟩, (Below.refl B w).grown (grownBy_sorted _) hB (fun j hj => by cases hj; exact h.2 _ rfl)⟩
/-- rising texts are told by which they are -/
theorem rise_extB : ∀ {L M : List ByteArray}, L.Pairwise (fun a b => sLt a b = true) → M.Pairwise (fun a b => sLt a b = true) → (∀ z, z ∈ L ↔ z ∈ M) → L = M
  | [], [], _, _, _ => rfl
  | [], y :: M, _, _, h => absurd ((h y).2 (by simp)) (by simp)
  | x :: L, [], _, _, h => absurd ((h x).1 (by simp)) (by simp)
  | x :: L, y :: M, h1, h2, h => by
    obtain ⟨a1, a2⟩ := List.pairwise_cons.1 h1
    obtain ⟨b1, b2⟩ := List.pairwise_cons.1 h2
    have hxy : x = y := by
      rcases List.mem_cons.1 ((h x).1 (by simp)) with q | q
      · exact q
      · rcases List.mem_cons.1 ((h y).2 (by simp)) with r | r
        · exact r.symm
        · have := sLt_trans (a1 y r) (b1 x q)
          rw [sLt_irr] at this
          cases this
    subst hxy
    have hL : ∀ {K : List ByteArray}, (∀ z ∈ K, sLt x z = true) → x ∉ K := fun {K} q r => by
      have := q x r
      rw [sLt_irr] at this
      cases this
    rw [rise_extB a2 b2 (fun z => ⟨fun q => ?_, fun q => ?_⟩)]
    · rcases List.mem_cons.1 ((h z).1 (by simp [q])) with r | r
      · exact absurd (r ▸ q) (hL a1)
      · exact r
    · rcases List.mem_cons.1 ((h z).2 (by simp [q])) with r | r
      · exact absurd (r ▸ q) (hL b1)
      · exact r
/-- keys that are sorted, each once, are the names -/
theorem keys_names {L : List Rf} (h : Nok L) {c : Nat} {xs : List ByteArray} (hx : KeysS (mR L) c xs) : ((xs.map toL).mergeSort fun x y => decide (x ≤ y)).map toB = L.map Rf.n := by
  obtain ⟨h1, h2, h3, _⟩ := hx
  have hm : ∀ z, z ∈ ((xs.map toL).mergeSort fun x y => decide (x ≤ y)).map toB ↔ z ∈ xs := by
    intro z
    rw [List.mem_map]
    constructor
    · rintro ⟨y, hy, rfl⟩
      rw [List.mem_mergeSort, List.mem_map] at hy
      obtain ⟨x, hx, rfl⟩ := hy
      exact hx
    · intro hz
      exact ⟨toL z, by rw [List.mem_mergeSort]; exact List.mem_map_of_mem hz, rfl⟩
  refine rise_extB ?_ ?_ (fun z => ?_)
  · rw [List.pairwise_map]
    have hle := sorted_le (xs.map toL)
    have hnd : ((xs.map toL).mergeSort fun x y => decide (x ≤ y)).Nodup := by
      rw [(List.mergeSort_perm _ _).nodup_iff, List.nodup_iff_pairwise_ne, List.pairwise_map]
      exact (List.nodup_iff_pairwise_ne.1 h1).imp (fun {a b} q e => q (by rw [← toB_toL a, ← toB_toL b, e]))
    refine (hle.and (List.nodup_iff_pairwise_ne.1 hnd)).imp (fun {a b} q => ?_)
    obtain ⟨q1, q2⟩ := q
    rw [le_iff] at q1
    cases r : sLt (toB a) (toB b) with
    | true => rfl
    | false => exact absurd (toB_inj (sLt_conn r q1)) q2
  · rw [List.pairwise_map]
    exact h.ok.rise
  · rw [hm z]
    constructor
    · intro hz
      exact (mR_has z).1 ((h3 z (h2 z hz)).1 hz)
    · intro hz
      exact (h3 z (h.small z hz)).2 ((mR_has z).2 hz)
end Go.Proofs.Yticofadpbpcejaa
