/- slices.Sort, then slices.Compact, of a row of texts: as contracts over rows. -/
import Derived.Test.YtoneedobhopkkaaMCp
import Derived.Test.YtoneedobhopkkaaMLy
import Derived.Sort.OwnSorted
import Derived.Sort.Grow
import Derived.Lib.OwnBridge
namespace Go.Proofs.Ytoneedobhopkkaa
open Go.RowKit Go.Shelf Go.Sort Apo
theorem tx_enc (l : List ByteArray) : gcells cTx l = (l.map toL).map encStr := by
  rw [List.map_map]
  unfold gcells
  induction l with
  | nil => rfl
  | cons x l ih => rw [List.flatMap_cons, ih]; rfl
theorem enc_tx (l : List (List UInt8)) : l.map encStr = gcells cTx (l.map toB) := by
  have h : (l.map toB).map toL = l := by rw [List.map_map, show toL ∘ toB = id from rfl, List.map_id]
  rw [tx_enc, h]
/-- behind the sort -/
def SoP (l : List ByteArray) (a : Option Addr) (c B : Nat) (w w' : World) : Prop := Row (fun g => B ≤ g) w' 9 1 (.slice a l.length c) l.length (gcells cTx (((l.map toL).mergeSort fun x y => decide (x ≤ y)).map toB)) ∧ Below B w w'
set_option maxRecDepth 100000 in
theorem ssort_any (w : World) (B : Nat) (hB : B ≤ w.heap.size) (a : Option Addr) (c : Nat) (l : List ByteArray) (hl : l.length ≤ 100000000) (h : Row (fun g => B ≤ g) w 9 1 (.slice a l.length c) l.length (gcells cTx l)) :
    Calls Try.prog 29 #[.slice a l.length c] w fun e w' => e = .returned (.tuple #[]) ∧ SoP l a c B w w' := by
  have hlen : ((l.map toL).mergeSort fun x y => decide (x ≤ y)).length = (l.map toL).length := List.length_mergeSort _
  rcases h.1.2 with ⟨h0, hz⟩ | ⟨g, cap, cur, hv, hbase, hb, h1, h2, h3, h4⟩
  · cases l with
    | cons x l => simp at hz
    | nil =>
      refine (Any.slices_Sort_string_none Try.laysSort a c w).mono ?_
      rintro e w' ⟨rfl, rfl⟩
      exact ⟨rfl, by simpa using h, Below.refl _ _⟩
  · cases hv
    have hH := holds_of_block (ss := l.map toL) hb (by rw [List.length_map, ← tx_enc]; rw [Nat.mul_one] at h4; exact h4)
    have hg : g < w.heap.size := (Array.getElem?_eq_some_iff.1 hb).1
    have C := Any.slices_Sort_string Try.laysSort g 0 c (l.map toL) w hH hg (by rw [List.length_map]; omega)
    rw [List.length_map] at C
    refine C.mono ?_
    rintro e w' ⟨rfl, n, os, rfl⟩
    have hs := ownsRow_sorted (n := n) (os := os) (ts := (l.map toL).mergeSort fun x y => decide (x ≤ y)) hlen (Nat.zero_le g) hb (by rw [List.length_map]; exact h1) h2 h3
    rw [List.length_map, enc_tx] at hs
    exact ⟨rfl, ⟨hs, h.2⟩, (Below.refl B w).grown (grownBy_sorted _) hB (fun j hj => by cases hj; exact h.2 _ rfl)⟩
set_option maxRecDepth 100000 in
theorem scompact_any (w : World) (B : Nat) (hB : B ≤ w.heap.size) (a : Option Addr) (c : Nat) (l : List ByteArray) (zs : List (List UInt8)) (hz : zs.length = l.length) (hl : l.length ≤ 100000000) (h : Row (fun g => B ≤ g) w 9 1 (.slice a l.length c) l.length (gcells cTx (zs.map toB))) :
    Calls Try.prog 30 #[.slice a l.length c] w fun e w' => e = .returned (.slice a (Lib.compact zs).length c) ∧ Row (fun g => B ≤ g) w' 9 1 (.slice a (Lib.compact zs).length c) (Lib.compact zs).length (gcells cTx ((Lib.compact zs).map toB)) ∧ Below B w w' := by
  have hle := Lib.compact_length_le zs
  rcases h.1.2 with ⟨h0, hz0⟩ | ⟨g, cap, cur, hv, hbase, hb, h1, h2, h3, h4⟩
  · cases l with
    | cons x l => simp at hz0
    | nil =>
      have : zs = [] := List.eq_nil_of_length_eq_zero hz
      subst this
      refine (Any.slices_Compact_string_empty Try.laysCompact a c w).mono ?_
      rintro e w' ⟨rfl, rfl⟩
      have hc : Lib.compact ([] : List (List UInt8)) = [] := rfl
      rw [hc]
      exact ⟨rfl, by simpa using h, Below.refl _ _⟩
  · cases hv
    have hH := holds_of_block (ss := zs) hb (by rw [enc_tx, hz]; rw [Nat.mul_one] at h4; exact h4)
    have C := Any.slices_Compact_string Try.laysCompact g 0 c zs w hH (by omega) (by omega)
    rw [hz] at C
    refine C.mono ?_
    rintro e w' ⟨rfl, q, rfl⟩
    have hrow := h.1
    rw [← enc_tx] at hrow
    have hc := Lib.ownsRow_putRow (q := q) (k := (Lib.compact zs).length) (ys := Lib.compact zs ++ List.replicate (l.length - (Lib.compact zs).length) []) hrow (by simp; omega) (by omega)
    rw [List.take_left, enc_tx] at hc
    exact ⟨rfl, ⟨hc, fun k hk => by cases hk; exact h.2 _ rfl⟩, Lib.below_putRow (Below.refl B w) (h.2 _ rfl)⟩
end Go.Proofs.Ytoneedobhopkkaa
