/- Fields: a kind, a number, a text and a flag; their bytes; slices of fields that are read. No Go text is named here. -/
import Derived.Test.YtandjkogpdamcaaApn
namespace Apo
open Go Go.RowKit

structure Fld where
  k : Int
  n : Int
  s : ByteArray
  b : Bool

def Fld.cells (f : Fld) : List Value := [.int .i64 f.k, .int .u64 f.n, .string f.s, .bool f.b]
def Fld.val (f : Fld) : Value := .agg f.cells.toArray

/-- the bytes of a field -/
def fenc (f : Fld) : List Int := if f.k = 1 then enc f.n.toNat else if f.k = 2 then enc f.s.size ++ nums f.s else if f.k = 3 then [if f.b then 1 else 0] else []
def fencs : List Fld → List Int
  | [] => []
  | f :: l => fenc f ++ fencs l

theorem fencs_append (a b : List Fld) : fencs (a ++ b) = fencs a ++ fencs b := by
  induction a with
  | nil => rfl
  | cons f l ih => simp [fencs, ih]
theorem fencs_snoc (a : List Fld) (f : Fld) : fencs (a ++ [f]) = fencs a ++ fenc f := by rw [fencs_append]; simp [fencs]

theorem fenc_len (f : Fld) : (fenc f).length ≤ f.s.size + 10 := by
  unfold fenc
  have h1 := enc_len f.n.toNat
  have h2 := enc_len f.s.size
  have h3 := nums_length f.s
  split
  · omega
  · split
    · rw [List.length_append]; omega
    · split <;> simp

/-- a field whose numbers fit -/
def OkF (f : Fld) : Prop := -9223372036854775808 ≤ f.k ∧ f.k ≤ 9223372036854775807 ∧ 0 ≤ f.n ∧ f.n ≤ 18446744073709551615

/-- the slice's cells, four a field, from its address on hold the fields 'l' -/
def RdF (w : World) (a : Option Addr) (l : List Fld) : Prop :=
  ∀ i f, l[i]? = some f → ∃ b off, a = some ⟨b, off, none⟩ ∧ w.cell? ⟨b, off + i * 4, none⟩ = some (.int .i64 f.k) ∧ w.cell? ⟨b, off + i * 4 + 1, none⟩ = some (.int .u64 f.n) ∧
    w.cell? ⟨b, off + i * 4 + 2, none⟩ = some (.string f.s) ∧ w.cell? ⟨b, off + i * 4 + 3, none⟩ = some (.bool f.b)

theorem RdF.nil (w : World) (a : Option Addr) : RdF w a [] := fun i f h => by simp at h

theorem RdF.below {w w' : World} {a : Option Addr} {l : List Fld} (h : RdF w a l) (hb : Below w.heap.size w w') : RdF w' a l := by
  intro i f hi
  obtain ⟨b, off, ha, c0, c1, c2, c3⟩ := h i f hi
  have hlt := World.block_lt_of_cell? w _ c0
  exact ⟨b, off, ha, (hb.cell (by exact hlt)).trans c0, (hb.cell (by exact hlt)).trans c1, (hb.cell (by exact hlt)).trans c2, (hb.cell (by exact hlt)).trans c3⟩

theorem fencs_len : ∀ {l : List Fld} {m : Nat}, (∀ f ∈ l, f.s.size ≤ m) → (fencs l).length ≤ l.length * (m + 10)
  | [], _, _ => by simp [fencs]
  | f :: l, m, h => by
    have h1 := fenc_len f
    have h2 := h f (by simp)
    have h3 := fencs_len (l := l) (m := m) (fun g hg => h g (by simp [hg]))
    rw [fencs, List.length_append, List.length_cons, Nat.add_mul]
    omega

theorem fencs_take {l : List Fld} {i : Nat} {f : Fld} (h : l[i]? = some f) : fencs (l.take (i + 1)) = fencs (l.take i) ++ fenc f := by
  rw [List.take_add_one, h]
  exact fencs_snoc _ _
end Apo
