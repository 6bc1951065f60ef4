/- Bools that are read; fates and deeds, as they lie in memory. No Go text is named here. -/
import Derived.Test.YtdpbkmbegjcgjaaLit
import Derived.Test.YtdpbkmbegjcgjaaIsr
namespace Apo
open Go Go.RowKit

/-- the slice's cells, from its address on, hold the bools 'l' -/
def RdB (w : World) (a : Option Addr) (l : List Bool) : Prop :=
  ∀ i, i < l.length → ∃ b off, a = some ⟨b, off, none⟩ ∧ w.cell? ⟨b, off + i, none⟩ = some (.bool (l.getD i false))

theorem RdB.nil (w : World) (a : Option Addr) : RdB w a [] := fun i h => by simp at h
theorem RdB.below {w w' : World} {a : Option Addr} {l : List Bool} (h : RdB w a l) (hb : Below w.heap.size w w') : RdB w' a l := by
  intro i hi
  obtain ⟨b, off, ha, hc⟩ := h i hi
  have hlt := World.block_lt_of_cell? w _ hc
  exact ⟨b, off, ha, (hb.cell (by exact hlt)).trans hc⟩

/-- what a crash is told: which writes are kept, which is torn, behind how many bytes; where the bools lie -/
structure Fat where
  keep : List Bool
  ka : Option Addr
  kc : Nat
  torn : Int
  bytes : Int
def Fat.cells (f : Fat) : List Value := [.slice f.ka f.keep.length f.kc, .int .i64 f.torn, .int .i64 f.bytes]
def Fat.val (f : Fat) : Value := .agg f.cells.toArray
structure OkT (w : World) (f : Fat) : Prop where
  rd : RdB w f.ka f.keep
  nil : f.ka = none → f.kc = 0
  len : f.keep.length ≤ maxLen
  t0 : -9223372036854775808 ≤ f.torn
  t1 : f.torn ≤ 9223372036854775807
  b0 : -9223372036854775808 ≤ f.bytes
  b1 : f.bytes ≤ 9223372036854775807
theorem OkT.below {w w' : World} {f : Fat} (h : OkT w f) (hb : Below w.heap.size w w') : OkT w' f := { h with rd := h.rd.below hb }

/-- a deed -/
structure Dd where
  k : Int
  at' : Int
  b : List Int
  ba : Option Addr
  bc : Nat
  n : Int
  f : Fat
structure OkD (w : World) (d : Dd) : Prop where
  rd : Rd .u8 w d.ba d.b
  nil : d.ba = none → d.bc = 0
  len : d.b.length ≤ maxLen
  byt : ∀ z ∈ d.b, 0 ≤ z ∧ z ≤ 255
  k0 : -9223372036854775808 ≤ d.k
  k1 : d.k ≤ 9223372036854775807
  a0 : -9223372036854775808 ≤ d.at'
  a1 : d.at' ≤ 9223372036854775807
  n0 : -9223372036854775808 ≤ d.n
  n1 : d.n ≤ 9223372036854775807
  fat : OkT w d.f
theorem OkD.below {w w' : World} {d : Dd} (h : OkD w d) (hb : Below w.heap.size w w') : OkD w' d := { h with rd := h.rd.below hb, fat := h.fat.below hb }

/-- the slice's cells, seven a deed, from its address on hold the deeds 'l' -/
def RdD (w : World) (a : Option Addr) (l : List Dd) : Prop :=
  ∀ i d, l[i]? = some d → ∃ b off, a = some ⟨b, off, none⟩ ∧ w.cell? ⟨b, off + i * 7, none⟩ = some (.int .i64 d.k) ∧ w.cell? ⟨b, off + i * 7 + 1, none⟩ = some (.int .i64 d.at') ∧
    w.cell? ⟨b, off + i * 7 + 2, none⟩ = some (.slice d.ba d.b.length d.bc) ∧ w.cell? ⟨b, off + i * 7 + 3, none⟩ = some (.int .i64 d.n) ∧
    w.cell? ⟨b, off + i * 7 + 4, none⟩ = some (.slice d.f.ka d.f.keep.length d.f.kc) ∧ w.cell? ⟨b, off + i * 7 + 5, none⟩ = some (.int .i64 d.f.torn) ∧ w.cell? ⟨b, off + i * 7 + 6, none⟩ = some (.int .i64 d.f.bytes) ∧ OkD w d

theorem RdD.nil (w : World) (a : Option Addr) : RdD w a [] := fun i d h => by simp at h
theorem RdD.below {w w' : World} {a : Option Addr} {l : List Dd} (h : RdD w a l) (hb : Below w.heap.size w w') : RdD w' a l := by
  intro i d hi
  obtain ⟨b, off, ha, c0, c1, c2, c3, c4, c5, c6, ok⟩ := h i d hi
  have hlt := World.block_lt_of_cell? w _ c0
  exact ⟨b, off, ha, (hb.cell (by exact hlt)).trans c0, (hb.cell (by exact hlt)).trans c1, (hb.cell (by exact hlt)).trans c2, (hb.cell (by exact hlt)).trans c3, (hb.cell (by exact hlt)).trans c4, (hb.cell (by exact hlt)).trans c5, (hb.cell (by exact hlt)).trans c6, ok.below hb⟩
instance : Inhabited Fat := ⟨⟨[], none, 0, 0, 0⟩⟩
instance : Inhabited Dd := ⟨⟨0, 0, [], none, 0, 0, default⟩⟩
end Apo
