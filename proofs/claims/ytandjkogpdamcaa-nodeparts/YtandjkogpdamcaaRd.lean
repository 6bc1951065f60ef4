/- A slice of whole numbers that is only read: what its cells hold, whatever its address; small lemmas on lists. No Go text is named here. -/
import Derived.Test.YtandjkogpdamcaaMath
import Derived.WalkKit
import Derived.WalkSpells
import Derived.WalkLawsBesides
import Derived.OpenShut
namespace Apo
open Go Go.RowKit

/-- the slice's cells, from its address on, hold the numbers 'l' -/
def Rd (k : IntKind) (w : World) (a : Option Addr) (l : List Int) : Prop :=
  ∀ i, i < l.length → ∃ b off, a = some ⟨b, off, none⟩ ∧ w.cell? ⟨b, off + i, none⟩ = some (.int k (l.getD i 0))

theorem Rd.nil (k : IntKind) (w : World) (a : Option Addr) : Rd k w a [] := fun i h => by simp at h

theorem Rd.at {k : IntKind} {w : World} {a : Option Addr} {l : List Int} (h : Rd k w a l) {i : Nat} (hi : i < l.length) :
    ∃ b off z, a = some ⟨b, off, none⟩ ∧ w.cell? ⟨b, off + i, none⟩ = some (.int k z) ∧ Hid (l[i]? = some z) ∧ z ∈ l := by
  obtain ⟨b, off, ha, hc⟩ := h i hi
  refine ⟨b, off, l[i], ha, ?_, List.getElem?_eq_getElem hi, List.getElem_mem hi⟩
  rw [hc]; simp [List.getD, List.getElem?_eq_getElem hi]

theorem Rd.below {k : IntKind} {w w' : World} {a : Option Addr} {l : List Int} (h : Rd k w a l) (hb : Below w.heap.size w w') : Rd k w' a l := by
  intro i hi
  obtain ⟨b, off, ha, hc⟩ := h i hi
  have hlt := World.block_lt_of_cell? w _ hc
  exact ⟨b, off, ha, (hb.cell (by exact hlt)).trans hc⟩

theorem take_snoc {l : List Int} {i : Nat} {z : Int} (h : l[i]? = some z) : l.take (i + 1) = l.take i ++ [z] := by
  rw [List.take_add_one, h]; rfl

theorem encs_take {l : List Int} {i : Nat} {z : Int} (h : l[i]? = some z) : encs (l.take (i + 1)) = encs (l.take i) ++ enc z.toNat := by
  rw [take_snoc h, encs_snoc]

/-- cells at an address, for the law of append -/
theorem Rd.news {k : IntKind} {w : World} {x : Addr} {l : List Int} (h : Rd k w (some x) l) : ∀ j u, (l.map (Value.int k))[j]? = some u → w.cell? (x.add j) = some u := by
  intro j u hu
  have hj : j < l.length := by
    rcases Nat.lt_or_ge j l.length with h | h
    · exact h
    · simp [List.getElem?_eq_none h] at hu
  obtain ⟨b, off, ha, hc⟩ := h j hj
  cases ha
  have hplain : (⟨b, off, none⟩ : Addr).add j = ⟨b, off + j, none⟩ := by unfold Addr.add; split <;> simp_all
  rw [hplain, hc]
  simp [List.getElem?_eq_getElem hj] at hu
  subst hu
  simp [List.getD, List.getElem?_eq_getElem hj]

/-- a row that the call owns is read so -/
theorem Rd.own {k : IntKind} {w : World} {base e : Nat} {a : Option Addr} {len cap n : Nat} {l : List Int} (h : w.ownsRow base e 1 (.slice a len cap) n (l.map (Value.int k))) : Rd k w a l ∧ len = l.length ∧ n = l.length := by
  have hn : l.length = n := by simpa using h.1
  rcases h.2 with ⟨hv, hz⟩ | ⟨g, c, cur, hv, _⟩
  · cases hv
    have : l = [] := List.eq_nil_of_length_eq_zero (by omega)
    subst this
    exact ⟨Rd.nil _ _ _, rfl, by omega⟩
  · cases hv
    refine ⟨fun i hi => ⟨g, 0, rfl, ?_⟩, by omega, by omega⟩
    have := h.cellAt i (by omega)
    rw [Nat.zero_add, this]
    simp [List.getElem?_eq_getElem hi, List.getD]
end Apo
