/- A slice of whole numbers that came in, as the walks read it. No Go text is named here. -/
import Derived.Test.YtandjkogpdamcaaRd
namespace Apo
open Go Go.RowKit

theorem rd_of_row {k : IntKind} {w : World} {a : Option Addr} {len cap : Nat} {zs : List Int}
    (h : (a = none ∧ len = 0 ∧ cap = 0 ∧ zs = []) ∨
      ∃ x, a = some x ∧ len ≤ cap ∧ cap ≤ maxLen ∧ zs.length = cap ∧ (∀ i, i < zs.length → w.cell? (x.add i) = some (.int k (zs.getD i 0))) ∧ ∀ n ∈ zs, (Lit.int k n).wf = true) :
    ∃ l : List Int, l.length = len ∧ Rd k w a l ∧ (a = none → cap = 0) ∧ ∀ n ∈ l, (Lit.int k n).wf = true := by
  rcases h with ⟨rfl, rfl, rfl, rfl⟩ | ⟨x, rfl, h1, _, h3, h4, h5⟩
  · exact ⟨[], rfl, Rd.nil _ _ _, fun _ => rfl, by simp⟩
  · refine ⟨zs.take len, by simp; omega, ?_, by simp, fun n hn => h5 n (List.mem_of_mem_take hn)⟩
    intro i hi
    have hi' : i < len := by simp at hi; omega
    obtain ⟨b, off, rfl, hc⟩ := ints_at h4 (by omega)
    refine ⟨b, off, rfl, ?_⟩
    rw [hc i (by omega)]
    congr 2
    simp [List.getD, hi']

theorem inU_of_wf {l : List Int} (h : ∀ n ∈ l, (Lit.int .u64 n).wf = true) : InU l := fun z hz => by
  have := bounds_u64 (h z hz); omega
theorem inB_of_wf {l : List Int} (h : ∀ n ∈ l, (Lit.int .u8 n).wf = true) : ∀ z ∈ l, 0 ≤ z ∧ z ≤ 255 := fun z hz => by
  have := bounds_u8 (h z hz); omega
end Apo
