/- Supers in memory, small facts. -/
import Derived.Test.YtdpbkmbegjcgjaaSAw
import Derived.Test.YtdpbkmbegjcgjaaObj
namespace Go.Proofs.Ytdpbkmbegjcgjaa
open Go.RowKit Apo

theorem ob_sup (w : World) (s : Sup) : Ob (w.alloc (.cells #[.int .u64 s.e, .int .u32 s.st, .int .u32 s.pg, .int .u32 s.sz] 25)) w.heap.size 25 s.cells := Ob.new w s.cells 25
theorem sup_cells {w : World} {p : Nat} {s : Sup} (h : Ob w p 25 s.cells) : w.cell? ⟨p, 0, none⟩ = some (.int .u64 s.e) ∧ w.cell? ⟨p, 1, none⟩ = some (.int .u32 s.st) ∧ w.cell? ⟨p, 2, none⟩ = some (.int .u32 s.pg) ∧ w.cell? ⟨p, 3, none⟩ = some (.int .u32 s.sz) :=
  ⟨h.cell 0, h.cell 1, h.cell 2, h.cell 3⟩
theorem sup_val (s : Sup) : s.val = .agg #[.int .u64 s.e, .int .u32 s.st, .int .u32 s.pg, .int .u32 s.sz] := rfl
end Go.Proofs.Ytdpbkmbegjcgjaa
