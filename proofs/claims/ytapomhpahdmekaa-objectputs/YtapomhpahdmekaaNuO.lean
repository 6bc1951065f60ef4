/- The document's Num and Text behind a row that somebody owns: nothing else is changed. Over the translation. -/
import Derived.Test.YtapomhpahdmekaaLPt
import Derived.Test.YtapomhpahdmekaaGBa
import Derived.Maps.AppendAt
namespace Go.Proofs.Ytapomhpahdmekaa
open Go.RowKit Apo
attribute [local go_sem ↓] Apo.app_exec
set_option maxRecDepth 100000 in
theorem row_grown {O : Nat → Prop} {w wr w1 w3 : World} {v v3 : Value} {n n3 : Nat} {xs xs3 : List Value} {e : TypeId} (hr : Row (Gro O w wr) wr e 1 v n xs) (o : Onl O w wr) (b : Below wr.heap.size wr w1) (h3 : w3.ownsRow 0 e 1 v3 n3 xs3) (g3 : w1.grownBy w3 v.ownBlock) (hl : v3.ownBlock = v.ownBlock ∨ v3.ownBlock = some w1.heap.size) : Row (Gro O w w3) w3 e 1 v3 n3 xs3 ∧ Onl O w w3 := by
  have s1 := o.size
  have s2 := b.size
  have s3 := g3.size
  refine ⟨⟨h3, fun g hg => ?_⟩, ?_⟩
  · rcases hl with q | q
    · rw [q] at hg
      rcases hr.2 g hg with z | z
      · exact .inl z
      · exact .inr (by omega)
    · have := (h3.lt g hg).2
      rw [q] at hg
      cases hg
      exact .inr (by omega)
  · exact (o.trans (Onl.ofBelow b)).grown g3 (fun k hk => by
      rcases hr.2 k hk with z | z
      · exact .inl z
      · exact .inr z.1)
end Go.Proofs.Ytapomhpahdmekaa
