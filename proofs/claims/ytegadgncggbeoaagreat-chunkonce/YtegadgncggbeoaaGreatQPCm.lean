/- Commit of the program's Pager. Over the translation. -/
import Derived.BigRegion
import Derived.Test.YtegadgncggbeoaaGreatQPPu
import Derived.Test.YtegadgncggbeoaaGreatQCSa
namespace Apo
open Go Go.RowKit

theorem put_C (c : Cg) (st : Sd) (b : List Int) : (c.put st b).2.2.C.length ≤ st.C.length + 4232 := by
  have : ∀ a, (st.wrText2 a b).2.C.length ≤ st.C.length + 4232 := by
    intro a
    unfold Sd.wrText2
    split
    · simp
    · have := layTo_C st a b (needP b.length)
      have := needP_le (b.length : Int)
      omega
  unfold Cg.put
  split
  · simp
  · split
    · simp
    · split
      · simp
      · split
        · exact this _
        · exact this _
end Apo
namespace Go.Proofs.YtegadgncggbeoaaGreat
open Go.RowKit Apo

end Go.Proofs.YtegadgncggbeoaaGreat
