/- state does what the law's walks ask. Over the translation. -/
import Derived.Test.YtgjhmpmjbedjoaaQZPu
import Derived.Test.YtgjhmpmjbedjoaaQZOf
import Derived.Test.YtgjhmpmjbedjoaaQB1
namespace Go.Proofs.Ytgjhmpmjbedjoaa
open Go.RowKit Apo
set_option maxRecDepth 100000 in
theorem st_do : StDo where
  new := new17
  right := right17
  find := by
    rintro ⟨s, ra, rc, ma, mc, ca, cc⟩ id w h
    have hb2 : s.md.length ≤ 9223372036854775807 := by have := h.ml; simp only at this; unfold maxLen at this; omega
    exact find_of (.string s.hd) (.int .u64 s.wk) (.int .u64 s.nx) (.int .u64 s.pd) (.slice ra s.rf.length rc) (.slice ca s.cl.length cc) ma mc s.md id w h.mr hb2
  put := put_state
  of := fun a cap b w hr _ hn hb hl => pof_state a cap b w hr hn hb hl
  same := same_state
end Go.Proofs.Ytgjhmpmjbedjoaa
