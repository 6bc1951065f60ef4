/- A reader that is made. -/
import Derived.Test.YtapomhpahdmekaaKRe
namespace Go.Proofs.Ytapomhpahdmekaa
open Go Go.RowKit Apo
def blockOf (a : Option Addr) (l : List Int) (p : Nat) : Nat := match a, l with | some x, _ :: _ => x.block | _, _ => p

theorem rr_new {w : World} {a : Option Addr} {cap : Nat} {l : List Int} (t : TypeId) (hr : Rd .u8 w a l) (hcap : l.length ≤ cap) (hn : a = none → cap = 0) (hb : InB l) (hl : l.length ≤ 1099511627776) :
    Rr (w.alloc (.cells #[.slice a l.length cap, .bool false] t)) w.heap.size t (blockOf a l w.heap.size) (some l) := by
  refine ⟨a, cap, Ob.new w [.slice a l.length cap, .bool false] t, hr.below ((Below.refl _ _).alloc (Nat.le_refl _) _), hcap, hn, fun x hx h0 => ?_, hb, hl⟩
  subst hx
  have := hr.lt h0
  cases l with
  | nil => simp at h0
  | cons _ _ => exact ⟨rfl, by omega, by simp; omega⟩
end Go.Proofs.Ytapomhpahdmekaa
