/- Slices that the call itself made, turned into strings. -/
import Derived.Test.YtandjkogpdamcaaLi0
namespace Go.Proofs.Ytandjkogpdamcaa
open Go.RowKit Apo

theorem conv_own {w : World} {base : Nat} {v : Value} {n : Nat} {l : List Int} (h : w.ownsRow base 5 1 v n (l.map (Value.int .u8))) :
    ∀ wx, Below w.heap.size w wx → (convert 26 9 v).run Try.prog wx = .ok (.string (strOfNums l)) wx := by
  intro wx hb
  obtain ⟨a, cap, hv⟩ : ∃ a cap, v = .slice a n cap := by
    rcases h.2 with ⟨rfl, hz⟩ | ⟨g, cap, cur, rfl, _⟩
    · exact ⟨none, 0, by rw [hz]⟩
    · exact ⟨_, cap, rfl⟩
  subst hv
  obtain ⟨hr, hl, _⟩ := Rd.own h
  rw [hl]
  exact (hr.below hb).conv 26 5 9 Try.underlying26 Try.underlying5 Try.underlying9 cap

end Go.Proofs.Ytandjkogpdamcaa
