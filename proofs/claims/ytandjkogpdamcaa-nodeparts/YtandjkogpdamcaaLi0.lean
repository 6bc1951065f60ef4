/- Slices that the call itself made, and slices that are cut, as the walks read them. -/
import Derived.Test.YtandjkogpdamcaaRows
import Derived.Test.YtandjkogpdamcaaStr
namespace Go.Proofs.Ytandjkogpdamcaa
open Go.RowKit Apo

theorem hide {p : Prop} (h : p) : Hid p := h

theorem own_len {w : World} {base e : Nat} {v : Value} {n : Nat} {xs : List Value} (h : w.ownsRow base e 1 v n xs) :
    ∃ a cap, v = .slice a n cap := by
  rcases h.2 with ⟨rfl, hz⟩ | ⟨g, cap, cur, rfl, _⟩
  · exact ⟨none, 0, by rw [hz]⟩
  · exact ⟨_, cap, rfl⟩

theorem own_form {w : World} {base e : Nat} {v : Value} {n : Nat} {xs : List Value} (h : w.ownsRow base e 1 v n xs) :
    ∃ a cap, v = .slice a n cap ∧ n ≤ cap ∧ (a = none → cap = 0) := by
  rcases h.2 with ⟨rfl, hz⟩ | ⟨g, cap, cur, rfl, _, _, hnc, _⟩
  · exact ⟨none, 0, by rw [hz], by omega, fun _ => rfl⟩
  · exact ⟨_, cap, rfl, hnc, by simp⟩

theorem own_shape {w : World} {base e : Nat} {v : Value} {n : Nat} {xs : List Value} (h : w.ownsRow base e 1 v n xs) (hp : 0 < n) :
    ∃ g cap, v = .slice (some ⟨g, 0, none⟩) n cap ∧ base ≤ g ∧ g < w.heap.size ∧ n ≤ cap ∧ ∀ j, j < n → w.cell? ⟨g, j, none⟩ = xs[j]? := by
  have h' := h
  rcases h.2 with ⟨_, hz⟩ | ⟨g, cap, cur, rfl, hb, _, hnc, _⟩
  · omega
  · exact ⟨g, cap, rfl, hb, (h'.lt g rfl).2, hnc, fun j hj => h'.cellAt j (by omega)⟩

theorem rd_lit1 (k : IntKind) (w : World) (t : TypeId) (x : Int) : Rd k (w.alloc (.cells #[.int k x] t)) (some ⟨w.heap.size, 0, none⟩) [x] := by
  intro i hi
  have : i = 0 := by simpa using hi
  subst this
  exact ⟨_, _, rfl, by simp⟩

theorem rd_lit2 (k : IntKind) (w : World) (t : TypeId) (x y : Int) : Rd k (w.alloc (.cells #[.int k x, .int k y] t)) (some ⟨w.heap.size, 0, none⟩) [x, y] := by
  intro i hi
  have hi' : i < 2 := by simpa using hi
  refine ⟨_, _, rfl, ?_⟩
  match i, hi' with
  | 0, _ => simp
  | 1, _ => simp

theorem rd_drop {k : IntKind} {w : World} {b off at' : Nat} {l : List Int} (h : Rd k w (some ⟨b, off, none⟩) l) : Rd k w (some ⟨b, off + at', none⟩) (l.drop at') := by
  intro i hi
  rw [List.length_drop] at hi
  obtain ⟨b', off', ha, hc⟩ := h (at' + i) (by omega)
  cases ha
  refine ⟨b, off + at', rfl, ?_⟩
  rw [Nat.add_assoc, hc]
  simp [List.getD]

theorem Rd.take {k : IntKind} {w : World} {a : Option Addr} {l : List Int} (h : Rd k w a l) (m : Nat) : Rd k w a (l.take m) := by
  intro i hi
  have hi2 : i < m ∧ i < l.length := by simp at hi; omega
  obtain ⟨b, off, ha, hc⟩ := h i hi2.2
  refine ⟨b, off, ha, ?_⟩
  rw [hc]
  simp [List.getD, hi2.1]
end Go.Proofs.Ytandjkogpdamcaa
