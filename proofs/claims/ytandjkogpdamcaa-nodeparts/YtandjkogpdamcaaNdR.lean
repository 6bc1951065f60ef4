/- The document's Key, Val, Ends and Node, over the translation. -/
import Derived.Test.YtandjkogpdamcaaNdM
import Derived.Test.YtandjkogpdamcaaObj
import Derived.Test.YtandjkogpdamcaaApn
import Derived.Shelf.SlSorted.Search
namespace Go.Proofs.Ytandjkogpdamcaa
open Go.RowKit Apo
set_option maxRecDepth 100000 in
theorem rkey_any (k : ByteArray) (w : World) (hk : k.size ≤ 9223372036854775807) : Calls Try.prog 25 #[.string k] w fun e w' => e = .returned (.int .i64 (keyE k)) ∧ w = w' := by
  unfold keyE
  by_cases h1 : k.size < 1
  · have d1 : decide ((k.size : Int) < 1) = true := by simp; omega
    rw [if_pos (.inl h1)]
    go_enter Try.func25, Try.ntmps25
    go_wp2
    go_ret
    exact ⟨rfl, rfl⟩
  · have d1 : decide ((k.size : Int) < 1) = false := by simp; omega
    by_cases h2 : 40 < k.size
    · have d2 : decide ((40 : Int) < (k.size : Int)) = true := by simp; omega
      rw [if_pos (.inr h2)]
      go_enter Try.func25, Try.ntmps25
      go_wp2
      go_ret
      exact ⟨rfl, rfl⟩
    · have d2 : decide ((40 : Int) < (k.size : Int)) = false := by simp; omega
      rw [if_neg (by omega)]
      go_enter Try.func25, Try.ntmps25
      go_wp2
      go_ret
      exact ⟨rfl, rfl⟩
set_option maxRecDepth 100000 in
theorem rval_any (v : ByteArray) (w : World) (hk : v.size ≤ 9223372036854775807) : Calls Try.prog 27 #[.string v] w fun e w' => e = .returned (.int .i64 (valE v)) ∧ w = w' := by
  unfold valE
  by_cases h2 : 200 < v.size
  · have d2 : decide ((200 : Int) < (v.size : Int)) = true := by simp; omega
    rw [if_pos h2]
    go_enter Try.func27, Try.ntmps27
    go_wp2
    go_ret
    exact ⟨rfl, rfl⟩
  · have d2 : decide ((200 : Int) < (v.size : Int)) = false := by simp; omega
    rw [if_neg h2]
    go_enter Try.func27, Try.ntmps27
    go_wp2
    go_ret
    exact ⟨rfl, rfl⟩
set_option maxRecDepth 100000 in
theorem rendsN_any (lv : Int) (k : ByteArray) (w : World) (hk : k.size ≤ 1099511627776) : Calls Try.prog 28 #[.int .i64 lv, .string k] w fun e w' => e = .returned (.bool (endsN lv k)) ∧ Below w.heap.size w w' := by
  unfold endsN
  have C := rends_any lv k w hk
  cases h : decide (lv < 20)
  · go_enter Try.func28, Try.ntmps28
    go_wp2
    go_ret
    exact ⟨rfl, Below.refl _ _⟩
  · go_enter Try.func28, Try.ntmps28
    go_wp2_with fail
    refine C.mono ?_
    rintro e w1 ⟨rfl, b1⟩
    have HB := hide b1
    clear b1
    go_wp2
    go_ret
    exact ⟨by simp, HB.out⟩
end Go.Proofs.Ytandjkogpdamcaa
