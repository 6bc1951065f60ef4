/- The program's Key, Val and ends of layer 9, over the translation. -/
import Derived.Test.YtandjkogpdamcaaNdM
import Derived.Test.YtandjkogpdamcaaObj
import Derived.Test.YtandjkogpdamcaaApn
namespace Go.Proofs.Ytandjkogpdamcaa
open Go.RowKit Apo
set_option maxRecDepth 100000 in
theorem key_any (k : ByteArray) (w : World) (hk : k.size ≤ 9223372036854775807) : Calls Try.prog 24 #[.string k] w fun e w' => e = .returned (.int .i64 (keyE k)) ∧ w = w' := by
  unfold keyE
  by_cases h1 : k.size < 1
  · have d1 : ((k.size : Int) == 0) = true := by rw [beq_iff_eq]; omega
    have d2 : (k.size == 0) = true := by rw [beq_iff_eq]; omega
    rw [if_pos (.inl h1)]
    go_enter Try.func24, Try.ntmps24
    go_wp2
    go_ret
    exact ⟨rfl, rfl⟩
  · have d1 : ((k.size : Int) == 0) = false := by rw [beq_eq_false_iff_ne]; omega
    have d1n : (k.size == 0) = false := by rw [beq_eq_false_iff_ne]; omega
    by_cases h2 : 40 < k.size
    · have d2 : decide ((40 : Int) < (k.size : Int)) = true := by simp; omega
      have d2n : decide (40 < k.size) = true := by simp; omega
      rw [if_pos (.inr h2)]
      go_enter Try.func24, Try.ntmps24
      go_wp2
      go_ret
      exact ⟨rfl, rfl⟩
    · have d2 : decide ((40 : Int) < (k.size : Int)) = false := by simp; omega
      have d2n : decide (40 < k.size) = false := by simp; omega
      rw [if_neg (by omega)]
      go_enter Try.func24, Try.ntmps24
      go_wp2
      go_ret
      exact ⟨rfl, rfl⟩
set_option maxRecDepth 100000 in
theorem val_any (v : ByteArray) (w : World) (hk : v.size ≤ 9223372036854775807) : Calls Try.prog 26 #[.string v] w fun e w' => e = .returned (.int .i64 (valE v)) ∧ w = w' := by
  unfold valE
  by_cases h2 : 200 < v.size
  · have d2 : decide ((200 : Int) < (v.size : Int)) = true := by simp; omega
    rw [if_pos h2]
    go_enter Try.func26, Try.ntmps26
    go_wp2
    go_ret
    exact ⟨rfl, rfl⟩
  · have d2 : decide ((200 : Int) < (v.size : Int)) = false := by simp; omega
    rw [if_neg h2]
    go_enter Try.func26, Try.ntmps26
    go_wp2
    go_ret
    exact ⟨rfl, rfl⟩
set_option maxRecDepth 100000 in
theorem endsN_any (lv : Int) (k : ByteArray) (w : World) (hk : k.size ≤ 1099511627776) : Calls Try.prog 46 #[.int .i64 lv, .string k] w fun e w' => e = .returned (.bool (endsN lv k)) ∧ Below w.heap.size w w' := by
  unfold endsN
  have C := ends_any lv k w hk
  cases h : decide (lv < 20)
  · go_enter Try.func46, Try.ntmps46
    go_wp2
    go_ret
    exact ⟨rfl, Below.refl _ _⟩
  · go_enter Try.func46, Try.ntmps46
    go_wp2_with fail
    refine C.mono ?_
    rintro e w1 ⟨rfl, b1⟩
    have HB := hide b1
    clear b1
    go_wp2
    go_ret
    exact ⟨by simp, HB.out⟩
end Go.Proofs.Ytandjkogpdamcaa
