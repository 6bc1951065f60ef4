/- What the code's and the document's More, Sum and Fold answer, over the translation: the same fold over a string's bytes; and that a fold over two strings is one over both. -/
import Derived.PlainAid
import Derived.Test.YtegadgncggbeoaaGreatRows
import Derived.Test.YtegadgncggbeoaaGreatQGBa
namespace Apo
open Go Go.RowKit Go.PlainAid

def stp (h c : Int) : Int := IntKind.u64.wrap (bits .xor .u64 h c * 1099511628211)
def fm (s : ByteArray) (h : Int) : Nat → Int
  | 0 => h
  | k + 1 => stp (fm s h k) (bt s k)
def more (h : Int) (s : ByteArray) : Int := fm s h s.size
def fnvStart : Int := 14695981039346656037
def folded (h : Int) : Int := bits .xor .u32 (h / 4294967296) (h % 4294967296)

theorem stp_bd (h c : Int) : 0 ≤ stp h c ∧ stp h c ≤ 18446744073709551615 := by
  unfold stp; simp only [IntKind.wrap_u64]; omega

theorem fm_bd (s : ByteArray) (h : Int) (h0 : 0 ≤ h) (h1 : h ≤ 18446744073709551615) : ∀ k, 0 ≤ fm s h k ∧ fm s h k ≤ 18446744073709551615
  | 0 => ⟨h0, h1⟩
  | _ + 1 => stp_bd _ _

theorem more_bd (s : ByteArray) (h : Int) (h0 : 0 ≤ h) (h1 : h ≤ 18446744073709551615) : 0 ≤ more h s ∧ more h s ≤ 18446744073709551615 := fm_bd s h h0 h1 _

theorem fm_end {s : ByteArray} {h y : Int} {k : Nat} (hk : k ≤ s.size) (hn : ¬ k < s.size) (hf : fm s h k = y) : y = more h s := by
  have : k = s.size := by omega
  subst this
  exact hf.symm

end Apo
namespace Go.Proofs.YtegadgncggbeoaaGreat
open Go.RowKit Apo

set_option maxHeartbeats 400000 in
theorem more_any (h : Int) (s : ByteArray) (w : World) (h0 : 0 ≤ h) (h1 : h ≤ 18446744073709551615) (hs : s.size ≤ 1099511627776) :
    Calls Tryz.prog 116 #[.int .u64 h, .string s] w fun e w' => e = .returned (.int .u64 (more h s)) ∧ w = w' := by
  have hb := PlainAid.get_bt s
  go_enter Tryz.func116, Tryz.ntmps116
  go_wp2
  go_loop [0, 8] (fun x i => ∃ k : Nat, k ≤ s.size ∧ i = .int .i64 k ∧ ∃ y : Int, x = .int .u64 y ∧ 0 ≤ y ∧ y ≤ 18446744073709551615 ∧ Hid (fm s h k = y)) (fun _ i => s.size - (intOf i).toNat)
  case atStart => exact ⟨0, Nat.zero_le _, rfl, h, rfl, h0, h1, rfl⟩
  case round =>
    obtain ⟨k, hk, rfl, y, rfl, hy0, hy1, hf⟩ := hrel
    by_cases hlt : k < s.size
    · have hz0 := PlainAid.bt_nonneg s k
      have hz1 := PlainAid.bt_le s k
      go_wp2
      go_round
      case rel => exact ⟨k + 1, hlt, rfl, _, rfl, (stp_bd _ _).1, (stp_bd _ _).2, by show stp (fm s h k) _ = _; rw [hf.out]; rfl⟩
      case measure => simp [intOf]; omega
    · go_wp2
      go_ret
      exact ⟨by rw [← fm_end hk hlt hf.out]; rfl, rfl⟩

set_option maxHeartbeats 400000 in
theorem sum_any (s : ByteArray) (w : World) (hs : s.size ≤ 1099511627776) :
    Calls Tryz.prog 79 #[.string s] w fun e w' => e = .returned (.int .u64 (more fnvStart s)) ∧ w = w' := by
  go_enter Tryz.func79, Tryz.ntmps79
  go_wp2_with fail
  refine (more_any fnvStart s _ (by decide) (by decide) hs).mono ?_
  rintro e w1 ⟨rfl, rfl⟩
  go_wp2
  go_ret
  exact ⟨rfl, rfl⟩

set_option maxHeartbeats 400000 in
theorem fold_any (h : Int) (w : World) (h0 : 0 ≤ h) (h1 : h ≤ 18446744073709551615) :
    Calls Tryz.prog 145 #[.int .u64 h] w fun e w' => e = .returned (.int .u32 (folded h)) ∧ w = w' := by
  go_enter Tryz.func145, Tryz.ntmps145
  go_wp2
  go_ret
  exact ⟨rfl, rfl⟩

end Go.Proofs.YtegadgncggbeoaaGreat
