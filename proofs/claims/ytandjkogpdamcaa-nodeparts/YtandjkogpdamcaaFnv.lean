/- What the code's and the document's More, Sum and Fold answer, over the translation: the same fold over a string's bytes; and that a fold over two strings is one over both. -/
import Derived.Test.YtandjkogpdamcaaRows
import Derived.Test.YtandjkogpdamcaaLit
import Derived.PlainAid
namespace Apo
open Go Go.RowKit Go.PlainAid

def stp (h c : Int) : Int := IntKind.u64.wrap (bits .xor .u64 h c * 1099511628211)
def fm (s : ByteArray) (h : Int) : Nat → Int
  | 0 => h
  | k + 1 => stp (fm s h k) (bt s k)
def more (h : Int) (s : ByteArray) : Int := fm s h s.size
def fnvStart : Int := 14695981039346656037
def folded (h : Int) : Int := bits .xor .u32 (h / 4294967296) (h % 4294967296)

theorem stp_bd (h c : Int) : 0 ≤ stp h c ∧ stp h c ≤ 18446744073709551615 := by
  unfold stp; simp only [IntKind.wrap_u64]; omega

theorem fm_bd (s : ByteArray) (h : Int) (h0 : 0 ≤ h) (h1 : h ≤ 18446744073709551615) : ∀ k, 0 ≤ fm s h k ∧ fm s h k ≤ 18446744073709551615
  | 0 => ⟨h0, h1⟩
  | _ + 1 => stp_bd _ _

theorem more_bd (s : ByteArray) (h : Int) (h0 : 0 ≤ h) (h1 : h ≤ 18446744073709551615) : 0 ≤ more h s ∧ more h s ≤ 18446744073709551615 := fm_bd s h h0 h1 _

theorem fm_end {s : ByteArray} {h y : Int} {k : Nat} (hk : k ≤ s.size) (hn : ¬ k < s.size) (hf : fm s h k = y) : y = more h s := by
  have : k = s.size := by omega
  subst this
  exact hf.symm

theorem bt_left (s t : ByteArray) {k : Nat} (h : k < s.size) : bt (s ++ t) k = bt s k := by
  unfold bt
  have h2 : k < (s ++ t).size := by rw [ByteArray.size_append]; omega
  rw [dif_pos h, dif_pos h2, ByteArray.getElem_append_left h]

theorem bt_right (s t : ByteArray) (k : Nat) : bt (s ++ t) (s.size + k) = bt t k := by
  unfold bt
  by_cases h : k < t.size
  · have h2 : s.size + k < (s ++ t).size := by rw [ByteArray.size_append]; omega
    rw [dif_pos h, dif_pos h2, ByteArray.getElem_append_right (by omega)]
    simp
  · have h2 : ¬ s.size + k < (s ++ t).size := by rw [ByteArray.size_append]; omega
    rw [dif_neg h, dif_neg h2]

theorem fm_left (s t : ByteArray) (h : Int) : ∀ k, k ≤ s.size → fm (s ++ t) h k = fm s h k
  | 0, _ => rfl
  | k + 1, hk => by simp only [fm]; rw [fm_left s t h k (by omega), bt_left s t (by omega)]

theorem fm_right (s t : ByteArray) (h : Int) : ∀ k, fm (s ++ t) h (s.size + k) = fm t (more h s) k
  | 0 => fm_left s t h _ (Nat.le_refl _)
  | k + 1 => by rw [← Nat.add_assoc]; simp only [fm]; rw [fm_right s t h k, bt_right]

theorem more_pieces (h : Int) (s t : ByteArray) : more (more h s) t = more h (s ++ t) := by
  have := fm_right s t h t.size
  rw [← ByteArray.size_append] at this
  exact this.symm
end Apo
namespace Go.Proofs.Ytandjkogpdamcaa
open Go.RowKit Apo

set_option maxHeartbeats 400000 in
theorem more_any (h : Int) (s : ByteArray) (w : World) (h0 : 0 ≤ h) (h1 : h ≤ 18446744073709551615) (hs : s.size ≤ 1099511627776) :
    Calls Try.prog 70 #[.int .u64 h, .string s] w fun e w' => e = .returned (.int .u64 (more h s)) ∧ w = w' := by
  have hb := PlainAid.get_bt s
  go_enter Try.func70, Try.ntmps70
  go_wp2
  go_loop [0, 8] (fun x i => ∃ k : Nat, k ≤ s.size ∧ i = .int .i64 k ∧ ∃ y : Int, x = .int .u64 y ∧ 0 ≤ y ∧ y ≤ 18446744073709551615 ∧ Hid (fm s h k = y)) (fun _ i => s.size - (intOf i).toNat)
  case atStart => exact ⟨0, Nat.zero_le _, rfl, h, rfl, h0, h1, rfl⟩
  case round =>
    obtain ⟨k, hk, rfl, y, rfl, hy0, hy1, hf⟩ := hrel
    by_cases hlt : k < s.size
    · have hz0 := PlainAid.bt_nonneg s k
      have hz1 := PlainAid.bt_le s k
      go_wp2
      go_round
      case rel => exact ⟨k + 1, hlt, rfl, _, rfl, (stp_bd _ _).1, (stp_bd _ _).2, by show stp (fm s h k) _ = _; rw [hf.out]; rfl⟩
      case measure => simp [intOf]; omega
    · go_wp2
      go_ret
      exact ⟨by rw [← fm_end hk hlt hf.out]; rfl, rfl⟩

set_option maxHeartbeats 400000 in
theorem rmore_any (h : Int) (s : ByteArray) (w : World) (h0 : 0 ≤ h) (h1 : h ≤ 18446744073709551615) (hs : s.size ≤ 1099511627776) :
    Calls Try.prog 62 #[.int .u64 h, .string s] w fun e w' => e = .returned (.int .u64 (more h s)) ∧ w = w' := by
  have hb := PlainAid.get_bt s
  go_enter Try.func62, Try.ntmps62
  go_wp2
  go_loop [0, 5] (fun x i => ∃ k : Nat, k ≤ s.size ∧ i = .int .i64 k ∧ ∃ y : Int, x = .int .u64 y ∧ 0 ≤ y ∧ y ≤ 18446744073709551615 ∧ Hid (fm s h k = y)) (fun _ i => s.size - (intOf i).toNat)
  case atStart => exact ⟨0, Nat.zero_le _, rfl, h, rfl, h0, h1, rfl⟩
  case round =>
    obtain ⟨k, hk, rfl, y, rfl, hy0, hy1, hf⟩ := hrel
    by_cases hlt : k < s.size
    · have hz0 := PlainAid.bt_nonneg s k
      have hz1 := PlainAid.bt_le s k
      go_wp2
      go_round
      case rel => exact ⟨k + 1, hlt, rfl, _, rfl, (stp_bd _ _).1, (stp_bd _ _).2, by show stp (fm s h k) _ = _; rw [hf.out]; rfl⟩
      case measure => simp [intOf]; omega
    · go_wp2
      go_ret
      exact ⟨by rw [← fm_end hk hlt hf.out]; rfl, rfl⟩

set_option maxHeartbeats 400000 in
theorem sum_any (s : ByteArray) (w : World) (hs : s.size ≤ 1099511627776) :
    Calls Try.prog 69 #[.string s] w fun e w' => e = .returned (.int .u64 (more fnvStart s)) ∧ w = w' := by
  go_enter Try.func69, Try.ntmps69
  go_wp2_with fail
  refine (more_any fnvStart s _ (by decide) (by decide) hs).mono ?_
  rintro e w1 ⟨rfl, rfl⟩
  go_wp2
  go_ret
  exact ⟨rfl, rfl⟩

set_option maxHeartbeats 400000 in
theorem rsum_any (s : ByteArray) (w : World) (hs : s.size ≤ 1099511627776) :
    Calls Try.prog 63 #[.string s] w fun e w' => e = .returned (.int .u64 (more fnvStart s)) ∧ w = w' := by
  go_enter Try.func63, Try.ntmps63
  go_wp2_with fail
  refine (rmore_any fnvStart s _ (by decide) (by decide) hs).mono ?_
  rintro e w1 ⟨rfl, rfl⟩
  go_wp2
  go_ret
  exact ⟨rfl, rfl⟩

end Go.Proofs.Ytandjkogpdamcaa
