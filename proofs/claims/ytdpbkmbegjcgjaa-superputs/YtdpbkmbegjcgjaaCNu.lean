/- What the program's numbers do, over the translation. -/
import Derived.Test.YtdpbkmbegjcgjaaRSo
namespace Go.Proofs.Ytdpbkmbegjcgjaa
open Go.RowKit Apo

theorem or_byte (m : Nat) (x : Int) (hx : 0 ≤ x ∧ x ≤ 255) (hm : m * 256 + x.toNat < 18446744073709551616) : bits .or .u64 ((m : Int) * 256) x = ((m * 256 + x.toNat : Nat) : Int) := by
  obtain ⟨y, rfl⟩ := Int.eq_ofNat_of_zero_le hx.1
  have hy : y < 256 := by omega
  rw [Int.toNat_natCast] at hm
  have h := bits_or_u64_nat (m * 256) y (Nat.lt_of_le_of_lt (Nat.le_add_right _ _) hm) (Nat.lt_trans hy (by decide))
  rw [Int.toNat_natCast, show m * 256 + y = (m * 256) ||| y from ?_, ← h]
  · simp
  · have := Nat.two_pow_add_eq_or_of_lt (i := 8) (b := y) (by omega) m
    rw [Nat.mul_comm m 256]
    simpa using this

set_option maxRecDepth 100000 in
set_option maxHeartbeats 1000000 in
theorem number_any {w : World} (a : Option Addr) (cap : Nat) (l : List Int) (hr : Rd .u8 w a l) (hb : ∀ z ∈ l, 0 ≤ z ∧ z ≤ 255) (hl : l.length ≤ 8) :
    Calls Try.prog 22 #[.slice a l.length cap] w fun e w' => e = .returned (.int .u64 (numN l)) ∧ w = w' := by
  have HR := hide hr
  have HB := hide hb
  clear hr hb
  go_enter Try.func22, Try.ntmps22
  go_wp2
  go_loop [3, 8] (fun s i => ∃ k : Nat, k ≤ l.length ∧ i = .int .i64 k ∧ s = .int .u64 (numN (l.take k))) (fun _ i => l.length - (intOf i).toNat)
  case atStart => exact ⟨0, Nat.zero_le _, rfl, by simp [numN]⟩
  case round =>
    obtain ⟨k, hk, rfl, rfl⟩ := hrel
    by_cases hlt : k < l.length
    · obtain ⟨b, off, rfl, hc⟩ := HR.out k hlt
      have hz : l[k]? = some l[k] := List.getElem?_eq_getElem hlt
      have hbz := HB.out _ (List.getElem_mem hlt)
      have hgd : l.getD k 0 = l[k] := by simp [List.getD, hlt]
      rw [hgd] at hc
      have hsn := num_snoc hz
      generalize l[k] = x at hz hbz hc hsn
      have hn1 : numN (l.take (k + 1)) < 256 ^ 8 := by
        have := num_lt (l := l.take (k + 1)) (fun z hz => HB.out z (List.mem_of_mem_take hz))
        exact Nat.lt_of_lt_of_le this (Nat.pow_le_pow_right (by decide) (by simp; omega))
      have e8 : (256 : Nat) ^ 8 = 18446744073709551616 := by decide
      rw [e8] at hn1
      rw [hsn] at hn1
      have HZ := hide hz
      have HS := hide hsn
      clear hz hsn hgd e8
      go_wp2
      go_round
      case rel => exact ⟨k + 1, hlt, by simp, by rw [HS.out, or_byte _ _ hbz hn1]⟩
      case measure => simp [intOf]; omega
    · go_wp2
      go_ret
      have ek : l.take k = l := List.take_of_length_le (by omega)
      rw [ek]
      exact ⟨rfl, rfl⟩
end Go.Proofs.Ytdpbkmbegjcgjaa
