/- What leb.Size, leb.total and leb.mayEnd answer, over the translation: the length of a number's bytes, of many numbers' bytes, and whether a last byte may stand at a place. -/
import Derived.Test.YtapomhpahdmekaaRows
import Derived.Test.YtapomhpahdmekaaGPu
import Derived.WalkKit
import Derived.WalkSpells
import Derived.WalkLawsBesides
namespace Go.Proofs.Ytapomhpahdmekaa
open Go.RowKit

theorem ret_int {k : IntKind} {a b : Int} (h : a = b) : Ending.returned (.int k a) = .returned (.int k b) := by rw [h]

theorem enc_down {m : Int} {s N : Nat} (h0 : 128 ≤ m) (h1 : m ≤ 18446744073709551615) (h : s + (Apo.enc m.toNat).length = N) :
    s + 1 + (Apo.enc (m / 128).toNat).length = N := by
  have e := Apo.enc_ge (n := m.toNat) (by omega) (by unfold Apo.top; omega)
  have e2 : (m / 128).toNat = m.toNat / 128 := by omega
  rw [e] at h
  rw [e2]
  simp only [List.length_cons] at h
  omega

theorem enc_one {m : Int} (h0 : 0 ≤ m) (h1 : m < 128) : Apo.enc m.toNat = [m] := by
  rw [Apo.enc_lt (by omega)]
  rw [Int.toNat_of_nonneg h0]

set_option maxHeartbeats 400000 in
theorem size_any (n : Int) (w : World) (h0 : 0 ≤ n) (h1 : n ≤ 18446744073709551615) :
    Calls Try.prog 42 #[.int .u64 n] w fun e w' => e = .returned (.int .i64 ((Apo.enc n.toNat).length : Nat)) ∧ w = w' := by
  have hl := Apo.enc_len n.toNat
  generalize hN : (Apo.enc n.toNat).length = N at *
  have HN : Hid ((Apo.enc n.toNat).length = N) := hN
  clear hN
  go_enter Try.func42, Try.ntmps42
  go_wp2
  go_loop [0, 3] (fun x t => ∃ m : Int, 0 ≤ m ∧ m ≤ 18446744073709551615 ∧ ∃ s : Nat, s ≤ 10 ∧ x = .int .u64 m ∧ t = .int .i64 s ∧ Hid (s + (Apo.enc m.toNat).length = N + 1)) (fun x _ => (intOf x).toNat)
  case atStart => exact ⟨n, h0, h1, 1, by omega, rfl, rfl, by have := HN.out; show 1 + _ = N + 1; omega⟩
  case round =>
    obtain ⟨m, hm0, hm1, s, hs, rfl, rfl, hc⟩ := hrel
    by_cases hlt : 128 ≤ m
    · go_wp2
      go_round
      case rel =>
        have d := enc_down hlt hm1 hc.out
        have l := Apo.enc_len (m / 128).toNat
        exact ⟨m / 128, by omega, by omega, s + 1, by omega, rfl, by go_num, d⟩
      case measure => simp [intOf]; omega
    · go_wp2
      go_ret
      have d := hc.out
      rw [enc_one hm0 (by omega)] at d
      simp only [List.length_cons, List.length_nil] at d
      exact ⟨ret_int (by omega), rfl⟩

set_option maxHeartbeats 400000 in
theorem mayEnd_any (c i : Int) (w : World) (h0 : 0 ≤ c) (h1 : c ≤ 255) (h2 : 0 ≤ i) (h3 : i ≤ 9) :
    Calls Try.prog 41 #[.int .u8 c, .int .i64 i] w fun e w' => e = .returned (.bool (decide ((i = 9 ∧ c = 1) ∨ (i ≠ 9 ∧ (c ≠ 0 ∨ i = 0))))) ∧ w = w' := by
  by_cases hi : i = 9
  · subst hi
    by_cases hc : c = 1
    · subst hc
      go_enter Try.func41, Try.ntmps41
      go_wp2
      go_ret
      exact ⟨rfl, rfl⟩
    · have hb : (c == 1) = false := by simpa using hc
      have hd : decide (((9 : Int) = 9 ∧ c = 1) ∨ ((9 : Int) ≠ 9 ∧ (c ≠ 0 ∨ (9 : Int) = 0))) = false := by simp [hc]
      rw [hd]
      go_enter Try.func41, Try.ntmps41
      go_wp2
      go_ret
      exact ⟨rfl, rfl⟩
  · have hb : (i == 9) = false := by simpa using hi
    by_cases hc : c = 0
    · subst hc
      by_cases hz : i = 0
      · subst hz
        go_enter Try.func41, Try.ntmps41
        go_wp2
        go_ret
        exact ⟨rfl, rfl⟩
      · have hb2 : (i == 0) = false := by simpa using hz
        have hd : decide ((i = 9 ∧ (0 : Int) = 1) ∨ (i ≠ 9 ∧ ((0 : Int) ≠ 0 ∨ i = 0))) = false := by simp [hz]
        rw [hd]
        go_enter Try.func41, Try.ntmps41
        go_wp2
        go_ret
        exact ⟨rfl, rfl⟩
    · have hb2 : (c != 0) = true := by simpa using hc
      have hd : decide ((i = 9 ∧ c = 1) ∨ (i ≠ 9 ∧ (c ≠ 0 ∨ i = 0))) = true := by simp [hc, hi]
      rw [hd]
      go_enter Try.func41, Try.ntmps41
      go_wp2
      go_ret
      exact ⟨rfl, rfl⟩

end Go.Proofs.Ytapomhpahdmekaa
