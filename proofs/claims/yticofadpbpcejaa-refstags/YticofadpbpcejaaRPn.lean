/- The program's names of refs. Over the translation. -/
import Derived.Test.YticofadpbpcejaaRNm
namespace Go.Proofs.Yticofadpbpcejaa
open Go.RowKit Apo
def letM (c : Int) : Bool := decide (97 ≤ c) && decide (c ≤ 122)
def digM (c : Int) : Bool := decide (48 ≤ c) && decide (c ≤ 57)
set_option maxHeartbeats 1000000 in
theorem letter_any (c : Int) (w : World) : Calls Try.prog 27 #[.int .u8 c] w fun e w' => e = .returned (.bool (letM c)) ∧ w = w' := by
  unfold letM
  by_cases h1 : 97 ≤ c
  · go_enter Try.func27, Try.ntmps27
    go_wp2
    go_ret
    exact ⟨by simp; try omega, rfl⟩
  · go_enter Try.func27, Try.ntmps27
    go_wp2
    go_ret
    exact ⟨by simp; try omega, rfl⟩
set_option maxHeartbeats 1000000 in
theorem digit_any (c : Int) (w : World) : Calls Try.prog 28 #[.int .u8 c] w fun e w' => e = .returned (.bool (digM c)) ∧ w = w' := by
  unfold digM
  by_cases h1 : 48 ≤ c
  · go_enter Try.func28, Try.ntmps28
    go_wp2
    go_ret
    exact ⟨by simp; try omega, rfl⟩
  · go_enter Try.func28, Try.ntmps28
    go_wp2
    go_ret
    exact ⟨by simp; try omega, rfl⟩
theorem okAt_zero (c : Int) : okAt 0 c = letM c := by simp [okAt, letM]
theorem okAt_pos {k : Nat} (h : 0 < k) (c : Int) : okAt k c = (letM c || (digM c || (c == 45))) := by simp [okAt, letM, digM, h]
set_option maxHeartbeats 4000000 in
theorem pname_any (s : ByteArray) (w : World) (hs : s.size ≤ 9223372036854775807) :
    Calls Try.prog 22 #[.string s] w fun e w' => e = .returned (.bool (nameM s)) ∧ w = w' := by
  have hb := PlainAid.get_bt s
  by_cases h0 : s.size = 0
  · have he : s = ⟨#[]⟩ := ByteArray.ext (Array.eq_empty_of_size_eq_zero h0)
    subst he
    go_enter Try.func22, Try.ntmps22
    go_wp2
    go_ret
    exact ⟨rfl, rfl⟩
  have hne : (s.toList == []) = false := by
    rw [beq_eq_false_iff_ne]
    intro e
    have : s = ⟨#[]⟩ := bytes_of_list (by rw [e]; simp)
    rw [this] at h0
    exact h0 rfl
  by_cases h20 : 20 < s.size
  · have HN : Hid (nameM s = false) := hide (by unfold nameM; rw [show decide (s.size ≤ 20) = false by simp; omega, Bool.and_false, Bool.and_false])
    have d1 : decide ((20 : Int) < (s.size : Int)) = true := by simp; omega
    go_enter Try.func22, Try.ntmps22
    go_wp2
    go_ret
    exact ⟨by rw [HN.out]; rfl, rfl⟩
  have d1 : decide ((20 : Int) < (s.size : Int)) = false := by simp; omega
  have hlp : 0 < s.size := by omega
  go_enter Try.func22, Try.ntmps22
  go_wp2_with fail
  refine (letter_any _ _).mono ?_
  rintro e w1 ⟨rfl, rfl⟩
  cases hl : letM (PlainAid.bt s 0) with
  | false =>
    have HN := hide (nm_no hlp (by rw [okAt_zero, hl]))
    go_wp2
    go_ret
    exact ⟨by rw [HN.out]; rfl, rfl⟩
  | true =>
  have HL := hide hl
  clear hl
  go_wp2
  go_loop [19] (fun i => ∃ k : Nat, k ≤ s.size ∧ i = .int .i64 k ∧ Hid ((List.range k).all (fun k => okAt k (PlainAid.bt s k)) = true)) (fun i => s.size - (intOf i).toNat)
  case atStart => exact ⟨0, Nat.zero_le _, rfl, hide (by simp)⟩
  case round =>
    obtain ⟨k, hk, rfl, hf⟩ := hrel
    by_cases hlt : k < s.size
    · have hz0 := PlainAid.bt_nonneg s k
      have hz1 := PlainAid.bt_le s k
      have d2 : decide ((k : Int) < (s.size : Int)) = true := by simp; omega
      go_wp2_with fail
      refine (letter_any _ _).mono ?_
      rintro e w1 ⟨rfl, rfl⟩
      cases hl : letM (PlainAid.bt s k) with
      | true =>
        have HS : Hid ((List.range (k + 1)).all (fun k => okAt k (PlainAid.bt s k)) = true) := hide (nm_step hf.out (by
          by_cases q : k = 0
          · subst q; rw [okAt_zero, hl]
          · rw [okAt_pos (by omega), hl]; rfl))
        clear hl
        go_wp2
        go_round
        case rel => exact ⟨k + 1, hlt, rfl, HS⟩
        case measure => simp [intOf]; omega
      | false =>
        have hk0 : 0 < k := by
          rcases Nat.eq_zero_or_pos k with q | q
          · subst q
            rw [HL.out] at hl
            cases hl
          · exact q
        have HO : Hid (okAt k (PlainAid.bt s k) = (digM (PlainAid.bt s k) || (PlainAid.bt s k == 45))) := hide (by rw [okAt_pos hk0, hl]; rfl)
        clear hl
        go_wp2_with fail
        refine (digit_any _ _).mono ?_
        rintro e w1 ⟨rfl, rfl⟩
        cases hd : digM (PlainAid.bt s k) with
        | true =>
          have HS : Hid ((List.range (k + 1)).all (fun k => okAt k (PlainAid.bt s k)) = true) := hide (nm_step hf.out (by rw [HO.out, hd]; rfl))
          clear hd
          go_wp2
          go_round
          case rel => exact ⟨k + 1, hlt, rfl, HS⟩
          case measure => simp [intOf]; omega
        | false =>
          by_cases h5 : PlainAid.bt s k = 45
          · have h6 : (PlainAid.bt s k == 45) = true := by rw [beq_iff_eq]; exact h5
            have HS : Hid ((List.range (k + 1)).all (fun k => okAt k (PlainAid.bt s k)) = true) := hide (nm_step hf.out (by rw [HO.out, hd, h6]; rfl))
            clear hd h5
            go_wp2
            go_round
            case rel => exact ⟨k + 1, hlt, rfl, HS⟩
            case measure => simp [intOf]; omega
          · have h6 : (PlainAid.bt s k == 45) = false := by rw [beq_eq_false_iff_ne]; exact h5
            have HN := hide (nm_no hlt (by rw [HO.out, hd, h6]; rfl))
            clear hd h5
            go_wp2
            go_ret
            exact ⟨by rw [HN.out]; rfl, rfl⟩
    · have HY : Hid (nameM s = true) := hide (by
        have e : k = s.size := by omega
        unfold nameM
        have := hf.out
        rw [e] at this
        rw [this, Bool.true_and, Bool.and_eq_true, decide_eq_true_eq, decide_eq_true_eq]
        omega)
      have d2 : decide ((k : Int) < (s.size : Int)) = false := by simp; omega
      go_wp2
      go_ret
      exact ⟨by rw [HY.out]; rfl, rfl⟩
end Go.Proofs.Yticofadpbpcejaa
