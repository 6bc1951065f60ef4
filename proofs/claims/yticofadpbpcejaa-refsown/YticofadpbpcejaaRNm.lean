/- Names of refs: the document's Name. Over the translation. -/
import Derived.Test.YticofadpbpcejaaRDa
import Derived.WalkKit
namespace Go.Proofs.Yticofadpbpcejaa
open Go.RowKit Apo
theorem nm_step {s : ByteArray} {k : Nat} (h : (List.range k).all (fun k => okAt k (PlainAid.bt s k)) = true) (hk : okAt k (PlainAid.bt s k) = true) : (List.range (k + 1)).all (fun k => okAt k (PlainAid.bt s k)) = true := by
  rw [List.range_succ, List.all_append, h]
  simp [hk]
theorem nm_no {s : ByteArray} {k : Nat} (h : k < s.size) (hk : okAt k (PlainAid.bt s k) = false) : nameM s = false := by
  unfold nameM
  have : (List.range s.size).all (fun k => okAt k (PlainAid.bt s k)) = false := by
    rw [List.all_eq_false]
    exact ⟨k, List.mem_range.2 h, by rw [hk]; decide⟩
  rw [this, Bool.false_and]
set_option maxHeartbeats 4000000 in
theorem rname_any (s : ByteArray) (w : World) (hs : s.size ≤ 9223372036854775807) :
    Calls Try.prog 23 #[.string s] w fun e w' => e = .returned (.bool (nameM s)) ∧ w = w' := by
  have hb := PlainAid.get_bt s
  go_enter Try.func23, Try.ntmps23
  go_wp2
  go_loop [3] (fun i => ∃ k : Nat, k ≤ s.size ∧ i = .int .i64 k ∧ Hid ((List.range k).all (fun k => okAt k (PlainAid.bt s k)) = true)) (fun i => s.size - (intOf i).toNat)
  case atStart => exact ⟨0, Nat.zero_le _, rfl, hide (by simp)⟩
  case round =>
    obtain ⟨k, hk, rfl, hf⟩ := hrel
    by_cases hlt : k < s.size
    · have hz0 := PlainAid.bt_nonneg s k
      have hz1 := PlainAid.bt_le s k
      by_cases h1 : 97 ≤ PlainAid.bt s k
      · by_cases h2 : PlainAid.bt s k ≤ 122
        · have HS := hide (nm_step hf.out (by unfold okAt; simp only [Bool.or_eq_true, Bool.and_eq_true, decide_eq_true_eq, beq_iff_eq]; omega))
          go_wp2
          go_round
          case rel => exact ⟨k + 1, hlt, rfl, HS⟩
          case measure => simp [intOf]; omega
        · have h3 : 48 ≤ PlainAid.bt s k := by omega
          have h4 : ¬ PlainAid.bt s k ≤ 57 := by omega
          have h5 : (PlainAid.bt s k == 45) = false := by rw [beq_eq_false_iff_ne]; omega
          by_cases h0 : 0 < k
          · have HN := hide (nm_no hlt (by unfold okAt; simp only [Bool.or_eq_false_iff, Bool.and_eq_false_iff, decide_eq_false_iff_not, beq_eq_false_iff_ne, ne_eq]; omega))
            go_wp2
            go_ret
            exact ⟨by rw [HN.out]; rfl, rfl⟩
          · have HN := hide (nm_no hlt (by unfold okAt; simp only [Bool.or_eq_false_iff, Bool.and_eq_false_iff, decide_eq_false_iff_not, beq_eq_false_iff_ne, ne_eq]; omega))
            go_wp2
            go_ret
            exact ⟨by rw [HN.out]; rfl, rfl⟩
      · by_cases h0 : 0 < k
        · by_cases h3 : 48 ≤ PlainAid.bt s k
          · by_cases h4 : PlainAid.bt s k ≤ 57
            · have HS := hide (nm_step hf.out (by unfold okAt; simp only [Bool.or_eq_true, Bool.and_eq_true, decide_eq_true_eq, beq_iff_eq]; omega))
              go_wp2
              go_round
              case rel => exact ⟨k + 1, hlt, rfl, HS⟩
              case measure => simp [intOf]; omega
            · have h5 : (PlainAid.bt s k == 45) = false := by rw [beq_eq_false_iff_ne]; omega
              have HN := hide (nm_no hlt (by unfold okAt; simp only [Bool.or_eq_false_iff, Bool.and_eq_false_iff, decide_eq_false_iff_not, beq_eq_false_iff_ne, ne_eq]; omega))
              go_wp2
              go_ret
              exact ⟨by rw [HN.out]; rfl, rfl⟩
          · by_cases h5 : PlainAid.bt s k = 45
            · have h6 : (PlainAid.bt s k == 45) = true := by rw [beq_iff_eq]; exact h5
              have HS := hide (nm_step hf.out (by unfold okAt; simp only [Bool.or_eq_true, Bool.and_eq_true, decide_eq_true_eq, beq_iff_eq]; omega))
              clear h5
              go_wp2
              go_round
              case rel => exact ⟨k + 1, hlt, rfl, HS⟩
              case measure => simp [intOf]; omega
            · have h6 : (PlainAid.bt s k == 45) = false := by rw [beq_eq_false_iff_ne]; exact h5
              have HN := hide (nm_no hlt (by unfold okAt; simp only [Bool.or_eq_false_iff, Bool.and_eq_false_iff, decide_eq_false_iff_not, beq_eq_false_iff_ne, ne_eq]; omega))
              go_wp2
              go_ret
              exact ⟨by rw [HN.out]; rfl, rfl⟩
        · have HN := hide (nm_no hlt (by unfold okAt; simp only [Bool.or_eq_false_iff, Bool.and_eq_false_iff, decide_eq_false_iff_not, beq_eq_false_iff_ne, ne_eq]; omega))
          go_wp2
          go_ret
          exact ⟨by rw [HN.out]; rfl, rfl⟩
    · have HY : Hid (nameM s = (decide (1 ≤ s.size) && decide (s.size ≤ 20))) := hide (by
        have e : k = s.size := by omega
        unfold nameM
        have := hf.out
        rw [e] at this
        rw [this, Bool.true_and])
      have hd1 : decide ((1 : Int) ≤ (s.size : Int)) = decide (1 ≤ s.size) := by
        by_cases q : 1 ≤ s.size
        · simp [q]; omega
        · simp [q]; omega
      have hd2 : decide ((s.size : Int) ≤ 20) = decide (s.size ≤ 20) := by
        by_cases q : s.size ≤ 20
        · simp [q]; omega
        · simp [q]; omega
      by_cases q1 : 1 ≤ s.size
      · have q2 : decide (1 ≤ s.size) = true := by simpa using q1
        have q3 : decide ((1 : Int) ≤ (s.size : Int)) = true := by rw [hd1]; exact q2
        go_wp2
        go_ret
        exact ⟨by rw [HY.out, q2, ← hd2]; rfl, rfl⟩
      · have q2 : decide (1 ≤ s.size) = false := by simpa using q1
        have q3 : decide ((1 : Int) ≤ (s.size : Int)) = false := by rw [hd1]; exact q2
        go_wp2
        go_ret
        exact ⟨by rw [HY.out, q2]; rfl, rfl⟩
end Go.Proofs.Yticofadpbpcejaa
