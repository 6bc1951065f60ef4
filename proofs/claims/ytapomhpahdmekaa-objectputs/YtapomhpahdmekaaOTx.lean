/- Texts, parents and generations of commits: which may be, over the translation. -/
import Derived.Test.YtapomhpahdmekaaOBy
namespace Go.Proofs.Ytapomhpahdmekaa
open Go.RowKit Apo
theorem txt_step {s : ByteArray} {k : Nat} (h : (List.range k).all (fun k => decide (32 ≤ PlainAid.bt s k) && decide (PlainAid.bt s k ≤ 126)) = true) (h1 : 32 ≤ PlainAid.bt s k) (h2 : PlainAid.bt s k ≤ 126) : (List.range (k + 1)).all (fun k => decide (32 ≤ PlainAid.bt s k) && decide (PlainAid.bt s k ≤ 126)) = true := by
  rw [List.range_succ, List.all_append, h]
  simp [h1, h2]
theorem txt_no {s : ByteArray} {k : Nat} (hk : k < s.size) (h : ¬ (32 ≤ PlainAid.bt s k ∧ PlainAid.bt s k ≤ 126)) : txtOk s = false := by
  unfold txtOk
  rw [Bool.and_eq_false_iff]
  right
  rw [List.all_eq_false]
  exact ⟨k, List.mem_range.2 hk, by simpa using h⟩
set_option maxHeartbeats 1000000 in
theorem text_any14 (s : ByteArray) (w : World) (hs : s.size ≤ 9223372036854775807) :
    Calls Try.prog 16 #[.string s] w fun e w' => e = .returned (.bool (txtOk s)) ∧ w = w' := by
  have hb := PlainAid.get_bt s
  by_cases hl : s.size ≤ 60
  · have d1 : decide ((60 : Int) < (s.size : Int)) = false := by simp; omega
    have d2 : decide (60 < s.size) = false := by simp; omega
    go_enter Try.func16, Try.ntmps16
    go_wp2
    go_loop [9] (fun i => ∃ k : Nat, k ≤ s.size ∧ i = .int .i64 k ∧ Hid ((List.range k).all (fun k => decide (32 ≤ PlainAid.bt s k) && decide (PlainAid.bt s k ≤ 126)) = true)) (fun i => s.size - (intOf i).toNat)
    case atStart => exact ⟨0, Nat.zero_le _, rfl, hide (by simp)⟩
    case round =>
      obtain ⟨k, hk, rfl, hf⟩ := hrel
      by_cases hlt : k < s.size
      · have hz0 := PlainAid.bt_nonneg s k
        have hz1 := PlainAid.bt_le s k
        by_cases h1 : 32 ≤ PlainAid.bt s k
        · by_cases h2 : PlainAid.bt s k ≤ 126
          · have HS := hide (txt_step hf.out h1 h2)
            go_wp2
            go_round
            case rel => exact ⟨k + 1, hlt, rfl, HS⟩
            case measure => simp [intOf]; omega
          · have HN := hide (txt_no hlt (fun q => h2 q.2))
            go_wp2
            go_ret
            exact ⟨by rw [HN.out]; rfl, rfl⟩
        · have HN := hide (txt_no hlt (fun q => h1 q.1))
          go_wp2
          go_ret
          exact ⟨by rw [HN.out]; rfl, rfl⟩
      · have HY : Hid (txtOk s = true) := hide (by
          have e : k = s.size := by omega
          unfold txtOk
          rw [← e, hf.out]
          simp; omega)
        go_wp2
        go_ret
        exact ⟨by rw [HY.out]; rfl, rfl⟩
  · have d1 : decide ((60 : Int) < (s.size : Int)) = true := by simp; omega
    have d2 : decide (60 < s.size) = true := by simp; omega
    have HN : Hid (txtOk s = false) := hide (by unfold txtOk; simp [hl])
    go_enter Try.func16, Try.ntmps16
    go_wp2
    go_ret
    exact ⟨by rw [HN.out]; rfl, rfl⟩
set_option maxHeartbeats 1000000 in
theorem rtext_any14 (s : ByteArray) (w : World) (hs : s.size ≤ 9223372036854775807) :
    Calls Try.prog 17 #[.string s] w fun e w' => e = .returned (.bool (txtOk s)) ∧ w = w' := by
  have hb := PlainAid.get_bt s
  go_enter Try.func17, Try.ntmps17
  go_wp2
  go_loop [3] (fun i => ∃ k : Nat, k ≤ s.size ∧ i = .int .i64 k ∧ Hid ((List.range k).all (fun k => decide (32 ≤ PlainAid.bt s k) && decide (PlainAid.bt s k ≤ 126)) = true)) (fun i => s.size - (intOf i).toNat)
  case atStart => exact ⟨0, Nat.zero_le _, rfl, hide (by simp)⟩
  case round =>
    obtain ⟨k, hk, rfl, hf⟩ := hrel
    by_cases hlt : k < s.size
    · have hz0 := PlainAid.bt_nonneg s k
      have hz1 := PlainAid.bt_le s k
      by_cases h1 : 32 ≤ PlainAid.bt s k
      · by_cases h2 : PlainAid.bt s k ≤ 126
        · have HS := hide (txt_step hf.out h1 h2)
          go_wp2
          go_round
          case rel => exact ⟨k + 1, hlt, rfl, HS⟩
          case measure => simp [intOf]; omega
        · have HN := hide (txt_no hlt (fun q => h2 q.2))
          go_wp2
          go_ret
          exact ⟨by rw [HN.out]; rfl, rfl⟩
      · have HN := hide (txt_no hlt (fun q => h1 q.1))
        go_wp2
        go_ret
        exact ⟨by rw [HN.out]; rfl, rfl⟩
    · have HY : Hid (txtOk s = decide (s.size ≤ 60)) := hide (by
        have e : k = s.size := by omega
        unfold txtOk
        have := hf.out
        rw [e] at this
        rw [this, Bool.and_true])
      have hdd : decide ((s.size : Int) ≤ 60) = decide (s.size ≤ 60) := by
        by_cases q : s.size ≤ 60
        · simp [q]; omega
        · simp [q]; omega
      go_wp2
      go_ret
      exact ⟨by rw [HY.out, ← hdd]; rfl, rfl⟩
/-- a commit as it is handed over -/
abbrev cmV (id : Int) (a : Option Addr) (n cap : Nat) (gen root : Int) (tx : ByteArray) : Value := .agg #[.int .u64 id, .slice a n cap, .int .u64 gen, .int .u64 root, .string tx]
set_option maxHeartbeats 1000000 in
theorem gen_any (id : Int) (a : Option Addr) (n cap : Nat) (gen root : Int) (tx : ByteArray) (w : World) :
    Calls Try.prog 31 #[cmV id a n cap gen root tx] w fun e w' => e = .returned (.bool (genOk n gen)) ∧ Below w.heap.size w w' := by
  have HB := hide ((Below.refl w.heap.size w).alloc (Nat.le_refl _) (.cells #[.int .u64 id, .slice a n cap, .int .u64 gen, .int .u64 root, .string tx] 25))
  by_cases h0 : n = 0
  · subst h0
    go_enter Try.func31, Try.ntmps31
    go_wp2
    go_ret
    exact ⟨rfl, HB.out⟩
  · have d1 : ((n : Int) == 0) = false := by simp; omega
    have HG : Hid (genOk n gen = decide (2 ≤ gen)) := hide (by unfold genOk; rw [if_neg h0])
    go_enter Try.func31, Try.ntmps31
    go_wp2
    go_ret
    exact ⟨by rw [HG.out]; rfl, HB.out⟩
end Go.Proofs.Ytapomhpahdmekaa
