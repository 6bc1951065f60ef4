/- What slices.Equal answers of rows of numbers, over the translation. -/
import Derived.Test.YtapomhpahdmekaaHSm
namespace Go.Proofs.Ytapomhpahdmekaa
open Go.RowKit Apo
set_option maxRecDepth 100000 in
set_option maxHeartbeats 1000000 in
theorem seq64_any (a a' : Option Addr) (cap cap' : Nat) (l m : List Int) (w : World) (hr : Rd .u64 w a l) (hr' : Rd .u64 w a' m) (hl : l.length ≤ 1099511627776) :
    Calls Try.prog 33 #[.slice a l.length cap, .slice a' m.length cap'] w fun e w' => e = .returned (.bool (decide (l = m))) ∧ Below w.heap.size w w' := by
  have hR := hide hr
  have hR' := hide hr'
  clear hr hr'
  by_cases hlm : l.length = m.length
  · have HL := hide hlm
    have ht : ((l.length : Int) != (m.length : Int)) = false := by rw [hlm]; simp
    have ht2 : ((l.length : Int) == (m.length : Int)) = true := by rw [hlm]; simp
    clear hlm
    go_enter Try.func33, Try.ntmps33
    go_wp2
    go_loopw [13] (fun i wr => ∃ k : Nat, k ≤ l.length ∧ i = .int .i64 k ∧ Hid (l.take k = m.take k) ∧ Below w.heap.size w wr) (fun i _ => l.length - (intOf i).toNat)
    case atStart => exact ⟨0, Nat.zero_le _, rfl, (by show l.take 0 = m.take 0; simp), Below.refl _ _⟩
    case round =>
      obtain ⟨k, hk, rfl, hA, hbr⟩ := hrel
      by_cases hlt : k < l.length
      · have hlt' : k < m.length := by have := HL.out; omega
        obtain ⟨b, off, z, ha, hc, hz, _⟩ := (hR.out.below hbr).at hlt
        obtain ⟨b', off', z', ha', hc', hz', _⟩ := (hR'.out.below hbr).at hlt'
        subst ha ha'
        by_cases hzz : z = z'
        · subst hzz
          have HS := hide (alike_step hA.out hz.out hz'.out)
          clear hz hz'
          go_wp2
          go_quiet (fail)
          go_wp2
          go_roundw
          case rel => exact ⟨k + 1, by omega, by go_num, HS, below_drewN hbr _⟩
          case measure => simp [intOf]; omega
        · have HN := hide (alike_no hz.out hz'.out hzz)
          have q1 : (z != z') = true := by simpa using hzz
          have q2 : (z == z') = false := by simpa using hzz
          clear hz hz' hzz
          go_wp2
          go_quiet (fail)
          go_wp2
          go_ret
          exact ⟨ret_boolS HN.out.symm, below_drewN hbr _⟩
      · have HN := hide (show decide (l = m) = true by
          have h1 := hA.out
          have h2 := HL.out
          rw [List.take_of_length_le (by omega), List.take_of_length_le (by omega)] at h1
          simp [h1])
        go_wp2
        go_ret
        exact ⟨ret_boolS HN.out.symm, hbr⟩
  · have HN := hide (show decide (l = m) = false by rw [decide_eq_false_iff_not]; intro e; exact hlm (by rw [e]))
    have q1 : ((l.length : Int) != (m.length : Int)) = true := by simp; omega
    have q2 : ((l.length : Int) == (m.length : Int)) = false := by simp; omega
    clear hlm
    go_enter Try.func33, Try.ntmps33
    go_wp2
    go_ret
    exact ⟨ret_boolS HN.out.symm, Below.refl _ _⟩
end Go.Proofs.Ytapomhpahdmekaa
