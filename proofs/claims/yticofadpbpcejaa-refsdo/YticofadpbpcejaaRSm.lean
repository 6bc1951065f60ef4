/- The document's SameRefs, over the translation. -/
import Derived.Test.YticofadpbpcejaaRDa
import Derived.BigQuiet
namespace Go.Proofs.Yticofadpbpcejaa
open Go.RowKit Apo
open Classical in
set_option maxRecDepth 100000 in
theorem neqRf (f g : Rf) (w : World) : (binOp .neq 32 (.agg #[.string f.n, .bool f.t, .int .u64 f.i]) (.agg #[.string g.n, .bool g.t, .int .u64 g.i])).run Try.prog w = .ok (.bool (!decide (f = g))) w := by
  have u9 := Try.underlying9
  have u4 := Try.underlying4
  have u30 := Try.underlying30
  have hS : Try.prog.underlying 32 = some (.struct (Try.prog.fieldsOf 32)) := by kernel_rfl
  have hp : Try.prog.stoodInHeld 32 = false := by kernel_rfl
  rw [run_neq_struct, show (10000 : Nat) = 9999 + 1 from rfl, run_equalIn_agg w 9999 32 _ _ hS hp]
  simp only [Program.fieldsOf, Try.underlying32]
  go_simp
  obtain ⟨fn, ft, fi⟩ := f
  obtain ⟨gn, gt, gi⟩ := g
  simp only
  by_cases h1 : fn = gn
  · by_cases h2 : ft = gt
    · by_cases h3 : fi = gi
      · simp [h1, h2, h3]
      · simp [h1, h2, h3]
    · simp [h1, h2]
  · have h1' : ¬ fn.toList = gn.toList := fun e => h1 (bytes_of_list e)
    simp [h1, h1']
open Classical in
set_option maxRecDepth 100000 in
set_option maxHeartbeats 1000000 in
theorem rsame_refs (a : Option Addr) (acap : Nat) (l : List Rf) (b : Option Addr) (bcap : Nat) (m : List Rf) (w : World) (ha : RdG cRf 3 w a l) (hb : RdG cRf 3 w b m) (hl : l.length ≤ 9223372036854775807) :
    Calls Try.prog 17 #[.slice a l.length acap, .slice b m.length bcap] w fun e w' => e = .returned (.bool (decide (l = m))) ∧ Below w.heap.size w w' := by
  have hA := hide ha
  have hB := hide hb
  clear ha hb
  by_cases hlen : l.length = m.length
  · rw [← hlen]
    have HL := hide hlen
    clear hlen
    go_enter Try.func17, Try.ntmps17
    go_wp2
    go_loopw [13] (fun i wr => ∃ k : Nat, k ≤ l.length ∧ i = .int .i64 k ∧ Hid (l.take k = m.take k) ∧ Below w.heap.size w wr) (fun i _ => l.length - (intOf i).toNat)
    case atStart => exact ⟨0, Nat.zero_le _, rfl, rfl, Below.refl _ _⟩
    case round =>
      obtain ⟨k, hk, rfl, hE, hbr⟩ := hrel
      by_cases hlt : k < l.length
      · have hz : l[k]? = some l[k] := List.getElem?_eq_getElem hlt
        have hlt2 : k < m.length := by rw [← HL.out]; exact hlt
        have hy : m[k]? = some m[k] := List.getElem?_eq_getElem hlt2
        generalize l[k] = f at hz
        generalize m[k] = g at hy
        obtain ⟨p, off, rfl, c0, c1, c2⟩ := rd_rf (hA.out.below hbr) hz
        obtain ⟨p', off', rfl, d0, d1, d2⟩ := rd_rf (hB.out.below hbr) hy
        have HZ := hide hz
        have HY := hide hy
        clear hz hy
        have hm : Try.prog.eqGuardType Try.prog.depth 32 = false := by kernel_rfl
        have hcmp := neqRf f g
        by_cases hfg : f = g
        · subst hfg
          simp only [decide_true, Bool.not_true] at hcmp
          have hE' : Hid (l.take (k + 1) = m.take (k + 1)) := by
            show _ = _
            rw [List.take_add_one, List.take_add_one, HZ.out, HY.out, hE.out]
          go_wp2
          go_quiet (fail)
          go_wp2
          go_roundw
          case rel => exact ⟨k + 1, by omega, by go_num, hE', below_drewN hbr _⟩
          case measure => simp [intOf]; omega
        · have hd : decide (f = g) = false := by simp [hfg]
          simp only [hd, Bool.not_false] at hcmp
          have hE' : Hid (l ≠ m) := by
            intro e
            have h1 := HZ.out
            rw [e, HY.out] at h1
            exact hfg (by cases h1; rfl)
          go_wp2
          go_quiet (fail)
          go_wp2
          go_ret
          exact ⟨by simp [hE'.out], below_drewN hbr _⟩
      · have hE' : Hid (l = m) := by
          have h1 := hE.out
          rw [List.take_of_length_le (by omega), List.take_of_length_le (by rw [← HL.out]; omega)] at h1
          exact h1
        go_wp2
        go_ret
        exact ⟨by simp [hE'.out], hbr⟩
  · have hne : l ≠ m := fun e => hlen (by rw [e])
    have hN := hide hne
    have hlb : ((l.length : Int) == (m.length : Int)) = false := by simp; omega
    clear hne
    go_enter Try.func17, Try.ntmps17
    go_wp2
    go_ret
    exact ⟨by simp [hN.out], Below.refl _ _⟩
end Go.Proofs.Yticofadpbpcejaa
