/- What the two Zigs and the two Zags answer, over the translation. -/
import Derived.Test.YtacdjaibmbjldaaAwake
namespace Go.Proofs.Ytacdjaibmbjldaa
open Go.RowKit Apo

def zg (n : Int) : Int := if 0 ≤ n then n * 2 else -(n + 1) * 2 + 1
def zgb (u : Int) : Int := if u % 2 = 0 then u / 2 else -(u / 2) - 1

theorem zg_bd {n : Int} (h0 : -9223372036854775808 ≤ n) (h1 : n ≤ 9223372036854775807) : 0 ≤ zg n ∧ zg n ≤ 18446744073709551615 := by
  unfold zg; split <;> omega
theorem zgb_bd {u : Int} (h0 : 0 ≤ u) (h1 : u ≤ 18446744073709551615) : -9223372036854775808 ≤ zgb u ∧ zgb u ≤ 9223372036854775807 := by
  unfold zgb; split <;> omega
theorem zgb_zg (n : Int) : zgb (zg n) = n := by
  unfold zg zgb; repeat' split
  all_goals omega
theorem zg_zgb {u : Int} (h0 : 0 ≤ u) : zg (zgb u) = u := by
  unfold zg zgb; repeat' split
  all_goals omega

theorem u64_not (a : Nat) (ha : a < 18446744073709551616) : bits .xor .u64 (a : Int) 18446744073709551615 = 18446744073709551615 - (a : Int) := by
  have h := u64_xor_nat a 18446744073709551615 ha (by decide)
  have e : (a ^^^ 18446744073709551615) = 18446744073709551615 - a := by
    have h2 : BitVec.ofNat 64 a ^^^ BitVec.allOnes 64 = ~~~ BitVec.ofNat 64 a := BitVec.xor_allOnes
    have h3 := congrArg BitVec.toNat h2
    rw [BitVec.toNat_xor, BitVec.toNat_not, BitVec.toNat_ofNat, BitVec.toNat_allOnes] at h3
    have h4 : a % 2 ^ 64 = a := Nat.mod_eq_of_lt ha
    rw [h4] at h3
    have h5 : (2 ^ 64 - 1 : Nat) = 18446744073709551615 := by decide
    rw [h5] at h3
    omega
  rw [e] at h
  exact h.trans (by omega)

theorem zig_val {n : Int} (h0 : -9223372036854775808 ≤ n) (h1 : n ≤ 9223372036854775807) :
    bits .xor .u64 (IntKind.u64.wrap (IntKind.u64.wrap n * 2)) (IntKind.u64.wrap (n / 9223372036854775808)) = zg n := by
  unfold zg
  split
  · have e1 : IntKind.u64.wrap (IntKind.u64.wrap n * 2) = ((n.toNat * 2 : Nat) : Int) := by simp only [IntKind.wrap_u64]; omega
    have e2 : IntKind.u64.wrap (n / 9223372036854775808) = ((0 : Nat) : Int) := by simp only [IntKind.wrap_u64]; omega
    rw [e1, e2, u64_xor_nat _ _ (by omega) (by omega), Nat.xor_zero]
    omega
  · have e1 : IntKind.u64.wrap (IntKind.u64.wrap n * 2) = (((18446744073709551616 + n * 2).toNat : Nat) : Int) := by simp only [IntKind.wrap_u64]; omega
    have e2 : IntKind.u64.wrap (n / 9223372036854775808) = 18446744073709551615 := by simp only [IntKind.wrap_u64]; omega
    rw [e1, e2, u64_not _ (by omega)]
    omega

theorem i64_xor_zero (a : Nat) (ha : a < 9223372036854775808) : bits .xor .i64 (a : Int) 0 = (a : Int) := by
  show IntKind.i64.wrap ((BitVec.ofInt 64 (a : Int) ^^^ BitVec.ofInt 64 0).toNat : Int) = _
  have h1 : BitVec.ofInt 64 0 = 0#64 := by decide
  rw [h1, BitVec.xor_zero, ofInt_u64 a (by omega)]
  simp [IntKind.wrap, IntKind.bits, IntKind.signed]
  omega

theorem i64_xor_ones (a : Nat) (ha : a < 9223372036854775808) : bits .xor .i64 (a : Int) (-1) = -(a : Int) - 1 := by
  show IntKind.i64.wrap ((BitVec.ofInt 64 (a : Int) ^^^ BitVec.ofInt 64 (-1)).toNat : Int) = _
  have h1 : BitVec.ofInt 64 (-1) = BitVec.allOnes 64 := by decide
  rw [h1, BitVec.xor_allOnes, BitVec.toNat_not, ofInt_u64 a (by omega)]
  simp [IntKind.wrap, IntKind.bits, IntKind.signed]
  omega

theorem zag_val {u : Int} (h0 : 0 ≤ u) (h1 : u ≤ 18446744073709551615) :
    bits .xor .i64 (u / 2) (wrap64 (-wrap64 (bits .and .u64 u 1))) = zgb u := by
  rw [and_one_u64 u h0 h1]
  obtain ⟨m, hm⟩ : ∃ m : Nat, u / 2 = (m : Int) := Int.eq_ofNat_of_zero_le (by omega)
  unfold zgb
  rw [hm]
  split
  · next h =>
    rw [h]
    have e : wrap64 (-wrap64 0) = 0 := by simp [wrap64]
    rw [e, i64_xor_zero m (by omega)]
  · next h =>
    have h' : u % 2 = 1 := by omega
    rw [h']
    have e : wrap64 (-wrap64 1) = -1 := by simp [wrap64]
    rw [e, i64_xor_ones m (by omega)]

set_option maxHeartbeats 400000 in
theorem zig_any (n : Int) (w : World) (h0 : -9223372036854775808 ≤ n) (h1 : n ≤ 9223372036854775807) :
    Calls Try.prog 18 #[.int .i64 n] w fun e w' => e = .returned (.int .u64 (zg n)) ∧ w = w' := by
  go_enter Try.func18, Try.ntmps18
  go_wp2
  go_ret
  exact ⟨ret_int (zig_val h0 h1), rfl⟩

set_option maxHeartbeats 400000 in
theorem rzig_any (n : Int) (w : World) (h0 : -9223372036854775808 ≤ n) (h1 : n ≤ 9223372036854775807) :
    Calls Try.prog 19 #[.int .i64 n] w fun e w' => e = .returned (.int .u64 (zg n)) ∧ w = w' := by
  by_cases h : 0 ≤ n
  all_goals
    go_enter Try.func19, Try.ntmps19
    go_wp2
    go_ret
    refine ⟨ret_int ?_, rfl⟩
    unfold zg
    split <;> omega

set_option maxHeartbeats 400000 in
theorem zag_any (u : Int) (w : World) (h0 : 0 ≤ u) (h1 : u ≤ 18446744073709551615) :
    Calls Try.prog 20 #[.int .u64 u] w fun e w' => e = .returned (.int .i64 (zgb u)) ∧ w = w' := by
  go_enter Try.func20, Try.ntmps20
  go_wp2
  go_ret
  exact ⟨ret_int (zag_val h0 h1), rfl⟩

set_option maxHeartbeats 400000 in
theorem rzag_any (u : Int) (w : World) (h0 : 0 ≤ u) (h1 : u ≤ 18446744073709551615) :
    Calls Try.prog 21 #[.int .u64 u] w fun e w' => e = .returned (.int .i64 (zgb u)) ∧ w = w' := by
  by_cases h : u % 2 = 0
  · have hb : (u % 2 == 0) = true := by simpa using h
    have hz : zgb u = u / 2 := by unfold zgb; rw [if_pos h]
    rw [hz]
    clear h hz
    go_enter Try.func21, Try.ntmps21
    go_wp2
    go_ret
    exact ⟨rfl, rfl⟩
  · have hb : (u % 2 == 0) = false := by simpa using h
    have hz : zgb u = -(u / 2) - 1 := by unfold zgb; rw [if_neg h]
    rw [hz]
    clear h hz
    go_enter Try.func21, Try.ntmps21
    go_wp2
    go_ret
    exact ⟨rfl, rfl⟩

set_option maxHeartbeats 1000000 in
theorem zigLaw (n u : Int) (w : World) (h0 : -9223372036854775808 ≤ n) (h1 : n ≤ 9223372036854775807) (h2 : 0 ≤ u) (h3 : u ≤ 18446744073709551615) :
    Calls Try.prog 6 #[.int .i64 n, .int .u64 u] w fun e w' => e = .returned (.bool true) ∧ Below w.heap.size w w' := by
  have b1 := zg_bd h0 h1
  have b2 := zgb_bd h2 h3
  have HA : Hid (zgb (zg n) = n) := zgb_zg n
  have HB : Hid (zg (zgb u) = u) := zg_zgb h2
  have z1 := fun w => zig_any n w h0 h1
  have z2 := fun w => rzig_any n w h0 h1
  have a1 := fun w => zag_any u w h2 h3
  have a2 := fun w => rzag_any u w h2 h3
  have z3 : ∀ w, Calls Try.prog 18 #[.int .i64 (zgb u)] w fun e w' => e = .returned (.int .u64 u) ∧ w = w' := fun w => by have := zig_any (zgb u) w b2.1 b2.2; rw [HB.out] at this; exact this
  have a3 : ∀ w, Calls Try.prog 20 #[.int .u64 (zg n)] w fun e w' => e = .returned (.int .i64 n) ∧ w = w' := fun w => by have := zag_any (zg n) w b1.1 b1.2; rw [HA.out] at this; exact this
  generalize zg n = x at *
  generalize zgb u = y at *
  have Z1 : Hid _ := z1
  have Z2 : Hid _ := z2
  have A1 : Hid _ := a1
  have A2 : Hid _ := a2
  have Z3 : Hid _ := z3
  have A3 : Hid _ := a3
  clear z1 z2 z3 a1 a2 a3 HA HB
  go_enter Try.func6, Try.ntmps6
  go_wp2_with fail
  refine (awake_any _).mono ?_
  rintro e w1 ⟨rfl, hb⟩
  go_wp2_with fail
  refine (Z1.out _).mono ?_
  rintro e w2 ⟨rfl, rfl⟩
  go_wp2_with fail
  refine (Z2.out _).mono ?_
  rintro e w2 ⟨rfl, rfl⟩
  go_wp2_with fail
  refine (A1.out _).mono ?_
  rintro e w2 ⟨rfl, rfl⟩
  go_wp2_with fail
  refine (A2.out _).mono ?_
  rintro e w2 ⟨rfl, rfl⟩
  go_wp2_with fail
  refine (Z1.out _).mono ?_
  rintro e w2 ⟨rfl, rfl⟩
  go_wp2_with fail
  refine (A3.out _).mono ?_
  rintro e w2 ⟨rfl, rfl⟩
  go_wp2_with fail
  refine (A1.out _).mono ?_
  rintro e w2 ⟨rfl, rfl⟩
  go_wp2_with fail
  refine (Z3.out _).mono ?_
  rintro e w2 ⟨rfl, rfl⟩
  go_wp2
  go_ret
  exact ⟨rfl, hb⟩
end Go.Proofs.Ytacdjaibmbjldaa
