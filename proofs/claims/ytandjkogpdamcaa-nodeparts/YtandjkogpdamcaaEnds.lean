/- What the code's and the document's Ends answer, over the translation. -/
import Derived.Test.YtandjkogpdamcaaFnv
namespace Apo
open Go Go.RowKit

def levelOf (n : Int) : Int := more fnvStart (strOfNums [n % 256])
def ends (n : Int) (key : ByteArray) : Bool := more (levelOf n) key / 1024 % 4 == 0

theorem levelOf_bd (n : Int) : 0 ≤ levelOf n ∧ levelOf n ≤ 18446744073709551615 := more_bd _ _ (by decide) (by decide)

theorem and_3072 (x : Nat) : x &&& 3072 = x / 1024 % 4 * 1024 := by
  have h1 : (x &&& 3072) / 1024 = x / 1024 % 4 := by
    have := Nat.and_div_two_pow (a := x) (b := 3072) (n := 10)
    have e : (2 : Nat) ^ 10 = 1024 := by decide
    rw [e] at this
    rw [this]
    exact Nat.and_two_pow_sub_one_eq_mod (x / 1024) 2
  have h2 : (x &&& 3072) % 1024 = 0 := by
    have := Nat.and_mod_two_pow (a := x) (b := 3072) (n := 10)
    have e : (2 : Nat) ^ 10 = 1024 := by decide
    rw [e] at this
    rw [this]
    simp
  omega

theorem ends_bits {x : Int} (h0 : 0 ≤ x) (h1 : x ≤ 18446744073709551615) : (bits .and .u64 x 3072 == 0) = (x / 1024 % 4 == 0) := by
  obtain ⟨m, rfl⟩ := Int.eq_ofNat_of_zero_le h0
  have e := u64_and_nat m 3072 (by omega) (by omega)
  have e2 := and_3072 m
  rw [e2] at e
  have e3 : bits .and .u64 (m : Int) 3072 = ((m / 1024 % 4 * 1024 : Nat) : Int) := e
  rw [e3]
  rw [Bool.eq_iff_iff]
  simp only [beq_iff_eq]
  omega
end Apo
namespace Go.Proofs.Ytandjkogpdamcaa
open Go.RowKit Apo

theorem conv_one (n : Int) (w : World) : (convert 26 9 (Value.slice (some { block := w.heap.size, off := 0 }) 1 1)).run Try.prog (w.alloc (Obj.cells #[Value.int IntKind.u8 (n % 256)] 5)) = .ok (.string (strOfNums [n % 256])) (w.alloc (Obj.cells #[Value.int IntKind.u8 (n % 256)] 5)) :=
  (rd_lit1 .u8 w 5 (n % 256)).conv 26 5 9 Try.underlying26 Try.underlying5 Try.underlying9 1

theorem one_size (n : Int) : (strOfNums [n]).size ≤ 1099511627776 := by rw [strOfNums_size]; simp

set_option maxHeartbeats 400000 in
theorem ends_any (n : Int) (key : ByteArray) (w : World) (hs : key.size ≤ 1099511627776) :
    Calls Try.prog 60 #[.int .i64 n, .string key] w fun e w' => e = .returned (.bool (ends n key)) ∧ Below w.heap.size w w' := by
  have cv := conv_one n w
  have hl := levelOf_bd n
  have hm := more_bd key _ hl.1 hl.2
  go_enter Try.func60, Try.ntmps60
  go_wp2_with fail
  refine (sum_any (strOfNums [n % 256]) _ (one_size _)).mono ?_
  rintro e w1 ⟨rfl, rfl⟩
  go_wp2_with fail
  refine (more_any (levelOf n) key _ hl.1 hl.2 hs).mono ?_
  rintro e w1 ⟨rfl, rfl⟩
  go_wp2
  go_ret
  exact ⟨rfl, (Below.refl _ _).alloc (Nat.le_refl _) _⟩

set_option maxHeartbeats 400000 in
theorem rends_any (n : Int) (key : ByteArray) (w : World) (hs : key.size ≤ 1099511627776) :
    Calls Try.prog 49 #[.int .i64 n, .string key] w fun e w' => e = .returned (.bool (ends n key)) ∧ Below w.heap.size w w' := by
  have cv := conv_one n w
  have hl := levelOf_bd n
  have hm := more_bd key _ hl.1 hl.2
  go_enter Try.func49, Try.ntmps49
  go_wp2_with fail
  refine (rsum_any (strOfNums [n % 256]) _ (one_size _)).mono ?_
  rintro e w1 ⟨rfl, rfl⟩
  go_wp2_with fail
  refine (rmore_any (levelOf n) key _ hl.1 hl.2 hs).mono ?_
  rintro e w1 ⟨rfl, rfl⟩
  go_wp2
  go_ret
  refine ⟨?_, (Below.refl _ _).alloc (Nat.le_refl _) _⟩
  have e := ends_bits hm.1 hm.2
  unfold ends
  rw [← e]
  rfl
end Go.Proofs.Ytandjkogpdamcaa
