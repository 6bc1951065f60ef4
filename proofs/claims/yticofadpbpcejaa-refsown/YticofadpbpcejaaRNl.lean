/- A table that nobody made. Over the translation. -/
import Derived.Test.YticofadpbpcejaaRFd
namespace Go.Proofs.Yticofadpbpcejaa
open Go.RowKit Apo
set_option maxRecDepth 100000 in
set_option maxHeartbeats 4000000 in
theorem pmake_nil (w : World) (n : ByteArray) (t : Bool) (i : Int) :
    Calls Try.prog 10 #[.pointer none, .agg #[.string n, .bool t, .int .u64 i]] w fun e w' => e = .returned (.int .i64 110) ∧ Below w.heap.size w w' := by
  have bA := (Below.refl w.heap.size w).alloc (Nat.le_refl _) (.cells #[.string n, .bool t, .int .u64 i] 32)
  have heq := fun W => eql_mapR W none
  go_enter Try.func10, Try.ntmps10
  go_wp2_with fail
  refine (refs_nil _).mono ?_
  rintro e w1 ⟨rfl, rfl⟩
  go_wp2
  go_ret
  exact ⟨rfl, bA⟩
set_option maxRecDepth 100000 in
set_option maxHeartbeats 4000000 in
theorem pset_nil (w : World) (n : ByteArray) (old id : Int) :
    Calls Try.prog 12 #[.pointer none, .string n, .int .u64 old, .int .u64 id] w fun e w' => e = .returned (.int .i64 111) ∧ Below w.heap.size w w' := by
  have HC : Hid (Calls Try.prog 20 #[.pointer none, .string n] w fun e w' => e = .returned (.tuple #[.agg #[.string ⟨#[]⟩, .bool false, .int .u64 0], .bool false]) ∧ Below w.heap.size w w') := hide (pget_nil n w)
  go_enter Try.func12, Try.ntmps12
  go_wp2_with fail
  refine HC.out.mono ?_
  rintro e w1 ⟨rfl, b1⟩
  have b2 := b1.alloc b1.size (.cells #[.string ⟨#[]⟩, .bool false, .int .u64 0] 32)
  go_wp2
  go_ret
  exact ⟨rfl, b2⟩
set_option maxRecDepth 100000 in
set_option maxHeartbeats 4000000 in
theorem pdrop_nil (w : World) (n : ByteArray) :
    Calls Try.prog 14 #[.pointer none, .string n] w fun e w' => e = .returned (.int .i64 111) ∧ Below w.heap.size w w' := by
  have HC : Hid (Calls Try.prog 20 #[.pointer none, .string n] w fun e w' => e = .returned (.tuple #[.agg #[.string ⟨#[]⟩, .bool false, .int .u64 0], .bool false]) ∧ Below w.heap.size w w') := hide (pget_nil n w)
  go_enter Try.func14, Try.ntmps14
  go_wp2_with fail
  refine HC.out.mono ?_
  rintro e w1 ⟨rfl, b1⟩
  have b2 := b1.alloc b1.size (.cells #[.string ⟨#[]⟩, .bool false, .int .u64 0] 32)
  go_wp2
  go_ret
  exact ⟨rfl, b2⟩
end Go.Proofs.Yticofadpbpcejaa
