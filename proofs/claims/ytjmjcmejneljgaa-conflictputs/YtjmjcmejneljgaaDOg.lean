/- Sides compared, over the translation. -/
import Derived.Test.YtjmjcmejneljgaaDGe
namespace Go.Proofs.Ytjmjcmejneljgaa
open Go.RowKit Apo
open Classical in
set_option maxRecDepth 100000 in
theorem neqSd (b b' : Bool) (v v' : ByteArray) (w : World) : (binOp .neq 43 (.agg #[.bool b, .string v]) (.agg #[.bool b', .string v'])).run Try.prog w = .ok (.bool (!decide ((b, v) = (b', v')))) w := by
  have u9 := Try.underlying9
  have u4 := Try.underlying4
  have hS : Try.prog.underlying 43 = some (.struct (Try.prog.fieldsOf 43)) := by kernel_rfl
  have hp : Try.prog.stoodInHeld 43 = false := by kernel_rfl
  rw [run_neq_struct, show (10000 : Nat) = 9999 + 1 from rfl, run_equalIn_agg w 9999 43 _ _ hS hp]
  simp only [Program.fieldsOf, Try.underlying43]
  go_simp
  by_cases h1 : b = b'
  · by_cases h2 : v = v'
    · simp [h1, h2]
    · have h2' : ¬ v.toList = v'.toList := fun e => h2 (bytes_of_list e)
      simp [h1, h2, h2']
  · simp [h1]
open Classical in
set_option maxRecDepth 100000 in
theorem eqlSd (b b' : Bool) (v v' : ByteArray) (w : World) : (binOp .eql 43 (.agg #[.bool b, .string v]) (.agg #[.bool b', .string v'])).run Try.prog w = .ok (.bool (decide ((b, v) = (b', v')))) w := by
  have u9 := Try.underlying9
  have u4 := Try.underlying4
  have hS : Try.prog.underlying 43 = some (.struct (Try.prog.fieldsOf 43)) := by kernel_rfl
  have hp : Try.prog.stoodInHeld 43 = false := by kernel_rfl
  rw [run_eql_struct, show (10000 : Nat) = 9999 + 1 from rfl, run_equalIn_agg w 9999 43 _ _ hS hp]
  simp only [Program.fieldsOf, Try.underlying43]
  go_simp
  by_cases h1 : b = b'
  · by_cases h2 : v = v'
    · simp [h1, h2]
    · have h2' : ¬ v.toList = v'.toList := fun e => h2 (bytes_of_list e)
      simp [h1, h2, h2']
  · simp [h1]
end Go.Proofs.Ytjmjcmejneljgaa
