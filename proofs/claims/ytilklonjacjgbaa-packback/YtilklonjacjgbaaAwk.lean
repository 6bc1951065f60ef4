/- The chapter's example holds: apographlaw02.awake answers true, over the translation. -/
import Derived.Test.YtilklonjacjgbaaPPut
namespace Go.Proofs.Ytilklonjacjgbaa
open Go.RowKit Apo

def ex2 : List Fld := [⟨2, 0, { data := #[97, 98] }, false⟩, ⟨3, 0, { data := #[] }, true⟩]
theorem fencs_ex2 : fencs ex2 = [2, 97, 98, 1] := by decide +kernel

theorem str_ex2 : strOfNums [2, 97, 98, 1] = { data := #[2, 97, 98, 1] } := by rfl
theorem ok_ex2 : ∀ f ∈ ex2, OkF f := by
  intro f hf
  simp [ex2] at hf
  rcases hf with rfl | rfl <;> simp [OkF]
theorem rdf_ex2 (w : World) : RdF (w.alloc (.cells #[.int .i64 2, .int .u64 0, .string { data := #[97, 98] }, .bool false, .int .i64 3, .int .u64 0, .string { data := #[] }, .bool true] 38)) (some ⟨w.heap.size, 0, none⟩) ex2 := by
  intro i f hf
  match i, hf with
  | 0, hf => simp [ex2] at hf; subst hf; exact ⟨_, _, rfl, by simp, by simp, by simp, by simp⟩
  | 1, hf => simp [ex2] at hf; subst hf; exact ⟨_, _, rfl, by simp, by simp, by simp, by simp⟩

set_option maxHeartbeats 1000000 in
theorem awake_any (w : World) : Calls Try.prog 7 #[] w fun e w' => e = .returned (.bool true) ∧ Below w.heap.size w w' := by
  go_enter Try.func7, Try.ntmps7
  go_wp2_with fail
  refine (pput_any (some ⟨w.heap.size, 0, none⟩) 2 ex2 _ (rdf_ex2 w) ok_ex2 (by decide) (by intro f hf; simp [ex2] at hf; rcases hf with rfl | rfl <;> decide)).mono ?_
  rintro e w1 ⟨v, rfl, hown, hb1⟩
  rw [fencs_ex2] at hown
  have cv := conv_own hown w1 (Below.refl _ _)
  rw [str_ex2] at cv
  have hb : Below w.heap.size w w1 := ((Below.refl _ _).alloc (Nat.le_refl _) _).trans (hb1.mono (by simp))
  have HB := hide hb
  clear hown hb hb1
  go_wp2
  go_ret
  exact ⟨rfl, HB⟩
end Go.Proofs.Ytilklonjacjgbaa
