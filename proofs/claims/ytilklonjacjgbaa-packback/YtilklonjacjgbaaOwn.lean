/- A field without what its kind doesn't name (apographlaw02.own), over the translation. -/
import Derived.Test.YtilklonjacjgbaaRows
import Derived.Test.YtilklonjacjgbaaFld
import Derived.WalkKit
import Derived.Handy
namespace Go.Proofs.Ytilklonjacjgbaa
open Go.RowKit Apo

def ownF (f : Fld) : Fld := ⟨f.k, if f.k = 1 then f.n else 0, if f.k = 2 then f.s else ⟨#[]⟩, if f.k = 3 then f.b else false⟩

set_option maxHeartbeats 2000000 in
theorem own_any (f : Fld) (w : World) :
    Calls Try.prog 14 #[.agg #[.int .i64 f.k, .int .u64 f.n, .string f.s, .bool f.b]] w fun e w' => e = .returned (.agg #[.int .i64 (ownF f).k, .int .u64 (ownF f).n, .string (ownF f).s, .bool (ownF f).b]) ∧ Below w.heap.size w w' := by
  obtain ⟨k, n, s, b⟩ := f
  by_cases k1 : k = 1
  · subst k1
    go_enter Try.func14, Try.ntmps14
    go_wp2
    refine bodyPost_ret (by simp [results, Try.results14, go_sem]; rfl) rfl ?_
    exact ⟨rfl, ((((Below.refl _ _).alloc (Nat.le_refl _) _).alloc (by simp) _).alloc (by simp; omega) _)⟩
  · by_cases k2 : k = 2
    · subst k2
      go_enter Try.func14, Try.ntmps14
      go_wp2
      refine bodyPost_ret (by simp [results, Try.results14, go_sem]; rfl) rfl ?_
      exact ⟨rfl, ((((Below.refl _ _).alloc (Nat.le_refl _) _).alloc (by simp) _).alloc (by simp; omega) _)⟩
    · by_cases k3 : k = 3
      · subst k3
        go_enter Try.func14, Try.ntmps14
        go_wp2
        refine bodyPost_ret (by simp [results, Try.results14, go_sem]; rfl) rfl ?_
        exact ⟨rfl, ((((Below.refl _ _).alloc (Nat.le_refl _) _).alloc (by simp) _).alloc (by simp; omega) _)⟩
      · have e1 : (k == 1) = false := by simpa using k1
        have e2 : (k == 2) = false := by simpa using k2
        have e3 : (k == 3) = false := by simpa using k3
        have HV : Hid (ownF ⟨k, n, s, b⟩ = ⟨k, 0, ⟨#[]⟩, false⟩) := by show _ = _; simp [ownF, k1, k2, k3]
        go_enter Try.func14, Try.ntmps14
        go_wp2
        refine bodyPost_ret (by simp [results, Try.results14, go_sem]; rfl) rfl ?_
        rw [HV.out]
        exact ⟨rfl, ((((Below.refl _ _).alloc (Nat.le_refl _) _).alloc (by simp) _).alloc (by simp; omega) _)⟩
end Go.Proofs.Ytilklonjacjgbaa
