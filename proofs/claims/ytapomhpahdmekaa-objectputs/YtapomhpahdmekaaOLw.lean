/- Law 14's awake and Light, over the translation. -/
import Derived.Test.YtapomhpahdmekaaOPu
namespace Go.Proofs.Ytapomhpahdmekaa
open Go.RowKit Apo
def lightM (c : Cm) : Bool := decide (c.ps.length ≤ 5) && decide (c.tx.size ≤ 100)
theorem lightM_ok {c : Cm} (h : lightM c = true) : c.ps.length ≤ 5 ∧ c.tx.size ≤ 100 := by
  unfold lightM at h
  simpa using h
set_option maxRecDepth 100000 in
set_option maxHeartbeats 4000000 in
theorem light14 (c : Cm) (a : Option Addr) (cap : Nat) (w : World) (h : CmR w c a cap) :
    Calls Try.prog 7 #[cmV c.id a c.ps.length cap c.gen c.root c.tx] w fun e w' => e = .returned (.bool (lightM c)) ∧ Below w.heap.size w w' := by
  have ht := h.txt
  have hl := Nat.le_trans h.len h.big
  obtain ⟨id, ps, gen, root, tx⟩ := c
  simp only at ht hl ⊢
  have HE : Hid (lightM ⟨id, ps, gen, root, tx⟩ = (decide (ps.length ≤ 5) && decide (tx.size ≤ 100))) := hide rfl
  generalize ps.length = n at *
  clear h
  have HB := hide ((Below.refl w.heap.size w).alloc (Nat.le_refl _) (.cells #[.int .u64 id, .slice a n cap, .int .u64 gen, .int .u64 root, .string tx] 25))
  by_cases h1 : n ≤ 5
  · have d1 : decide ((n : Int) ≤ 5) = true := by simp; omega
    have d1n : decide (n ≤ 5) = true := by simp; omega
    have hdd : decide ((tx.size : Int) ≤ 100) = decide (tx.size ≤ 100) := by
      by_cases q : tx.size ≤ 100
      · simp [q]; omega
      · simp [q]; omega
    have HX : Hid (lightM ⟨id, ps, gen, root, tx⟩ = decide (tx.size ≤ 100)) := hide (by rw [HE.out, d1n, Bool.true_and])
    clear HE
    go_enter Try.func7, Try.ntmps7
    go_wp2
    go_ret
    exact ⟨by rw [HX.out, ← hdd]; rfl, HB.out⟩
  · have d1 : decide ((n : Int) ≤ 5) = false := by simp; omega
    have d1n : decide (n ≤ 5) = false := by simp; omega
    have HX : Hid (lightM ⟨id, ps, gen, root, tx⟩ = false) := hide (by rw [HE.out, d1n, Bool.false_and])
    clear HE
    go_enter Try.func7, Try.ntmps7
    go_wp2
    go_ret
    exact ⟨by rw [HX.out]; rfl, HB.out⟩
theorem put_zero : putM zeroCm = ([], 120) := by kernel_rfl
theorem put_one : (putM ⟨1, [], 1, 0, ⟨#[97]⟩⟩).2 = 0 ∧ (putM ⟨1, [], 1, 0, ⟨#[97]⟩⟩).1.length = 6 := ⟨by kernel_rfl, by kernel_rfl⟩
theorem CmR.one (w : World) : CmR w ⟨1, [], 1, 0, ⟨#[97]⟩⟩ none 0 := ⟨Rd.nil _ _ _, by simp, by omega, by show (1 : Nat) ≤ _; omega, by
  unfold Cm.Sz
  simp⟩
theorem CmR.zero' (w : World) : CmR w zeroCm none 0 := ⟨Rd.nil _ _ _, by simp [zeroCm], by omega, by show (0 : Nat) ≤ _; omega, by
  unfold Cm.Sz zeroCm
  simp⟩
set_option maxRecDepth 100000 in
set_option maxHeartbeats 4000000 in
theorem awake14 (w : World) : Calls Try.prog 6 #[] w fun e w' => e = .returned (.bool true) ∧ Below w.heap.size w w' := by
  have HC1 : Hid (Calls Try.prog 8 #[.agg #[.int .u64 0, .slice none 0 0, .int .u64 0, .int .u64 0, .string ⟨#[]⟩]] w fun e w' => ∃ a n c, e = .returned (.tuple #[.slice a n c, .int .i64 120]) ∧ Below w.heap.size w w') := hide ((put14 zeroCm none 0 w (CmR.zero' w)).mono (fun e w' h => by
    obtain ⟨v, h1, h2, h3⟩ := h
    rw [put_zero] at h1 h2
    obtain ⟨a, c, hv, _⟩ := own_form h2
    subst hv
    exact ⟨a, _, c, h1, h3⟩))
  have HC2 : Hid (∀ W, Calls Try.prog 8 #[.agg #[.int .u64 1, .slice none 0 0, .int .u64 1, .int .u64 0, .string ⟨#[97]⟩]] W fun e w' => ∃ a c, e = .returned (.tuple #[.slice a 6 c, .int .i64 0]) ∧ Below W.heap.size W w') := hide (fun W => (put14 ⟨1, [], 1, 0, ⟨#[97]⟩⟩ none 0 W (CmR.one W)).mono (fun e w' h => by
    obtain ⟨v, h1, h2, h3⟩ := h
    rw [put_one.1] at h1
    rw [put_one.2] at h2
    obtain ⟨a, c, hv, _⟩ := own_form h2
    subst hv
    exact ⟨a, c, h1, h3⟩))
  go_enter Try.func6, Try.ntmps6
  go_wp2_with fail
  refine HC1.out.mono ?_
  rintro e w1 ⟨a1, n1, c1, rfl, u1⟩
  have HU1 := hide u1
  clear u1
  go_wp2_with fail
  refine (HC2.out w1).mono ?_
  rintro e w2 ⟨a2, c2, rfl, u2⟩
  have HF := hide (HU1.out.trans (u2.mono HU1.out.size))
  clear u2 HC1 HC2
  go_wp2
  go_ret
  exact ⟨rfl, HF.out⟩
end Go.Proofs.Ytapomhpahdmekaa
