/- The chapter's two examples hold: apographlaw01.awake answers true, over the translation. -/
import Derived.Test.YtacdjaibmbjldaaOf
namespace Go.Proofs.Ytacdjaibmbjldaa
open Go.RowKit Apo

theorem own_shape {w : World} {base e : Nat} {v : Value} {n : Nat} {xs : List Value} (h : w.ownsRow base e 1 v n xs) (hp : 0 < n) :
    ∃ g cap, v = .slice (some ⟨g, 0, none⟩) n cap ∧ base ≤ g ∧ g < w.heap.size ∧ n ≤ cap ∧ ∀ j, j < n → w.cell? ⟨g, j, none⟩ = xs[j]? := by
  have h' := h
  rcases h.2 with ⟨_, hz⟩ | ⟨g, cap, cur, rfl, hb, _, hnc, _⟩
  · omega
  · exact ⟨g, cap, rfl, hb, (h'.lt g rfl).2, hnc, fun j hj => h'.cellAt j (by omega)⟩

theorem encs300 : encs [300] = [172, 2] := by decide +kernel
theorem nonum1280 : NoNum [128, 0] := by
  intro n r hn h
  have hl := congrArg List.length h
  have hel := enc_len n
  by_cases h1 : n < 128
  · rw [enc_lt h1] at h
    simp only [List.cons_append, List.nil_append, List.cons.injEq] at h
    omega
  · rw [enc_ge (by omega) hn] at h
    have hn2 : n / 128 < top := by unfold top at *; omega
    simp only [List.cons_append, List.cons.injEq] at h
    by_cases h2 : n / 128 < 128
    · rw [enc_lt h2] at h
      simp only [List.cons_append, List.nil_append, List.cons.injEq] at h
      omega
    · rw [enc_ge (by omega) hn2] at h
      simp only [List.cons_append, List.cons.injEq] at h
      omega

theorem rd_lit1 (k : IntKind) (w : World) (t : TypeId) (x : Int) : Rd k (w.alloc (.cells #[.int k x] t)) (some ⟨w.heap.size, 0, none⟩) [x] := by
  intro i hi
  have : i = 0 := by simpa using hi
  subst this
  exact ⟨_, _, rfl, by simp⟩

theorem rd_lit2 (k : IntKind) (w : World) (t : TypeId) (x y : Int) : Rd k (w.alloc (.cells #[.int k x, .int k y] t)) (some ⟨w.heap.size, 0, none⟩) [x, y] := by
  intro i hi
  have hi' : i < 2 := by simpa using hi
  refine ⟨_, _, rfl, ?_⟩
  match i, hi' with
  | 0, _ => simp
  | 1, _ => simp

set_option maxHeartbeats 1000000 in
theorem awake_any (w : World) : Calls Try.prog 8 #[] w fun e w' => e = .returned (.bool true) ∧ Below w.heap.size w w' := by
  go_enter Try.func8, Try.ntmps8
  go_wp2_with fail
  refine (put_any none 0 [] (some ⟨w.heap.size, 0, none⟩) 1 [300] (w.alloc (.cells #[.int .u64 300] 24)) (Rd.nil _ _ _) (fun _ => rfl) (rd_lit1 _ _ _ _) (by intro z hz; simp at hz; omega) (by decide) (by decide)).mono ?_
  rintro e w1 ⟨v, rfl, hown, hb1⟩
  rw [List.nil_append, encs300] at hown
  obtain ⟨g, cap, hv, hg1, hg2, hcap, hcell⟩ := own_shape hown (by decide)
  have hc0 : w1.cell? ⟨g, 0, none⟩ = some (.int .u8 172) := (hcell 0 (by decide)).trans rfl
  have hc1 : w1.cell? ⟨g, 1, none⟩ = some (.int .u8 2) := (hcell 1 (by decide)).trans rfl
  have hb1' : Below w.heap.size w w1 := ((Below.refl _ _).alloc (Nat.le_refl _) _).trans (hb1.mono (by simp))
  clear hown hb1 hcell
  rw [hv]
  simp only [List.length_cons, List.length_nil] at hcap ⊢
  go_wp2_with fail
  refine (of_no (some ⟨w1.heap.size, 0, none⟩) 2 [128, 0] _ (rd_lit2 _ _ _ _ _) (by decide) (by intro z hz; simp at hz; omega) nonum1280).mono ?_
  rintro e w2 ⟨rfl, rfl⟩
  go_wp2
  go_ret
  exact ⟨rfl, hb1'.alloc hb1'.size _⟩
end Go.Proofs.Ytacdjaibmbjldaa
