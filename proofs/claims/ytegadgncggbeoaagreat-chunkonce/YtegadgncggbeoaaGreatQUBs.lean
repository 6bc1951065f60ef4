/- cmp.Less and slices.BinarySearch at 64-bit numbers, over the translation. -/
import Derived.Test.YtegadgncggbeoaaGreatQUIn
namespace Go.Proofs.YtegadgncggbeoaaGreat
open Go.RowKit Apo
set_option maxRecDepth 100000 in
theorem cnan_any (w : World) (a : Int) : Calls Tryz.prog 138 #[.int .u64 a] w fun e w' => e = .returned (.bool false) ∧ w = w' := by
  have h : (a != a) = false := by simp
  go_enter Tryz.func138, Tryz.ntmps138
  go_wp2
  go_ret
  exact ⟨rfl, rfl⟩
set_option maxRecDepth 100000 in
theorem snan_any (w : World) (a : Int) : Calls Tryz.prog 113 #[.int .u64 a] w fun e w' => e = .returned (.bool false) ∧ w = w' := by
  have h : (a != a) = false := by simp
  go_enter Tryz.func113, Tryz.ntmps113
  go_wp2
  go_ret
  exact ⟨rfl, rfl⟩
set_option maxRecDepth 100000 in
theorem less_any (w : World) (a b : Int) : Calls Tryz.prog 112 #[.int .u64 a, .int .u64 b] w fun e w' => e = .returned (.bool (decide (a < b))) ∧ w = w' := by
  have C := cnan_any w a
  cases q : decide (a < b)
  all_goals
    go_enter Tryz.func112, Tryz.ntmps112
    go_wp2_with fail
    refine C.mono ?_
    rintro e wx ⟨rfl, rfl⟩
    go_wp2
    go_ret
    exact ⟨rfl, rfl⟩
/-- what a search tells: a place, at most the length -/
def BsP (n : Nat) (w : World) (e : Ending) (w' : World) : Prop := ∃ (i : Nat) (b : Bool), e = .returned (.tuple #[.int .i64 i, .bool b]) ∧ i ≤ n ∧ w = w'
set_option maxRecDepth 100000 in
set_option maxHeartbeats 4000000 in
theorem bsearch_any {O : Nat → Prop} {w : World} {v : Value} {l : List Nat} (hr : Row O w 31 1 v l.length (ucells l)) (hl : l.length ≤ 1099511627776) (x : Int) :
    Calls Tryz.prog 77 #[v, .int .u64 x] w (BsP l.length w) := by
  obtain ⟨n, hn⟩ : ∃ n, n = l.length := ⟨_, rfl⟩
  rw [← hn] at hr hl ⊢
  by_cases h0 : n = 0
  · obtain ⟨a, cap, rfl, h1, _, _, _⟩ := hr.form
    subst h0
    clear hr
    go_enter Tryz.func77, Tryz.ntmps77
    go_wp2
    go_loop [7, 8] (fun i j => i = .int .i64 0 ∧ j = .int .i64 0) (fun _ _ => 0)
    case atStart => exact ⟨rfl, by rw [← hn]; rfl⟩
    case round =>
      obtain ⟨rfl, rfl⟩ := hrel
      rw [← hn]
      go_wp2
      refine bodyPost_ret (by simp [results, Tryz.results77, go_sem]; rfl) rfl ?_
      exact ⟨0, false, rfl, Nat.zero_le _, rfl⟩
  · obtain ⟨g, cap, rfl, hO, hg, h1, h2, hc, _⟩ := hr.shape (by omega)
    have hcell : ∀ k : Nat, k < n → ∃ z : Int, w.cell? ⟨g, k, none⟩ = some (.int .u64 z) := fun k hk => by
      have := hc k (by omega)
      have h3 : k < (ucells l).length := by rw [ucells_len]; omega
      rw [List.getElem?_eq_getElem h3] at this
      refine ⟨(l[k]'(by omega) : Nat), ?_⟩
      rw [this]
      simp [ucells]
    have HC := hide hcell
    have hcap : cap ≤ 9223372036854775807 := by unfold maxLen at h2; omega
    clear hr hc hcell hn h2
    go_enter Tryz.func77, Tryz.ntmps77
    go_wp2
    go_loop [7, 8] (fun i j => ∃ I J : Nat, I ≤ J ∧ J ≤ n ∧ i = .int .i64 I ∧ j = .int .i64 J) (fun i j => (intOf j).toNat - (intOf i).toNat)
    case atStart => exact ⟨0, n, by omega, by omega, rfl, rfl⟩
    case round =>
      obtain ⟨I, J, hIJ, hJ, rfl, rfl⟩ := hrel
      by_cases hlt : I < J
      · obtain ⟨z, hz⟩ := HC.out ((I + J) / 2) (by omega)
        have C := less_any w z x
        cases q : decide (z < x)
        all_goals
          rw [q] at C
          have HCC := hide C
          clear C q
          go_wp2_with fail
          refine HCC.out.mono ?_
          rintro e wx ⟨rfl, rfl⟩
          go_wp2
          go_round
        · exact ⟨I, (I + J) / 2, by omega, by omega, rfl, by simp⟩
        · simp [intOf]; omega
        · exact ⟨(I + J) / 2 + 1, J, by omega, by omega, by simp, rfl⟩
        · simp [intOf]; omega
      · obtain rfl : I = J := by omega
        by_cases hIn : I < n
        · obtain ⟨z, hz⟩ := HC.out I hIn
          have C := snan_any w z
          have hb : (z == x) = true ∨ (z == x) = false := by cases (z == x) <;> simp
          rcases hb with hb | hb
          · clear C
            go_wp2
            refine bodyPost_ret (by simp [results, Tryz.results77, go_sem]; rfl) rfl ?_
            exact ⟨I, _, rfl, by omega, rfl⟩
          · have HCC := hide C
            clear C
            go_wp2_with fail
            refine HCC.out.mono ?_
            rintro e wx ⟨rfl, rfl⟩
            go_wp2
            refine bodyPost_ret (by simp [results, Tryz.results77, go_sem]; rfl) rfl ?_
            exact ⟨I, _, rfl, by omega, rfl⟩
        · go_wp2
          refine bodyPost_ret (by simp [results, Tryz.results77, go_sem]; rfl) rfl ?_
          exact ⟨I, _, rfl, by omega, rfl⟩
end Go.Proofs.YtegadgncggbeoaaGreat
