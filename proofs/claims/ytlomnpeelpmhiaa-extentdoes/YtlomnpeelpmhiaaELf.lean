/- extent's small functions: end, between, and what a wanted span asks of a row. Over the translation. -/
import Derived.Test.YtlomnpeelpmhiaaEPu
import Derived.Test.YtlomnpeelpmhiaaRSp
import Derived.Deep.RegionHeld3
namespace Go.Proofs.Ytlomnpeelpmhiaa
open Go.RowKit Apo

set_option maxRecDepth 100000 in
theorem end_any {a k T : Int} (hT : IntKind.i64.wrap (a + k) = T) (w : World) : Calls Try.prog 37 #[.agg #[.int .i64 a, .int .i64 k]] w fun e w' => e = .returned (.int .i64 T) ∧ Below w.heap.size w w' := by
  have HB := hide ((Below.refl w.heap.size w).alloc (Nat.le_refl _) (.cells #[.int .i64 a, .int .i64 k] 29))
  go_enter Try.func37, Try.ntmps37
  go_wp2
  go_ret
  exact ⟨rfl, HB.out⟩
set_option maxRecDepth 100000 in
theorem between_any {a b T : Int} (hT : IntKind.i64.wrap (b - a) = T) (w : World) : Calls Try.prog 25 #[.int .i64 a, .int .i64 b] w fun e w' => e = .returned (.agg #[.int .i64 a, .int .i64 T]) ∧ Below w.heap.size w w' := by
  have HB := hide ((Below.refl w.heap.size w).alloc (Nat.le_refl _) (.cells #[.int .i64 a, .int .i64 T] 29))
  go_enter Try.func25, Try.ntmps25
  go_wp2
  refine bodyPost_ret (by simp [results, Try.results25, go_sem]; rfl) rfl ?_
  exact ⟨rfl, HB.out⟩
/-- bounds of a row -/
def XOk (x : Nat × Nat) : Prop := x.1 ≤ 16384 ∧ x.2 ≤ 16384
theorem below2 (w : World) (o1 o2 : Obj) : Below w.heap.size w ((w.alloc o1).alloc o2) := ((Below.refl w.heap.size w).alloc (Nat.le_refl _) o1).alloc (by simp) o2
set_option maxRecDepth 100000 in
theorem ahead_any (s : Spn) (x : Nat × Nat) (w : World) : Calls Try.prog 39 #[.agg #[.int .i64 s.a, .int .i64 s.k], .agg #[.int .i64 x.1, .int .i64 x.2]] w fun e w' => e = .returned (.bool (ahb s x)) ∧ Below w.heap.size w w' := by
  go_enter Try.func39, Try.ntmps39
  go_wp2
  go_ret
  exact ⟨rfl, below2 w _ _⟩
set_option maxRecDepth 100000 in
theorem fits_any (s : Spn) (x : Nat × Nat) (w : World) : Calls Try.prog 27 #[.agg #[.int .i64 s.a, .int .i64 s.k], .agg #[.int .i64 x.1, .int .i64 x.2]] w fun e w' => e = .returned (.bool (ftb s.k x)) ∧ Below w.heap.size w w' := by
  have e : ∀ b, decide (1 ≤ s.k) = b → ftb s.k x = (b && decide (s.k ≤ (x.2 : Int))) := fun b h => by unfold ftb; rw [h]
  by_cases h1 : 1 ≤ s.k
  · rw [e _ (decide_eq_true h1), Bool.true_and]
    clear e
    go_enter Try.func27, Try.ntmps27
    go_wp2
    go_ret
    exact ⟨rfl, below2 w _ _⟩
  · rw [e _ (decide_eq_false h1), Bool.false_and]
    clear e
    go_enter Try.func27, Try.ntmps27
    go_wp2
    go_ret
    exact ⟨rfl, below2 w _ _⟩
set_option maxRecDepth 100000 in
theorem within_any (s : Spn) (hs : Spn.Ok s) (x : Nat × Nat) (hx : XOk x) (w : World) : Calls Try.prog 31 #[.agg #[.int .i64 s.a, .int .i64 s.k], .agg #[.int .i64 x.1, .int .i64 x.2]] w fun e w' => e = .returned (.bool (wnb s x)) ∧ Below w.heap.size w w' := by
  obtain ⟨hx1, hx2⟩ := hx
  obtain ⟨s1, s2, s3, s4⟩ := hs
  have e : ∀ b c, decide (1 ≤ s.k) = b → decide ((x.1 : Int) ≤ s.a) = c → wnb s x = (b && (c && decide (s.k ≤ (x.2 : Int) - (s.a - x.1)))) := fun b c h h2 => by unfold wnb; rw [h, h2]
  by_cases h1 : 1 ≤ s.k
  · by_cases h2 : (x.1 : Int) ≤ s.a
    · rw [e _ _ (decide_eq_true h1) (decide_eq_true h2), Bool.true_and, Bool.true_and]
      have w1 : IntKind.i64.wrap (s.a - (x.1 : Int)) = s.a - (x.1 : Int) := by rw [IntKind.wrap_i64]; omega
      have w2 : IntKind.i64.wrap ((x.2 : Int) - (s.a - (x.1 : Int))) = (x.2 : Int) - (s.a - (x.1 : Int)) := by rw [IntKind.wrap_i64]; omega
      clear e
      go_enter Try.func31, Try.ntmps31
      go_wp2
      go_ret
      exact ⟨rfl, below2 w _ _⟩
    · rw [e _ _ (decide_eq_true h1) (decide_eq_false h2), Bool.true_and, Bool.false_and]
      clear e
      go_enter Try.func31, Try.ntmps31
      go_wp2
      go_ret
      exact ⟨rfl, below2 w _ _⟩
  · rw [e _ _ (decide_eq_false h1) rfl, Bool.false_and]
    clear e
    go_enter Try.func31, Try.ntmps31
    go_wp2
    go_ret
    exact ⟨rfl, below2 w _ _⟩
/-- what meets has in its variables -/
structure Mt (w : World) (s : Spn) (x : Nat × Nat) (W : World) : Prop where
  o1 : Ob W w.heap.size 56 [.int .i64 s.a, .int .i64 s.k]
  o2 : Ob W (w.heap.size + 1) 29 [.int .i64 (x.1 : Int), .int .i64 (x.2 : Int)]
  b : Below w.heap.size w W
theorem Mt.old {w W W' : World} {s : Spn} {x : Nat × Nat} (h : Mt w s x W) (b : Below W.heap.size W W') : Mt w s x W' := ⟨h.o1.old b, h.o2.old b, h.b.trans (b.mono h.b.size)⟩
theorem Mt.drew {w W : World} {s : Spn} {x : Nat × Nat} (h : Mt w s x W) : Mt w s x W.drew := h.old ((Below.refl _ W).drew)
theorem Mt.cells {w W : World} {s : Spn} {x : Nat × Nat} (h : Mt w s x W) : W.cell? ⟨w.heap.size, 0, none⟩ = some (.int .i64 s.a) ∧ W.cell? ⟨w.heap.size, 1, none⟩ = some (.int .i64 s.k) ∧ W.cell? ⟨w.heap.size + 1, 0, none⟩ = some (.int .i64 (x.1 : Int)) ∧ W.cell? ⟨w.heap.size + 1, 1, none⟩ = some (.int .i64 (x.2 : Int)) := ⟨h.o1.cell 0, h.o1.cell 1, h.o2.cell 0, h.o2.cell 1⟩
attribute [local go_sem ↓] Go.wp_at_zero Go.wp_at_succ
set_option maxRecDepth 100000 in
theorem meets_any (s : Spn) (hs : 0 ≤ s.a ∧ s.a ≤ 16384 ∧ 0 ≤ s.k ∧ s.k ≤ 16384) (x : Nat × Nat) (hx : XOk x) (w : World) : Calls Try.prog 32 #[.agg #[.int .i64 s.a, .int .i64 s.k], .agg #[.int .i64 x.1, .int .i64 x.2]] w fun e w' => e = .returned (.bool (mtb s x)) ∧ Below w.heap.size w w' := by
  obtain ⟨hx1, hx2⟩ := hx
  obtain ⟨s1, s2, s3, s4⟩ := hs
  have w1 : IntKind.i64.wrap ((x.1 : Int) + (x.2 : Int)) = (x.1 : Int) + (x.2 : Int) := by rw [IntKind.wrap_i64]; omega
  have w2 : IntKind.i64.wrap (s.a + s.k) = s.a + s.k := by rw [IntKind.wrap_i64]; omega
  have hm : ∀ b, decide (s.a < (x.1 : Int) + x.2) = b → mtb s x = (b && decide ((x.1 : Int) < s.a + s.k)) := fun b h => by unfold mtb; rw [h]
  have C1 := fun W => end_any w1 W
  have C2 := fun W => end_any w2 W
  generalize (x.1 : Int) + (x.2 : Int) = E1 at *
  generalize s.a + s.k = E2 at *
  have K0 : Mt w s x ((w.alloc (.cells #[.int .i64 s.a, .int .i64 s.k] 56)).alloc (.cells #[.int .i64 (x.1 : Int), .int .i64 (x.2 : Int)] 29)) :=
    ⟨(Ob.new w [.int .i64 s.a, .int .i64 s.k] 56).alloc _, by have := Ob.new (w.alloc (.cells #[.int .i64 s.a, .int .i64 s.k] 56)) [.int .i64 (x.1 : Int), .int .i64 (x.2 : Int)] 29; simpa using this, below2 w _ _⟩
  by_cases h1 : s.a < E1
  · rw [hm _ (decide_eq_true h1), Bool.true_and]
    have hd : decide (s.a < E1) = true := decide_eq_true h1
    clear hm
    go_enter Try.func32, Try.ntmps32
    go_wp2_with fail
    generalize (w.alloc (.cells #[.int .i64 s.a, .int .i64 s.k] 56)).alloc (.cells #[.int .i64 (x.1 : Int), .int .i64 (x.2 : Int)] 29) = W0 at *
    obtain ⟨c0, c1, c2, c3⟩ := K0.cells
    have HK := hide K0
    clear K0
    go_region_held3 (fun W' => W'.cell? ⟨w.heap.size, 0, none⟩ = some (.int .i64 s.a) ∧ W'.cell? ⟨w.heap.size, 1, none⟩ = some (.int .i64 s.k) ∧ W'.cell? ⟨w.heap.size + 1, 0, none⟩ = some (.int .i64 (x.1 : Int)) ∧ W'.cell? ⟨w.heap.size + 1, 1, none⟩ = some (.int .i64 (x.2 : Int))) (go_keep) (first
      | (go_at_call 37; refine (C2 wa).mono ?_; rintro e wb ⟨rfl, b⟩; have T := HKa.out.old b; obtain ⟨c0, c1, c2, c3⟩ := T.cells; have HKb := hide T; clear b T)
      | (go_at_call 37; refine (C1 _).mono ?_; rintro e wa ⟨rfl, b⟩; have T := HK.out.drew.old b; obtain ⟨c0, c1, c2, c3⟩ := T.cells; have HKa := hide T; clear b T))
    all_goals (go_wp2; go_ret; exact ⟨rfl, HKb.out.b⟩)
  · rw [hm _ (decide_eq_false h1), Bool.false_and]
    have hd : decide (s.a < E1) = false := decide_eq_false h1
    clear hm
    go_enter Try.func32, Try.ntmps32
    go_wp2_with fail
    generalize (w.alloc (.cells #[.int .i64 s.a, .int .i64 s.k] 56)).alloc (.cells #[.int .i64 (x.1 : Int), .int .i64 (x.2 : Int)] 29) = W0 at *
    obtain ⟨c0, c1, c2, c3⟩ := K0.cells
    have HK := hide K0
    clear K0
    refine wp_region_held_drew (S := (fun W' => W'.cell? ⟨w.heap.size, 0, none⟩ = some (.int .i64 s.a) ∧ W'.cell? ⟨w.heap.size, 1, none⟩ = some (.int .i64 s.k) ∧ W'.cell? ⟨w.heap.size + 1, 0, none⟩ = some (.int .i64 (x.1 : Int)) ∧ W'.cell? ⟨w.heap.size + 1, 1, none⟩ = some (.int .i64 (x.2 : Int)))) (by kernel_rfl) ?_ (fun hHeld => ?_)
    · exact ⟨c0, c1, c2, c3⟩
    first
      | (refine wpAnyH_take (i := 0) (v := ?_) rfl (by kernel_rfl) (by kernel_rfl) (by kernel_rfl) (fun _ _ _ h => h) (Or.inl ⟨by rfl, ?_⟩) (by assumption) ?_; rotate_left; (intro wx hSx; obtain ⟨q0, q1, q2, q3⟩ := hSx; go_simp; first | done | with_reducible rfl))
      | (refine wpAnyH_take (i := 0) (v := undef) rfl (by kernel_rfl) (by kernel_rfl) (by kernel_rfl) (fun _ _ _ h => h) (Or.inr ⟨by rfl, rfl⟩) (by assumption) ?_)
    simp only [Act.put, List.getElem_toArray, List.getElem_cons_zero, List.setIfInBounds_toArray, List.set_cons_zero, List.set_cons_succ]
    first
      | (refine wpAnyH_take (i := 1) (v := ?_) rfl (by kernel_rfl) (by kernel_rfl) (by kernel_rfl) (fun _ _ _ h => h) (Or.inl ⟨by rfl, ?_⟩) (by assumption) ?_; rotate_left; (intro wx hSx; obtain ⟨q0, q1, q2, q3⟩ := hSx; go_simp; first | done | with_reducible rfl))
      | (refine wpAnyH_take (i := 1) (v := undef) rfl (by kernel_rfl) (by kernel_rfl) (by kernel_rfl) (fun _ _ _ h => h) (Or.inr ⟨by rfl, rfl⟩) (by assumption) ?_)
    simp only [Act.put, List.getElem_toArray, List.getElem_cons_succ, List.getElem_cons_zero, List.setIfInBounds_toArray, List.set_cons_zero, List.set_cons_succ]
    first
      | (refine wpAnyH_take (i := 2) (v := ?_) rfl (by kernel_rfl) (by kernel_rfl) (by kernel_rfl) (fun _ _ _ h => h) (Or.inl ⟨by rfl, ?_⟩) (by assumption) ?_; rotate_left; (intro wx hSx; obtain ⟨q0, q1, q2, q3⟩ := hSx; go_simp; first | done | with_reducible rfl))
      | (refine wpAnyH_take (i := 2) (v := undef) rfl (by kernel_rfl) (by kernel_rfl) (by kernel_rfl) (fun _ _ _ h => h) (Or.inr ⟨by rfl, rfl⟩) (by assumption) ?_)
    simp only [Act.put, List.getElem_toArray, List.getElem_cons_succ, List.getElem_cons_zero, List.setIfInBounds_toArray, List.set_cons_zero, List.set_cons_succ]
    refine wpAnyH_ready (rs := [3]) (by kernel_rfl) (by simp) ?_
    refine AllReadyH.cons rfl (fun K hK => ?_) AllReadyH.nil
    go_simp
    go_at_call 37
    refine (C1 _).mono ?_
    rintro e wa ⟨rfl, b⟩
    have T := HK.out.drew.old b
    obtain ⟨c0, c1, c2, c3⟩ := T.cells
    have HKa := hide T
    clear b T
    go_wp2_with fail
    refine hK.out _ _ ?_ (fun hHeld => ?_)
    · exact HKa.out.cells
    clear hK K
    first
      | (refine wpAnyH_take (i := 4) (v := ?_) rfl (by kernel_rfl) (by kernel_rfl) (by kernel_rfl) (fun _ _ _ h => h) (Or.inl ⟨by rfl, ?_⟩) (by assumption) ?_; rotate_left; (intro wx hSx; obtain ⟨q0, q1, q2, q3⟩ := hSx; go_simp; first | done | with_reducible rfl))
      | (refine wpAnyH_take (i := 4) (v := undef) rfl (by kernel_rfl) (by kernel_rfl) (by kernel_rfl) (fun _ _ _ h => h) (Or.inr ⟨by rfl, rfl⟩) (by assumption) ?_)
    simp only [Act.put, List.getElem_toArray, List.getElem_cons_succ, List.getElem_cons_zero, List.setIfInBounds_toArray, List.set_cons_zero, List.set_cons_succ]
    first
      | (refine wpAnyH_take (i := 5) (v := ?_) rfl (by kernel_rfl) (by kernel_rfl) (by kernel_rfl) (fun _ _ _ h => h) (Or.inl ⟨by rfl, ?_⟩) (by assumption) ?_; rotate_left; (intro wx hSx; obtain ⟨q0, q1, q2, q3⟩ := hSx; go_simp; first | done | with_reducible rfl))
      | (refine wpAnyH_take (i := 5) (v := undef) rfl (by kernel_rfl) (by kernel_rfl) (by kernel_rfl) (fun _ _ _ h => h) (Or.inr ⟨by rfl, rfl⟩) (by assumption) ?_)
    simp only [Act.put, List.getElem_toArray, List.getElem_cons_succ, List.getElem_cons_zero, List.setIfInBounds_toArray, List.set_cons_zero, List.set_cons_succ]
    first
      | (refine wpAnyH_take (i := 6) (v := ?_) rfl (by kernel_rfl) (by kernel_rfl) (by kernel_rfl) (fun _ _ _ h => h) (Or.inl ⟨by rfl, ?_⟩) (by assumption) ?_; rotate_left; (intro wx hSx; obtain ⟨q0, q1, q2, q3⟩ := hSx; go_simp; first | done | with_reducible rfl))
      | (refine wpAnyH_take (i := 6) (v := undef) rfl (by kernel_rfl) (by kernel_rfl) (by kernel_rfl) (fun _ _ _ h => h) (Or.inr ⟨by rfl, rfl⟩) (by assumption) ?_)
    simp only [Act.put, List.getElem_toArray, List.getElem_cons_succ, List.getElem_cons_zero, List.setIfInBounds_toArray, List.set_cons_zero, List.set_cons_succ]
    first
      | (refine wpAnyH_take (i := 7) (v := ?_) rfl (by kernel_rfl) (by kernel_rfl) (by kernel_rfl) (fun _ _ _ h => h) (Or.inl ⟨by rfl, ?_⟩) (by assumption) ?_; rotate_left; (intro wx hSx; obtain ⟨q0, q1, q2, q3⟩ := hSx; go_simp; first | done | with_reducible rfl))
      | (refine wpAnyH_take (i := 7) (v := undef) rfl (by kernel_rfl) (by kernel_rfl) (by kernel_rfl) (fun _ _ _ h => h) (Or.inr ⟨by rfl, rfl⟩) (by assumption) ?_)
    simp only [Act.put, List.getElem_toArray, List.getElem_cons_succ, List.getElem_cons_zero, List.setIfInBounds_toArray, List.set_cons_zero, List.set_cons_succ]
    first
      | (refine wpAnyH_take (i := 8) (v := ?_) rfl (by kernel_rfl) (by kernel_rfl) (by kernel_rfl) (fun _ _ _ h => h) (Or.inl ⟨by rfl, ?_⟩) (by assumption) ?_; rotate_left; (intro wx hSx; obtain ⟨q0, q1, q2, q3⟩ := hSx; go_simp; first | done | with_reducible rfl))
      | (refine wpAnyH_take (i := 8) (v := undef) rfl (by kernel_rfl) (by kernel_rfl) (by kernel_rfl) (fun _ _ _ h => h) (Or.inr ⟨by rfl, rfl⟩) (by assumption) ?_)
    simp only [Act.put, List.getElem_toArray, List.getElem_cons_succ, List.getElem_cons_zero, List.setIfInBounds_toArray, List.set_cons_zero, List.set_cons_succ]
    first
      | (refine wpAnyH_take (i := 9) (v := ?_) rfl (by kernel_rfl) (by kernel_rfl) (by kernel_rfl) (fun _ _ _ h => h) (Or.inl ⟨by rfl, ?_⟩) (by assumption) ?_; rotate_left; (intro wx hSx; obtain ⟨q0, q1, q2, q3⟩ := hSx; go_simp; first | done | with_reducible rfl))
      | (refine wpAnyH_take (i := 9) (v := undef) rfl (by kernel_rfl) (by kernel_rfl) (by kernel_rfl) (fun _ _ _ h => h) (Or.inr ⟨by rfl, rfl⟩) (by assumption) ?_)
    simp only [Act.put, List.getElem_toArray, List.getElem_cons_succ, List.getElem_cons_zero, List.setIfInBounds_toArray, List.set_cons_zero, List.set_cons_succ]
    first
      | (refine wpAnyH_take (i := 10) (v := ?_) rfl (by kernel_rfl) (by kernel_rfl) (by kernel_rfl) (fun _ _ _ h => h) (Or.inl ⟨by rfl, ?_⟩) (by assumption) ?_; rotate_left; (intro wx hSx; obtain ⟨q0, q1, q2, q3⟩ := hSx; go_simp; first | done | with_reducible rfl))
      | (refine wpAnyH_take (i := 10) (v := undef) rfl (by kernel_rfl) (by kernel_rfl) (by kernel_rfl) (fun _ _ _ h => h) (Or.inr ⟨by rfl, rfl⟩) (by assumption) ?_)
    simp only [Act.put, List.getElem_toArray, List.getElem_cons_succ, List.getElem_cons_zero, List.setIfInBounds_toArray, List.set_cons_zero, List.set_cons_succ]
    first
      | (refine wpAnyH_take (i := 11) (v := ?_) rfl (by kernel_rfl) (by kernel_rfl) (by kernel_rfl) (fun _ _ _ h => h) (Or.inl ⟨by rfl, ?_⟩) (by assumption) ?_; rotate_left; (intro wx hSx; obtain ⟨q0, q1, q2, q3⟩ := hSx; go_simp; first | done | with_reducible rfl))
      | (refine wpAnyH_take (i := 11) (v := undef) rfl (by kernel_rfl) (by kernel_rfl) (by kernel_rfl) (fun _ _ _ h => h) (Or.inr ⟨by rfl, rfl⟩) (by assumption) ?_)
    simp only [Act.put, List.getElem_toArray, List.getElem_cons_succ, List.getElem_cons_zero, List.setIfInBounds_toArray, List.set_cons_zero, List.set_cons_succ]
    first
      | (refine wpAnyH_take (i := 12) (v := ?_) rfl (by kernel_rfl) (by kernel_rfl) (by kernel_rfl) (fun _ _ _ h => h) (Or.inl ⟨by rfl, ?_⟩) (by assumption) ?_; rotate_left; (intro wx hSx; obtain ⟨q0, q1, q2, q3⟩ := hSx; go_simp; first | done | with_reducible rfl))
      | (refine wpAnyH_take (i := 12) (v := undef) rfl (by kernel_rfl) (by kernel_rfl) (by kernel_rfl) (fun _ _ _ h => h) (Or.inr ⟨by rfl, rfl⟩) (by assumption) ?_)
    simp only [Act.put, List.getElem_toArray, List.getElem_cons_succ, List.getElem_cons_zero, List.setIfInBounds_toArray, List.set_cons_zero, List.set_cons_succ]
    refine wpAnyH_done (by kernel_rfl) ?_ _
    go_wp2
    go_ret
    exact ⟨rfl, HKa.out.b⟩
end Go.Proofs.Ytlomnpeelpmhiaa
