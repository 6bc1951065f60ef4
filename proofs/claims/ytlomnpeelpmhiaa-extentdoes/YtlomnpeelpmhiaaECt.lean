/- Count and Largest of the program's Free: a range over what Spans hands out. Over the translation. -/
import Derived.Test.YtlomnpeelpmhiaaESp
namespace Go.Proofs.Ytlomnpeelpmhiaa
open Go.RowKit Go.Shelf Apo
attribute [local go_sem] Oper.semAt_some

/-- what has been made of the rows -/
def Acc (A : List (Nat × Nat) → Int) (w W0 : World) (pre : List (Nat × Nat)) (W : World) : Prop := Ob W w.heap.size 3 [.int .i64 (A pre)] ∧ Below w.heap.size w W ∧ W0.heap.size ≤ W.heap.size
theorem acc_own (A : List (Nat × Nat) → Int) (w W0 : World) (hw : w.heap.size < W0.heap.size) : OwnFrom W0.heap.size (Acc A w W0) := by
  rintro s W W' row ⟨h1, h3, h4⟩ hg hr
  exact ⟨h1.kept hg (fun e => by have := (hr _ e).1; omega), h3.grown hg h3.size (fun k e => by have := (hr k e).1; omega), Nat.le_trans h4 hg.size⟩
def sumW (pre : List (Nat × Nat)) : Int := IntKind.i64.wrap (sumP pre)
theorem sumW_snoc (pre : List (Nat × Nat)) (x : Nat × Nat) : IntKind.i64.wrap (sumW pre + (x.2 : Int)) = sumW (pre ++ [x]) := by
  unfold sumW
  have e : sumP (pre ++ [x]) = sumP pre + x.2 := by simp [sumP, List.foldl_append]
  rw [e, IntKind.wrap_i64, IntKind.wrap_i64, IntKind.wrap_i64]
  omega
def maxW (pre : List (Nat × Nat)) : Int := maxP pre
theorem maxW_snoc (pre : List (Nat × Nat)) (x : Nat × Nat) : (if maxW pre < (x.2 : Int) then (x.2 : Int) else maxW pre) = maxW (pre ++ [x]) := by
  unfold maxW
  have e : maxP (pre ++ [x]) = max (maxP pre) x.2 := by simp [maxP, List.foldl_append]
  rw [e]
  split <;> omega

set_option maxRecDepth 100000 in
set_option maxHeartbeats 4000000 in
theorem count_in {O : Nat → Prop} {w : World} {v : Value} {R : List (Nat × Nat)} (hO : ∀ i, O i → i ≠ w.heap.size) (hs : SpTold O (w.alloc (.cells #[.int .i64 0] 3)) v R) :
    CallsIn Fence.wide 3 Try.prog 22 #[v] w fun e w' => e = .returned (.int .i64 (sumW R)) ∧ Below w.heap.size w w' := by
  have h1 : 1 ≤ 3 := by omega
  have hro : Fence.wide.round = none := rfl
  have h21 : Fence.wide.fn 22 := trivial
  refine callsIn_of_wp_marks Try.func22 rfl h21 ?_ hro
  simp only [Try.ntmps22, List.size_toArray, List.length_cons, List.length_nil, Nat.reduceAdd, Nat.reduceSub, Array.replicate_succ, Array.replicate_zero, List.push_toArray, List.append_toArray, List.nil_append, List.cons_append]
  gi_wp2_with fail
  refine ⟨trivial, (hs _).mono ?_⟩
  rintro e W0 ⟨b0, gf, lb, U, rfl, heg, hU, hseq⟩
  have k0 : Ob W0 w.heap.size 3 [.int .i64 0] := (Ob.new w [.int .i64 0] 3).old b0
  have hz0 : w.heap.size + 1 ≤ W0.heap.size := by have := b0.size; simpa using this
  have B0 : Below w.heap.size w W0 := ((Below.refl _ w).alloc (Nat.le_refl _) _).trans (b0.mono (by simp))
  have HK0 := hide k0
  have HB0 := hide B0
  have HU := hide hU
  have HEG := hide heg
  have HSEQ := hide hseq
  have HOX := hide hO
  clear k0 B0 hU heg hseq hs b0
  gi_wp2
  refine wpIn_rangeFunc_ownH hro h1 (gf := gf) (lb := lb) rfl trivial HEG.out HSEQ.out keepO_t (keepO_b (fun i hi => (HU.out i hi).2)) (Below.refl _ _) (fun _ => rfl)
    (Acc sumW w W0) (fun _ _ _ => False) (acc_own sumW w W0 (by omega)) (fun _ _ _ _ _ h _ _ => h)
    ⟨HK0.out, HB0.out, Nat.le_refl _⟩
    (fun x a' W => ∃ Bx, W0.heap.size ≤ Bx ∧ Ob W Bx 29 [.int .i64 x.1, .int .i64 x.2] ∧ a' = { tmps := #[v, undef, .int .i64 0, .pointer (some ⟨w.heap.size, 0, none⟩), .pointer (some ⟨Bx, 0, none⟩), v, .func (.func gf) #[] lb, .agg #[.int .i64 x.1, .int .i64 x.2], undef, undef, undef, undef, undef], defers := [] })
    (fun x a' _ X Y row hs hg hr => by obtain ⟨Bx, e1, e2, e3⟩ := hs; exact ⟨Bx, e1, e2.kept hg (fun e => by obtain ⟨_, o, ho, hc⟩ := hr Bx e; have q : X.heap[Bx]? = _ := e2; rw [ho] at q; cases q; cases hc), e3⟩)
    ?assign ?body ?done ?stop
  case assign =>
    rintro l pre x W K ⟨g1, g3, g4⟩ hK
    gi_wp2
    exact hK _ _ ((KeepsOthers.alloc _ _).from _) ⟨by simp, fun i hi => Below.heap_alloc W _ i (by have := (HU.out i hi).2; omega)⟩ ⟨g1.alloc _, g3.alloc g3.size _, by simp; omega⟩ ⟨W.heap.size, g4, Ob.new W [.int .i64 x.1, .int .i64 x.2] 29, rfl⟩
  case body =>
    rintro l pre x a' W hl ⟨r, hr⟩ ⟨g1, g3, g4⟩ ⟨Bx, hBx, bX, rfl⟩ hlt
    have x1 := bX.cell 1
    have y0 := g1.cell 0
    have f0 := g1.frozen 0
    simp only [List.getElem?_cons_zero, List.getElem?_cons_succ] at x1 y0
    have hUw : ∀ i, U i → i ≠ w.heap.size := fun i hi e => by
      subst e
      rcases (HU.out _ hi).1 with q | q
      · exact HOX.out _ q rfl
      · rw [World.size_alloc] at q; omega
    have G6 : Acc sumW w W0 (pre ++ [x]) (W.setCell ⟨w.heap.size, 0, none⟩ (.int .i64 (sumW (pre ++ [x])))) := ⟨g1.set 0 _, g3.setCell (p := ⟨w.heap.size, 0, none⟩) (Nat.le_refl _) _, by simpa [World.setCell] using g4⟩
    have K6 : KeepO U W (W.setCell ⟨w.heap.size, 0, none⟩ (.int .i64 (sumW (pre ++ [x])))) := ⟨by simp [World.setCell], fun i hi => heap_setCell_other W ⟨w.heap.size, 0, none⟩ i _ (hUw i hi)⟩
    have KF : KeepsFrom W0.heap.size W (W.setCell ⟨w.heap.size, 0, none⟩ (.int .i64 (sumW (pre ++ [x])))) := KeepsFrom.of_grownBy (grew_set W w.heap.size 0 _) (fun j e => by cases e; omega)
    have HG6 := hide G6
    have HK6 := hide K6
    have HKF := hide KF
    clear hUw G6 K6 KF g1 g3
    have ha := sumW_snoc pre x
    generalize sumW (pre ++ [x]) = a9 at *
    gi_wp2
    exact ⟨HKF.out, HK6.out, HG6.out⟩
  case done =>
    rintro D ys W hD rfl ⟨g1, g3, g4⟩ hK
    have y0 := g1.cell 0
    simp only [List.getElem?_cons_zero] at y0
    have HG3 := hide g3
    clear g1 g3
    gi_wp2
    refine ⟨by simp, .inl ⟨_, _, rfl, run_takeDeferred hK, ?_⟩⟩
    refine ⟨_, results_tmp rfl _ _ _, ?_⟩
    exact ⟨rfl, HG3.out.trans (belowK_b (w := w) (Nat.le_refl _) _ D _ _ (by omega) hK rfl rfl)⟩
  case stop =>
    rintro D c pre W hD _ hf hK
    exact hf.elim
set_option maxRecDepth 100000 in
set_option maxHeartbeats 4000000 in
theorem largest_in {O : Nat → Prop} {w : World} {v : Value} {R : List (Nat × Nat)} (hO : ∀ i, O i → i ≠ w.heap.size) (hs : SpTold O (w.alloc (.cells #[.int .i64 0] 3)) v R) :
    CallsIn Fence.wide 3 Try.prog 23 #[v] w fun e w' => e = .returned (.int .i64 (maxW R)) ∧ Below w.heap.size w w' := by
  have h1 : 1 ≤ 3 := by omega
  have hro : Fence.wide.round = none := rfl
  have h21 : Fence.wide.fn 23 := trivial
  refine callsIn_of_wp_marks Try.func23 rfl h21 ?_ hro
  simp only [Try.ntmps23, List.size_toArray, List.length_cons, List.length_nil, Nat.reduceAdd, Nat.reduceSub, Array.replicate_succ, Array.replicate_zero, List.push_toArray, List.append_toArray, List.nil_append, List.cons_append]
  gi_wp2_with fail
  refine ⟨trivial, (hs _).mono ?_⟩
  rintro e W0 ⟨b0, gf, lb, U, rfl, heg, hU, hseq⟩
  have k0 : Ob W0 w.heap.size 3 [.int .i64 0] := (Ob.new w [.int .i64 0] 3).old b0
  have hz0 : w.heap.size + 1 ≤ W0.heap.size := by have := b0.size; simpa using this
  have B0 : Below w.heap.size w W0 := ((Below.refl _ w).alloc (Nat.le_refl _) _).trans (b0.mono (by simp))
  have HK0 := hide k0
  have HB0 := hide B0
  have HU := hide hU
  have HEG := hide heg
  have HSEQ := hide hseq
  have HOX := hide hO
  clear k0 B0 hU heg hseq hs b0
  gi_wp2
  refine wpIn_rangeFunc_ownH hro h1 (gf := gf) (lb := lb) rfl trivial HEG.out HSEQ.out keepO_t (keepO_b (fun i hi => (HU.out i hi).2)) (Below.refl _ _) (fun _ => rfl)
    (Acc maxW w W0) (fun _ _ _ => False) (acc_own maxW w W0 (by omega)) (fun _ _ _ _ _ h _ _ => h)
    ⟨HK0.out, HB0.out, Nat.le_refl _⟩
    (fun x a' W => ∃ Bx, W0.heap.size ≤ Bx ∧ Ob W Bx 29 [.int .i64 x.1, .int .i64 x.2] ∧ a' = { tmps := #[v, undef, .int .i64 0, .pointer (some ⟨w.heap.size, 0, none⟩), .pointer (some ⟨Bx, 0, none⟩), v, .func (.func gf) #[] lb, .agg #[.int .i64 x.1, .int .i64 x.2], undef, undef, undef, undef, undef], defers := [] })
    (fun x a' _ X Y row hs hg hr => by obtain ⟨Bx, e1, e2, e3⟩ := hs; exact ⟨Bx, e1, e2.kept hg (fun e => by obtain ⟨_, o, ho, hc⟩ := hr Bx e; have q : X.heap[Bx]? = _ := e2; rw [ho] at q; cases q; cases hc), e3⟩)
    ?assign ?body ?done ?stop
  case assign =>
    rintro l pre x W K ⟨g1, g3, g4⟩ hK
    gi_wp2
    exact hK _ _ ((KeepsOthers.alloc _ _).from _) ⟨by simp, fun i hi => Below.heap_alloc W _ i (by have := (HU.out i hi).2; omega)⟩ ⟨g1.alloc _, g3.alloc g3.size _, by simp; omega⟩ ⟨W.heap.size, g4, Ob.new W [.int .i64 x.1, .int .i64 x.2] 29, rfl⟩
  case body =>
    rintro l pre x a' W hl ⟨r, hr⟩ ⟨g1, g3, g4⟩ ⟨Bx, hBx, bX, rfl⟩ hlt
    have x1 := bX.cell 1
    have y0 := g1.cell 0
    have f0 := g1.frozen 0
    simp only [List.getElem?_cons_zero, List.getElem?_cons_succ] at x1 y0
    have hUw : ∀ i, U i → i ≠ w.heap.size := fun i hi e => by
      subst e
      rcases (HU.out _ hi).1 with q | q
      · exact HOX.out _ q rfl
      · rw [World.size_alloc] at q; omega
    have G6 : Acc maxW w W0 (pre ++ [x]) (W.setCell ⟨w.heap.size, 0, none⟩ (.int .i64 (maxW (pre ++ [x])))) := ⟨g1.set 0 _, g3.setCell (p := ⟨w.heap.size, 0, none⟩) (Nat.le_refl _) _, by simpa [World.setCell] using g4⟩
    have K6 : KeepO U W (W.setCell ⟨w.heap.size, 0, none⟩ (.int .i64 (maxW (pre ++ [x])))) := ⟨by simp [World.setCell], fun i hi => heap_setCell_other W ⟨w.heap.size, 0, none⟩ i _ (hUw i hi)⟩
    have KF : KeepsFrom W0.heap.size W (W.setCell ⟨w.heap.size, 0, none⟩ (.int .i64 (maxW (pre ++ [x])))) := KeepsFrom.of_grownBy (grew_set W w.heap.size 0 _) (fun j e => by cases e; omega)
    have HG6 := hide G6
    have HK6 := hide K6
    have HKF := hide KF
    clear hUw G6 K6 KF g1 g3
    have ha := maxW_snoc pre x
    by_cases hq : maxW pre < (x.2 : Int)
    · rw [if_pos hq] at ha
      generalize maxW (pre ++ [x]) = a9 at *
      subst ha
      gi_wp2
      exact ⟨HKF.out, HK6.out, HG6.out⟩
    · rw [if_neg hq] at ha
      generalize maxW (pre ++ [x]) = a9 at *
      subst ha
      gi_wp2
      exact ⟨HKF.out, HK6.out, HG6.out⟩
  case done =>
    rintro D ys W hD rfl ⟨g1, g3, g4⟩ hK
    have y0 := g1.cell 0
    simp only [List.getElem?_cons_zero] at y0
    have HG3 := hide g3
    clear g1 g3
    gi_wp2
    refine ⟨by simp, .inl ⟨_, _, rfl, run_takeDeferred hK, ?_⟩⟩
    refine ⟨_, results_tmp rfl _ _ _, ?_⟩
    exact ⟨rfl, HG3.out.trans (belowK_b (w := w) (Nat.le_refl _) _ D _ _ (by omega) hK rfl rfl)⟩
  case stop =>
    rintro D c pre W hD _ hf hK
    exact hf.elim
end Go.Proofs.Ytlomnpeelpmhiaa
