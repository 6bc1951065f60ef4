/- The rows that any iterator tells which tells as the document's Free does, gathered by the law's own function. Over the translation. -/
import Derived.RangeFuncNested
import Derived.RangeFuncBound
import Derived.RangeFuncCalls
import Derived.RangeFuncLeaves
import Derived.RangeFuncBox
import Derived.Shelf.Abstract
import Derived.Shelf.RegionOpen
import Derived.OwnWalkIn
import Derived.TacticsInMore
import Derived.LoopNIn
import Derived.LoopIn
import Derived.BigRegionIn
import Derived.Test.YtlomnpeelpmhiaaRSm
namespace Go.Proofs.Ytlomnpeelpmhiaa
open Go.RowKit Go.Shelf Apo
attribute [local go_sem] Oper.semAt_some
theorem app_sem {ro : Option Nat} {P : Program} {w : World} {ρ : Operand → Value} {dst : Option Tmp} {xs : Array Operand} {ats : Array TypeId} {ty : TypeId} {pos : String} {after : Array Edge} {guard : Option (Nat × Bool)} (h : AppRuns P w ats ty (xs.map ρ)) :
    (Oper.semAt ro ρ { dst, op := .call { callee := .builtin .append, args := xs, argTypes := ats }, type := ty, pos, after, guard }).run P w = .ok (.value (appVal P w ats ty (xs.map ρ))) (appWld P w ats ty (xs.map ρ)) := by
  rw [Oper.semAt_eq _ _ _ (by simp)]
  exact app_exec h
attribute [local go_sem ↓] app_sem

/-- the blocks of O lie as they lay -/
def KeepO (O : Nat → Prop) (W W' : World) : Prop := W.heap.size ≤ W'.heap.size ∧ ∀ i, O i → W'.heap[i]? = W.heap[i]?
theorem keepO_t {O : Nat → Prop} {A B C : World} (h : KeepO O A B) (k : KeepO O B C) : KeepO O A C := ⟨Nat.le_trans h.1 k.1, fun i hi => (k.2 i hi).trans (h.2 i hi)⟩
theorem keepO_b {O : Nat → Prop} {w : World} (hO : ∀ i, O i → i < w.heap.size) (W : World) (l : Nat) (o o' : Obj) (hl : w.heap.size ≤ l) (_ : W.heap[l]? = some o) (_ : o.isCells = false) (_ : o.isWalk = false) : KeepO O W (W.putObj l o') :=
  ⟨by simp, fun i hi => World.putObj_heap_other (fun e => by have := hO i hi; omega)⟩

/-- Spans of the object v, called at W1, hands out what tells the rows R, as long as the object's blocks O and its own new ones are left alone -/
def SpTold (O : Nat → Prop) (W1 : World) (v : Value) (R : List (Nat × Nat)) : Prop :=
  ∀ n, CallsIn Fence.wide n Try.prog 24 #[v] W1 fun e w' => Below W1.heap.size W1 w' ∧ ∃ gf lb U, e = .returned (.func (.func gf) #[] lb) ∧ (∀ args w, (callFunc gf args).run Try.prog w = .ok (.enter gf args) w) ∧ (∀ i, U i → (O i ∨ W1.heap.size ≤ i) ∧ i < w'.heap.size) ∧
    SeqStopsK Fence.wide 2 Try.prog gf lb (fun x : Nat × Nat => #[Value.agg #[.int .i64 x.1, .int .i64 x.2]]) (KeepO U) (fun ys => ys = R) (fun pre => ∃ k, k ≤ R.length ∧ pre = R.take k) R.length w'

theorem keepsFrom_cells {B : Nat} {W W' : World} {row : Option Nat} (hg : W.grownBy W' row) (hr : ∀ j, row = some j → ∃ c e f, W.heap[j]? = some (.cells c e f)) : KeepsFrom B W W' :=
  ⟨hg.size, fun k o _ hk ho => (hg.block k (Array.getElem?_eq_some_iff.1 hk).1 (fun e => by obtain ⟨c, e', f, q⟩ := hr k e.symm; rw [hk] at q; cases q; cases ho)).trans hk⟩
theorem own_cells {w : World} {base e size n : Nat} {v : Value} {xs : List Value} (h : w.ownsRow base e size v n xs) : ∀ j, v.ownBlock = some j → ∃ c e' f, w.heap[j]? = some (.cells c e' f) := by
  intro j hj
  rcases h.2 with ⟨rfl, _⟩ | ⟨g, cap, cur, rfl, _, hh, _⟩
  · simp [Value.ownBlock] at hj
  · simp only [Value.ownBlock, Option.some.injEq] at hj
    subst hj
    exact ⟨_, _, _, hh⟩

/-- what has been gathered -/
def Gath (w W0 : World) (pre : List (Nat × Nat)) (W : World) : Prop := ∃ u, Ob W w.heap.size 37 [u] ∧ W.ownsRow W0.heap.size 29 2 u pre.length (rcells pre) ∧ Below w.heap.size w W ∧ W0.heap.size ≤ W.heap.size
theorem gath_own (w W0 : World) (hw : w.heap.size < W0.heap.size) : OwnFrom W0.heap.size (Gath w W0) := by
  rintro s W W' row ⟨u, h1, h2, h3, h4⟩ hg hr
  refine ⟨u, h1.kept hg (fun e => by have := (hr _ e).1; omega), h2.kept hg ?_, h3.grown hg h3.size (fun k e => by have := (hr k e).1; omega), Nat.le_trans h4 hg.size⟩
  cases hq : u.ownBlock with
  | none => exact .inl rfl
  | some g =>
    right
    intro e
    obtain ⟨_, o, ho, hc⟩ := hr g e.symm
    obtain ⟨c, e', f, q⟩ := own_cells h2 g hq
    rw [ho] at q
    cases q
    cases hc

set_option maxRecDepth 100000 in
set_option maxHeartbeats 4000000 in
theorem rows_in {O : Nat → Prop} {w : World} {v : Value} {R : List (Nat × Nat)} (hO : ∀ i, O i → i < w.heap.size) (hs : SpTold O (w.alloc (.cells #[.slice none 0 0] 37)) v R) (hR : R.length ≤ 16384) :
    CallsIn Fence.wide 3 Try.prog 21 #[v] w fun e w' => ∃ u, e = .returned u ∧ w'.ownsRow w.heap.size 29 2 u R.length (rcells R) ∧ Below w.heap.size w w' := by
  have h1 : 1 ≤ 3 := by omega
  have hro : Fence.wide.round = none := rfl
  have h21 : Fence.wide.fn 21 := trivial
  refine callsIn_of_wp_marks Try.func21 rfl h21 ?_ hro
  simp only [Try.ntmps21, List.size_toArray, List.length_cons, List.length_nil, Nat.reduceAdd, Nat.reduceSub, Array.replicate_succ, Array.replicate_zero, List.push_toArray, List.append_toArray, List.nil_append, List.cons_append]
  gi_wp2_with fail
  refine ⟨trivial, (hs _).mono ?_⟩
  rintro e W0 ⟨b0, gf, lb, U, rfl, heg, hU, hseq⟩
  have k0 : Ob W0 w.heap.size 37 [.slice none 0 0] := (Ob.new w [.slice none 0 0] 37).old b0
  have hz0 : w.heap.size + 1 ≤ W0.heap.size := by have := b0.size; simpa using this
  have B0 : Below w.heap.size w W0 := ((Below.refl _ w).alloc (Nat.le_refl _) _).trans (b0.mono (by simp))
  have HK0 := hide k0
  have HB0 := hide B0
  have HU := hide hU
  have HEG := hide heg
  have HSEQ := hide hseq
  have HO := hide hO
  clear k0 B0 hU heg hseq hO hs b0
  gi_wp2
  refine wpIn_rangeFunc_ownH hro h1 (gf := gf) (lb := lb) rfl trivial HEG.out HSEQ.out keepO_t (keepO_b (fun i hi => (HU.out i hi).2)) (Below.refl _ _) (fun _ => rfl)
    (Gath w W0) (fun _ _ _ => False) (gath_own w W0 (by omega)) (fun _ _ _ _ _ h _ _ => h)
    ⟨.slice none 0 0, HK0.out, World.ownsRow_nil _ _ _ _, HB0.out, Nat.le_refl _⟩
    (fun x a' W => ∃ Bx, W0.heap.size ≤ Bx ∧ Ob W Bx 29 [.int .i64 x.1, .int .i64 x.2] ∧ a' = { tmps := #[v, undef, .slice none 0 0, .pointer (some ⟨w.heap.size, 0, none⟩), .pointer (some ⟨Bx, 0, none⟩), v, .func (.func gf) #[] lb, .agg #[.int .i64 x.1, .int .i64 x.2], undef, undef, undef, undef, undef], defers := [] })
    (fun x a' _ X Y row hs hg hr => by obtain ⟨Bx, e1, e2, e3⟩ := hs; exact ⟨Bx, e1, e2.kept hg (fun e => by obtain ⟨_, o, ho, hc⟩ := hr Bx e; have q : X.heap[Bx]? = _ := e2; rw [ho] at q; cases q; cases hc), e3⟩)
    ?assign ?body ?done ?stop
  case assign =>
    rintro l pre x W K ⟨u, g1, g2, g3, g4⟩ hK
    gi_wp2
    exact hK _ _ ((KeepsOthers.alloc _ _).from _) ⟨by simp, fun i hi => Below.heap_alloc W _ i (by have := (HU.out i hi).2; omega)⟩ ⟨u, g1.alloc _, g2.alloc _, g3.alloc g3.size _, by simp; omega⟩ ⟨W.heap.size, g4, Ob.new W [.int .i64 x.1, .int .i64 x.2] 29, rfl⟩
  case body =>
    rintro l pre x a' W hl ⟨r, hr⟩ ⟨u, g1, g2, g3, g4⟩ ⟨Bx, hBx, bX, rfl⟩ hlt
    have x0 := bX.cell 0
    have x1 := bX.cell 1
    have y0 := g1.cell 0
    simp only [List.getElem?_cons_zero, List.getElem?_cons_succ] at x0 x1 y0
    obtain ⟨a3, c3, hv3⟩ := own_len2 g2
    subst hv3
    obtain ⟨i0, hi, hz0', hz1, hz2⟩ := info_parts info_span
    obtain ⟨v5, w5, RR, r5, gg5, _⟩ := run_append_own (P := Try.prog) (W.alloc (.cells #[.int .i64 x.1, .int .i64 x.2] 29)) W0.heap.size 37 37 29 i0 _ 2 16 Try.underlying37 hi hz0' hz1 hz2 rfl (by decide) (.slice a3 pre.length c3) _ _ (g2.alloc _) ⟨W.heap.size, 0, none⟩ 1 1 [.int .i64 x.1, .int .i64 x.2] rfl (lit2_news W 29 _ _) (by simp [Value.oneCell']) (by unfold maxLen; omega) (by omega) (by simp; omega)
    obtain ⟨a5, c5, hv5⟩ := own_len2 r5
    subst hv5
    obtain ⟨q1, q2, q3⟩ := app_runs RR
    have hne : (Value.slice a3 pre.length c3).ownBlock ≠ some w.heap.size := fun e => by have := (g2.lt _ e).1; omega
    have ob5 := (g1.alloc (.cells #[.int .i64 x.1, .int .i64 x.2] 29)).kept gg5 hne
    have z1 := ob5.cell 0
    have f1 := ob5.frozen 0
    simp only [List.getElem?_cons_zero] at z1
    have b5 : Below w.heap.size w w5 := (g3.alloc g3.size _).grown gg5 (by have := g3.size; simp; omega) (fun q hq => by have := (g2.lt q hq).1; omega)
    have hz5 : W.heap.size + 1 ≤ w5.heap.size := by have := gg5.size; simpa using this
    have hK1 : KeepsFrom W0.heap.size W w5 := ((KeepsOthers.alloc W (.cells #[.int .i64 x.1, .int .i64 x.2] 29)).from _).trans (keepsFrom_cells gg5 (own_cells (g2.alloc _)))
    have hU5 : ∀ i, U i → w5.heap[i]? = W.heap[i]? := fun i hi => by
      have hi2 := (HU.out i hi).2
      exact (gg5.block i (by simp; omega) (fun e => by have := (g2.lt i e.symm).1; omega)).trans (Below.heap_alloc W _ i (by omega))
    have hUw : ∀ i, U i → i ≠ w.heap.size := fun i hi e => by
      subst e
      rcases (HU.out _ hi).1 with q | q
      · exact absurd (HO.out _ q) (Nat.lt_irrefl _)
      · rw [World.size_alloc] at q; omega
    have r6 : (w5.setCell ⟨w.heap.size, 0, none⟩ (.slice a5 (pre.length + 1) c5)).ownsRow W0.heap.size 29 2 (.slice a5 (pre.length + 1) c5) (pre ++ [x]).length (rcells (pre ++ [x])) := by
      have := ownsRow_setCell_below r5 (a := ⟨w.heap.size, 0, none⟩) (by show w.heap.size < W0.heap.size; omega) (.slice a5 (pre.length + 1) c5)
      rw [rcells_app]
      simpa [rcells] using this
    have G6 : Gath w W0 (pre ++ [x]) (w5.setCell ⟨w.heap.size, 0, none⟩ (.slice a5 (pre.length + 1) c5)) := ⟨_, ob5.set 0 _, r6, b5.setCell (p := ⟨w.heap.size, 0, none⟩) (Nat.le_refl _) _, by simp; omega⟩
    have K6 : KeepO U W (w5.setCell ⟨w.heap.size, 0, none⟩ (.slice a5 (pre.length + 1) c5)) := ⟨by simp; omega, fun i hi => (heap_setCell_other w5 ⟨w.heap.size, 0, none⟩ i _ (hUw i hi)).trans (hU5 i hi)⟩
    have KF : KeepsFrom W0.heap.size W (w5.setCell ⟨w.heap.size, 0, none⟩ (.slice a5 (pre.length + 1) c5)) := hK1.trans (KeepsFrom.of_grownBy (grew_set w5 w.heap.size 0 _) (fun j e => by cases e; omega))
    have HG6 := hide G6
    have HK6 := hide K6
    have HKF := hide KF
    clear RR r5 gg5 hne ob5 b5 hK1 hU5 hUw r6 G6 K6 KF g2 g1 g3
    gi_wp2
    exact ⟨HKF.out, HK6.out, HG6.out⟩
  case done =>
    rintro D ys W hD rfl ⟨u, g1, g2, g3, g4⟩ hK
    have y0 := g1.cell 0
    simp only [List.getElem?_cons_zero] at y0
    obtain ⟨a3, c3, hv3⟩ := own_len2 g2
    subst hv3
    have HG1 := hide g1
    have HG2 := hide g2
    have HG3 := hide g3
    clear g1 g2 g3
    gi_wp2
    refine ⟨by simp, .inl ⟨_, _, rfl, run_takeDeferred hK, ?_⟩⟩
    refine ⟨_, results_tmp rfl _ _ _, ?_⟩
    have g5 := HG2.out.kept (grownBy_putObj' W D (.deferred none)) (by
      cases hq : (Value.slice a3 ys.length c3).ownBlock with
      | none => exact .inl rfl
      | some g =>
        right
        intro e
        cases e
        obtain ⟨c, e', f, q⟩ := own_cells HG2.out D hq
        rw [hK] at q
        cases q)
    refine ⟨.slice a3 ys.length c3, rfl, g5.mono (by omega), HG3.out.trans (belowK_b (w := w) (Nat.le_refl _) _ D _ _ (by omega) hK rfl rfl)⟩
  case stop =>
    rintro D c pre W hD _ hf hK
    exact hf.elim

theorem rows_any {O : Nat → Prop} {w : World} {v : Value} {R : List (Nat × Nat)} (hO : ∀ i, O i → i < w.heap.size) (hs : SpTold O (w.alloc (.cells #[.slice none 0 0] 37)) v R) (hR : R.length ≤ 16384) :
    Calls Try.prog 21 #[v] w fun e w' => ∃ u, e = .returned u ∧ w'.ownsRow w.heap.size 29 2 u R.length (rcells R) ∧ Below w.heap.size w w' := callsIn_wide.1 (rows_in hO hs hR)
end Go.Proofs.Ytlomnpeelpmhiaa
