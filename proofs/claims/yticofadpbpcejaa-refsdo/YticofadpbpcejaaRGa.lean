/- Law 16's all: what a table tells, gathered. Over the translation. -/
import Derived.Test.YticofadpbpcejaaRVl
namespace Go.Proofs.Yticofadpbpcejaa
open Go.RowKit Go.Shelf Apo
attribute [local go_sem] Oper.semAt_some
attribute [local go_sem ↓] app_sem
/-- what has been gathered -/
def GathR (w W0 : World) (pre : List Rf) (W : World) : Prop := ∃ u, Ob W w.heap.size 22 [u] ∧ W.ownsRow W0.heap.size 32 3 u pre.length (gcells cRf pre) ∧ Below w.heap.size w W ∧ W0.heap.size ≤ W.heap.size
theorem gathr_own (w W0 : World) (hw : w.heap.size < W0.heap.size) : OwnFrom W0.heap.size (GathR w W0) := by
  rintro s W W' row ⟨u, h1, h2, h3, h4⟩ hg hr
  refine ⟨u, h1.kept hg (fun e => by have := (hr _ e).1; omega), h2.kept hg ?_, h3.grown hg h3.size (fun k e => by have := (hr k e).1; omega), Nat.le_trans h4 hg.size⟩
  cases hq : u.ownBlock with
  | none => exact .inl rfl
  | some g =>
    right
    intro e
    obtain ⟨_, o, ho, hc⟩ := hr g e.symm
    obtain ⟨c, e', f, q⟩ := own_cells h2 g hq
    rw [ho] at q
    cases q
    cases hc
theorem own_form3 {w : World} {B n : Nat} {e : TypeId} {size : Nat} {v : Value} {xs : List Value} (h : w.ownsRow B e size v n xs) : ∃ a c, v = .slice a n c := by
  rcases h.2 with ⟨rfl, hz⟩ | ⟨g, cap, cur, rfl, _⟩
  · exact ⟨none, 0, by rw [hz]⟩
  · exact ⟨_, cap, rfl⟩
theorem row_to0 {w : World} {B : Nat} {e : TypeId} {size : Nat} {v : Value} {n : Nat} {xs : List Value} (h : w.ownsRow B e size v n xs) : Row (fun g => B ≤ g) w e size v n xs := by
  refine ⟨⟨h.1, ?_⟩, fun g hg => (h.lt g hg).1⟩
  rcases h.2 with q | ⟨g, cap, cur, h1, h2, h3⟩
  · exact .inl q
  · exact .inr ⟨g, cap, cur, h1, Nat.zero_le _, h3⟩
/-- one ref more -/
theorem gath_more {W : World} {B : Nat} {a : Option Addr} {c : Nat} {pre : List Rf} (x : Rf) (h : W.ownsRow B 32 3 (.slice a pre.length c) pre.length (gcells cRf pre)) (hB : B ≤ W.heap.size) (hl : pre.length ≤ 1000000) :
    ∃ a5 c5 w5, (Builtin.append_ #[22, 22] 22 #[.slice a pre.length c, .slice (some ⟨W.heap.size, 0, none⟩) 1 1]).run Try.prog (W.alloc (.cells #[.string x.n, .bool x.t, .int .u64 x.i] 32)) = .ok (.slice a5 (pre.length + 1) c5) w5 ∧
      w5.ownsRow B 32 3 (.slice a5 (pre.length + 1) c5) (pre ++ [x]).length (gcells cRf (pre ++ [x])) ∧ (W.alloc (.cells #[.string x.n, .bool x.t, .int .u64 x.i] 32)).grownBy w5 (Value.slice a pre.length c).ownBlock := by
  obtain ⟨i0, hi, hz0, hz1, hz2⟩ := info_parts info_rf
  have hnews := RdG.news cRf_len (by decide) (rd_lit (c := cRf) (k := 3) 32 W x)
  obtain ⟨v5, w5, RR, r5, g5, _⟩ := run_append_own (P := Try.prog) (W.alloc (.cells #[.string x.n, .bool x.t, .int .u64 x.i] 32)) B 22 22 32 i0 _ 3 32 Try.underlying22 hi hz0 hz1 hz2 rfl (by decide) (.slice a pre.length c) _ _ (h.alloc _) ⟨W.heap.size, 0, none⟩ 1 1 (gcells cRf [x]) rfl hnews (by simp [gcells, cRf, Value.oneCell']) (by unfold maxLen; omega) (by omega) (by simp; omega)
  obtain ⟨a5, c5, rfl⟩ := own_form3 r5
  refine ⟨a5, c5, w5, RR, ?_, g5⟩
  rw [gcells_app, List.length_append]
  exact r5
/-- a table's refs in a row of the call's own -/
def GaP (L : List Rf) (w : World) (e : Ending) (w' : World) : Prop :=
  ∃ (a : Option Addr) (n c : Nat), e = .returned (.slice a n c) ∧ n = L.length ∧ Row (fun g => w.heap.size ≤ g) w' 32 3 (.slice a n c) L.length (gcells cRf L) ∧ Below w.heap.size w w'
set_option maxRecDepth 100000 in
set_option maxHeartbeats 4000000 in
theorem gall_in {w : World} {v : Value} {L : List Rf} (hl : L.length ≤ 40) (hs : ∀ n, CallsIn Fence.wide n Try.prog 26 #[v] (w.alloc (.cells #[.slice none 0 0] 22)) (AlP L (w.alloc (.cells #[.slice none 0 0] 22)))) :
    CallsIn Fence.wide 3 Try.prog 18 #[v] w (GaP L w) := by
  have h1 : 1 ≤ 3 := by omega
  have hro : Fence.wide.round = none := rfl
  have h21 : Fence.wide.fn 18 := trivial
  refine callsIn_of_wp_marks Try.func18 rfl h21 ?_ hro
  simp only [Try.ntmps18, List.size_toArray, List.length_cons, List.length_nil, Nat.reduceAdd, Nat.reduceSub, Array.replicate_succ, Array.replicate_zero, List.push_toArray, List.append_toArray, List.nil_append, List.cons_append]
  gi_wp2_with fail
  refine ⟨trivial, (hs _).mono ?_⟩
  rintro e W0 hT
  obtain ⟨b0, gf, lb, U, rfl, heg, hU, hseq⟩ := all_told hl hT
  have k0 : Ob W0 w.heap.size 22 [.slice none 0 0] := (Ob.new w [.slice none 0 0] 22).old b0
  have hz0 : w.heap.size + 1 ≤ W0.heap.size := by have := b0.size; simpa using this
  have B0 : Below w.heap.size w W0 := ((Below.refl _ w).alloc (Nat.le_refl _) _).trans (b0.mono (by simp))
  have HK0 := hide k0
  have HB0 := hide B0
  have HU := hide hU
  have HEG := hide heg
  have HSEQ := hide hseq
  clear k0 B0 hU heg hseq hs b0 hT
  gi_wp2
  refine wpIn_rangeFunc_ownH hro h1 (gf := gf) (lb := lb) rfl trivial HEG.out HSEQ.out keepO_t (keepO_b (fun i hi => (HU.out i hi).2)) (Below.refl _ _) (fun _ => rfl)
    (GathR w W0) (fun _ _ _ => False) (gathr_own w W0 (by omega)) (fun _ _ _ _ _ h _ _ => h)
    ⟨.slice none 0 0, HK0.out, World.ownsRow_nil _ _ _ _, HB0.out, Nat.le_refl _⟩
    (fun x a' W => ∃ Bx, W0.heap.size ≤ Bx ∧ Ob W Bx 32 [.string x.n, .bool x.t, .int .u64 x.i] ∧ a' = { tmps := #[v, undef, .slice none 0 0, .pointer (some ⟨w.heap.size, 0, none⟩), .pointer (some ⟨Bx, 0, none⟩), v, .func (.func gf) #[] lb, .agg #[.string x.n, .bool x.t, .int .u64 x.i], undef, undef, undef, undef, undef], defers := [] })
    (fun x a' _ X Y row hs hg hr => by obtain ⟨Bx, e1, e2, e3⟩ := hs; exact ⟨Bx, e1, e2.kept hg (fun e => by obtain ⟨_, o, ho, hc⟩ := hr Bx e; have q : X.heap[Bx]? = _ := e2; rw [ho] at q; cases q; cases hc), e3⟩)
    ?assign ?body ?done ?stop
  case assign =>
    rintro l pre x W K ⟨u, g1, g2, g3, g4⟩ hK
    gi_wp2
    exact hK _ _ ((KeepsOthers.alloc _ _).from _) ⟨by simp, fun i hi => Below.heap_alloc W _ i (by have := (HU.out i hi).2; omega)⟩ ⟨u, g1.alloc _, g2.alloc _, g3.alloc g3.size _, by simp; omega⟩ ⟨W.heap.size, g4, Ob.new W [.string x.n, .bool x.t, .int .u64 x.i] 32, rfl⟩
  case body =>
    rintro l pre x a' W hl2 ⟨r, hr⟩ ⟨u, g1, g2, g3, g4⟩ ⟨Bx, hBx, bX, rfl⟩ hlt
    have x0 := bX.cell 0
    have x1 := bX.cell 1
    have x2 := bX.cell 2
    have y0 := g1.cell 0
    simp only [List.getElem?_cons_zero, List.getElem?_cons_succ] at x0 x1 x2 y0
    obtain ⟨a3, c3, hv3⟩ := own_form3 g2
    subst hv3
    obtain ⟨a5, c5, w5, RR, r5, gg5⟩ := gath_more x g2 g4 (by omega)
    obtain ⟨q1, q2, q3⟩ := app_runs RR
    have hne : (Value.slice a3 pre.length c3).ownBlock ≠ some w.heap.size := fun e => by have := (g2.lt _ e).1; omega
    have ob5 := (g1.alloc (.cells #[.string x.n, .bool x.t, .int .u64 x.i] 32)).kept gg5 hne
    have z1 := ob5.cell 0
    have f1 := ob5.frozen 0
    simp only [List.getElem?_cons_zero] at z1
    have b5 : Below w.heap.size w w5 := (g3.alloc g3.size _).grown gg5 (by have := g3.size; simp; omega) (fun q hq => by have := (g2.lt q hq).1; omega)
    have hz5 : W.heap.size + 1 ≤ w5.heap.size := by have := gg5.size; simpa using this
    have hK1 : KeepsFrom W0.heap.size W w5 := ((KeepsOthers.alloc W (.cells #[.string x.n, .bool x.t, .int .u64 x.i] 32)).from _).trans (keepsFrom_cells gg5 (own_cells (g2.alloc _)))
    have hU5 : ∀ i, U i → w5.heap[i]? = W.heap[i]? := fun i hi => by
      have hi2 := (HU.out i hi).2
      exact (gg5.block i (by simp; omega) (fun e => by have := (g2.lt i e.symm).1; omega)).trans (Below.heap_alloc W _ i (by omega))
    have hUw : ∀ i, U i → i ≠ w.heap.size := fun i hi e => by
      have q := (HU.out i hi).1
      rw [World.size_alloc] at q
      omega
    have r6 : (w5.setCell ⟨w.heap.size, 0, none⟩ (.slice a5 (pre.length + 1) c5)).ownsRow W0.heap.size 32 3 (.slice a5 (pre.length + 1) c5) (pre ++ [x]).length (gcells cRf (pre ++ [x])) :=
      ownsRow_setCell_below r5 (a := ⟨w.heap.size, 0, none⟩) (by show w.heap.size < W0.heap.size; omega) (.slice a5 (pre.length + 1) c5)
    have G6 : GathR w W0 (pre ++ [x]) (w5.setCell ⟨w.heap.size, 0, none⟩ (.slice a5 (pre.length + 1) c5)) := ⟨_, ob5.set 0 _, r6, b5.setCell (p := ⟨w.heap.size, 0, none⟩) (Nat.le_refl _) _, by simp; omega⟩
    have K6 : KeepO U W (w5.setCell ⟨w.heap.size, 0, none⟩ (.slice a5 (pre.length + 1) c5)) := ⟨by simp; omega, fun i hi => (heap_setCell_other w5 ⟨w.heap.size, 0, none⟩ i _ (hUw i hi)).trans (hU5 i hi)⟩
    have KF : KeepsFrom W0.heap.size W (w5.setCell ⟨w.heap.size, 0, none⟩ (.slice a5 (pre.length + 1) c5)) := hK1.trans (KeepsFrom.of_grownBy (grew_set w5 w.heap.size 0 _) (fun j e => by cases e; omega))
    have HG6 := hide G6
    have HK6 := hide K6
    have HKF := hide KF
    clear RR r5 gg5 hne ob5 b5 hK1 hU5 hUw r6 G6 K6 KF g2 g1 g3
    gi_wp2
    exact ⟨HKF.out, HK6.out, HG6.out⟩
  case done =>
    rintro D ys W hD rfl ⟨u, g1, g2, g3, g4⟩ hK
    have y0 := g1.cell 0
    have f0 := g1.frozen 0
    simp only [List.getElem?_cons_zero] at y0
    obtain ⟨a3, c3, hv3⟩ := own_form3 g2
    subst hv3
    have HK := hide hK
    have HI := hide g2
    have H7 := hide g3
    have hLD : D < W.heap.size := (Array.getElem?_eq_some_iff.1 hK).1
    clear g1 g2 g3 hK
    gi_wp2
    refine ⟨by simp, .inl ⟨_, _, rfl, run_takeDeferred HK.out, ?_⟩⟩
    refine ⟨_, results_tmp rfl _ _ _, a3, ys.length, c3, rfl, rfl, ?_, H7.out.grown (grownBy_putObj' _ _ _) H7.out.size (fun k e => by cases e; omega)⟩
    exact (row_to0 (HI.out.kept (grownBy_putObj' _ _ _) (row_not HI.out HK.out rfl))).mono (fun g hg => by omega)
  case stop =>
    rintro D c pre W hD _ hf hK
    exact hf.elim
theorem gall_any {w : World} {v : Value} {m : Option Nat} {L : List Rf} (h : Tv w v m L) : Calls Try.prog 18 #[v] w (GaP L w) := by
  have bA : Below w.heap.size w (w.alloc (.cells #[.slice none 0 0] 22)) := (Below.refl _ w).alloc (Nat.le_refl _) _
  exact callsIn_wide.1 (gall_in h.ok.ok.len (fun n => callsIn_wide.2 (all_any ⟨fun W b => h.refs W (bA.trans (b.mono bA.size)), h.ms.old bA, h.ok⟩)))
end Go.Proofs.Yticofadpbpcejaa
