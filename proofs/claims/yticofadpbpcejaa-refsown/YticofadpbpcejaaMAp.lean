/- slices.AppendSeq at texts, against whatever iterator. Over the translation. -/
import Derived.Test.YticofadpbpcejaaMSk
import Derived.Test.YticofadpbpcejaaDGe
import Derived.BigRegion
import Derived.Handy
import Derived.RangeFuncBound
import Derived.RangeFuncCalls
import Derived.RangeFuncBox
import Derived.Shelf.Abstract
import Derived.Shelf.RegionOpen
import Derived.BigRegionIn
namespace Go.Proofs.Yticofadpbpcejaa
open Go.RowKit Go.Shelf Apo
attribute [local go_sem] Oper.semAt_some
theorem app_sem {ro : Option Nat} {P : Program} {w : World} {ρ : Operand → Value} {dst : Option Tmp} {xs : Array Operand} {ats : Array TypeId} {ty : TypeId} {pos : String} {after : Array Edge} {guard : Option (Nat × Bool)} (h : AppRuns P w ats ty (xs.map ρ)) :
    (Oper.semAt ro ρ { dst, op := .call { callee := .builtin .append, args := xs, argTypes := ats }, type := ty, pos, after, guard }).run P w = .ok (.value (appVal P w ats ty (xs.map ρ))) (appWld P w ats ty (xs.map ρ)) := by
  rw [Oper.semAt_eq _ _ _ (by simp)]
  exact app_exec h
attribute [local go_sem ↓] app_sem
theorem keepsFrom_cells {B : Nat} {W W' : World} {row : Option Nat} (hg : W.grownBy W' row) (hr : ∀ j, row = some j → ∃ c e f, W.heap[j]? = some (.cells c e f)) : KeepsFrom B W W' :=
  ⟨hg.size, fun k o _ hk ho => (hg.block k (Array.getElem?_eq_some_iff.1 hk).1 (fun e => by obtain ⟨c, e', f, q⟩ := hr k e.symm; rw [hk] at q; cases q; cases ho)).trans hk⟩
theorem own_cells {w : World} {base e size n : Nat} {v : Value} {xs : List Value} (h : w.ownsRow base e size v n xs) : ∀ j, v.ownBlock = some j → ∃ c e' f, w.heap[j]? = some (.cells c e' f) := by
  intro j hj
  rcases h.2 with ⟨rfl, _⟩ | ⟨g, cap, cur, rfl, _, hh, _⟩
  · simp [Value.ownBlock] at hj
  · simp only [Value.ownBlock, Option.some.injEq] at hj
    subst hj
    exact ⟨_, _, _, hh⟩
theorem row_not {W : World} {base : Nat} {e : TypeId} {size : Nat} {v : Value} {k : Nat} {xs : List Value} (h : W.ownsRow base e size v k xs) {D : Nat} {o : Obj} (hD : W.heap[D]? = some o) (ho : o.isCells = false) : v.ownBlock = none ∨ v.ownBlock ≠ some D := by
  cases hq : v.ownBlock with
  | none => exact .inl rfl
  | some g =>
    right
    intro e
    cases e
    obtain ⟨c, e', f, q⟩ := own_cells h _ hq
    rw [hD] at q
    cases q
    cases ho
set_option maxRecDepth 100000 in
theorem app_one {O : Nat → Prop} {W : World} {v : Value} {l : List ByteArray} (h : Row O W 9 1 v l.length (gcells cTx l)) (hn : l.length + 1 ≤ 100000000) {y : Addr} {cp : Nat} {x : ByteArray} (hr : RdG cTx 1 W (some y) [x]) :
    ∃ v' w', (Builtin.append_ #[62, 62] 62 #[v, .slice (some y) 1 cp]).run Try.prog W = .ok v' w' ∧ Row (fun g => O g ∨ g = W.heap.size) w' 9 1 v' (l ++ [x]).length (gcells cTx (l ++ [x])) ∧ W.grownBy w' v.ownBlock := by
  obtain ⟨i0, hi, hz0, hz1, hz2⟩ := info_parts info_tx
  obtain ⟨v5, w5, RR, r5, g5, _, ho5⟩ := run_append_own_at (P := Try.prog) W 0 62 62 9 i0 _ 1 16 Try.underlying62 hi hz0 hz1 hz2 rfl (by decide) v l.length (gcells cTx l) h.1 y 1 cp (gcells cTx [x]) rfl (RdG.news cTx_len (by decide) hr) (by intro u hu; simp only [gcells, List.mem_flatMap] at hu; obtain ⟨x, _, hu⟩ := hu; exact cTx_one x u hu) (by unfold maxLen; omega) (by omega) (Nat.zero_le _)
  refine ⟨v5, w5, RR, ⟨?_, fun g hg => ?_⟩, g5⟩
  · rw [List.length_append, gcells_app]
    exact r5
  · rcases ho5 with q | q
    · rw [q] at hg; exact .inl (h.2 g hg)
    · rw [q] at hg; cases hg; exact .inr rfl
/-- between two rounds: the box holds what was there and what has come -/
structure ApS (B : Nat) (w W0 : World) (l0 xs : List ByteArray) (W : World) : Prop where
  box : ∃ u, Ob W w.heap.size 62 [u] ∧ Row (fun g => B ≤ g ∧ g ≠ w.heap.size) W 9 1 u (l0 ++ xs).length (gcells cTx (l0 ++ xs))
  bel : Below B w W
  siz : W0.heap.size ≤ W.heap.size
theorem ApS.own {B : Nat} {w W0 : World} {l0 : List ByteArray} (hB : B ≤ w.heap.size) (h : w.heap.size < W0.heap.size) : OwnFrom W0.heap.size (ApS B w W0 l0) := by
  rintro s W W' row ⟨⟨u, a2, a3⟩, a7, a8⟩ hgr hr
  refine ⟨⟨u, a2.kept hgr (fun e => by have := (hr _ e).1; omega), ⟨a3.1.kept hgr ?_, a3.2⟩⟩, a7.grown hgr (by have := a7.size; omega) (fun k e => by have := (hr k e).1; omega), Nat.le_trans a8 hgr.size⟩
  cases hq : u.ownBlock with
  | none => exact .inl rfl
  | some g =>
    right
    intro e
    obtain ⟨_, o, ho, hc⟩ := hr g e.symm
    obtain ⟨c, e', f, q⟩ := own_cells a3.1 g hq
    rw [ho] at q
    cases q
    cases hc
set_option maxRecDepth 100000 in
set_option maxHeartbeats 4000000 in
theorem sappend_in (n : Nat) (hn : 2 ≤ n) (gf : Nat) (lb : Array Value) (eg : ∀ args w, (callFunc gf args).run Try.prog w = .ok (.enter gf args) w) (S : List ByteArray → Prop) (N : Nat) (hN : N ≤ 1000000) (w : World) (B : Nat) (hB : B ≤ w.heap.size) (a0 : Option Addr) (c0 : Nat) (l0 : List ByteArray) (hl0 : l0.length ≤ 1000000) (hr0 : Row (fun g => B ≤ g) w 9 1 (.slice a0 l0.length c0) l0.length (gcells cTx l0))
    (hseq : SeqStopsK Fence.wide (n - 1) Try.prog gf lb (fun i => #[encS i]) KeepsWalks S (fun _ => True) N w) :
    CallsIn Fence.wide n Try.prog 36 #[.slice a0 l0.length c0, .func (.func gf) #[] lb] w fun e w' => ∃ (a : Option Addr) (c : Nat) (xs : List ByteArray), e = .returned (.slice a (l0 ++ xs).length c) ∧ S xs ∧ Row (fun g => B ≤ g) w' 9 1 (.slice a (l0 ++ xs).length c) (l0 ++ xs).length (gcells cTx (l0 ++ xs)) ∧ Below B w w' := by
  have h1 : 1 ≤ n := by omega
  have hro : Fence.wide.round = none := rfl
  obtain ⟨n0, hn0⟩ : ∃ n0, n0 = l0.length := ⟨_, rfl⟩
  have bb := Ob.new w [.slice a0 l0.length c0] 62
  have hBw : Below w.heap.size w (w.alloc (.cells [Value.slice a0 l0.length c0].toArray 62)) := (Below.refl _ w).alloc (Nat.le_refl _) _
  have hrow1 : Row (fun g => B ≤ g ∧ g ≠ w.heap.size) (w.alloc (.cells [Value.slice a0 l0.length c0].toArray 62)) 9 1 (.slice a0 l0.length c0) (l0 ++ []).length (gcells cTx (l0 ++ [])) := by
    rw [List.append_nil]
    refine ⟨hr0.1.alloc _, fun g hg => ⟨hr0.2 g hg, ?_⟩⟩
    have := (hr0.1.lt g hg).2
    omega
  have hsz : (w.alloc (.cells [Value.slice a0 l0.length c0].toArray 62)).heap.size = w.heap.size + 1 := by simp
  have HR1 := hide hrow1
  clear hrow1
  rw [← hn0] at bb hBw HR1 hsz ⊢
  clear hn0
  refine callsIn_of_wp_marks Try.func36 rfl trivial ?_ hro
  simp only [Try.ntmps36, List.size_toArray, List.length_cons, List.length_nil, Nat.reduceAdd, Nat.reduceSub, Array.replicate_succ, Array.replicate_zero, List.push_toArray, List.append_toArray, List.nil_append, List.cons_append]
  gi_wp2
  have hrow1 := HR1.out
  clear HR1
  generalize w.alloc (.cells [Value.slice a0 n0 c0].toArray 62) = W0 at *
  refine wpIn_rangeFunc_ownH hro h1 (gf := gf) (lb := lb) rfl trivial eg hseq walksK_t (walksK_b (w := W0)) hBw (fun _ => rfl)
    (ApS B w W0 l0) (fun _ _ _ => False) (ApS.own hB (by omega)) (fun c s X Y row hs _ _ => hs)
    ⟨⟨_, bb, hrow1⟩, hBw.mono hB, Nat.le_refl _⟩
    (fun x a' W => a' = { tmps := #[.slice a0 n0 c0, .func (.func gf) #[] lb, .pointer (some ⟨w.heap.size, 0, none⟩), undef, .slice none 0 0, .string x, .func (.func gf) #[] lb, .string x, undef, undef, undef, undef, undef], defers := [] })
    (fun x a' _ X Y row hs _ _ => hs)
    ?assign ?body ?done ?stop
  case assign =>
    rintro l pre x W K hI hK
    gi_wp2
    exact hK _ _ (KeepsFrom.refl _ _) (KeepsWalks.refl _) hI rfl
  case body =>
    rintro l pre x a' W hl ⟨r, hr⟩ ⟨⟨u, i2, i3⟩, i7, i8⟩ rfl hlt
    obtain ⟨a3, c3, hv3, _⟩ := i3.form
    subst hv3
    have hsW0 := i7.size
    have i3' : Row (fun g => B ≤ g ∧ g ≠ w.heap.size) (W.alloc (.cells (cTx x).toArray 9)) 9 1 (.slice a3 (l0 ++ pre).length c3) (l0 ++ pre).length (gcells cTx (l0 ++ pre)) := ⟨i3.1.alloc _, i3.2⟩
    obtain ⟨v4, w4, R4, r4, g4⟩ := app_one (y := ⟨W.heap.size, 0, none⟩) (cp := 1) (x := x) i3' (by simp; omega) (rd_lit (c := cTx) (k := 1) 9 W x)
    obtain ⟨a5, c5, hv5, _⟩ := r4.form
    subst hv5
    have hne : (Value.slice a3 (l0 ++ pre).length c3).ownBlock ≠ some w.heap.size := fun e => (i3.2 _ e).2 rfl
    have hsw : w.heap.size < W.heap.size := i2.lt
    have o4 := (i2.alloc (.cells (cTx x).toArray 9)).kept g4 hne
    have hne5 : (Value.slice a5 (l0 ++ pre ++ [x]).length c5).ownBlock ≠ some w.heap.size := fun e => by
      rcases r4.2 _ e with q | q
      · exact q.2 rfl
      · rw [World.size_alloc] at q; omega
    have r6 : Row (fun g => B ≤ g ∧ g ≠ w.heap.size) (w4.setCell ⟨w.heap.size, 0, none⟩ (.slice a5 (l0 ++ pre ++ [x]).length c5)) 9 1 (.slice a5 (l0 ++ pre ++ [x]).length c5) (l0 ++ pre ++ [x]).length (gcells cTx (l0 ++ pre ++ [x])) := by
      refine ⟨r4.1.kept (grew_set w4 w.heap.size 0 _) (.inr hne5), fun g hg => ?_⟩
      rcases r4.2 _ hg with q | q
      · exact q
      · rw [World.size_alloc] at q
        omega
    have hsW : W.heap.size + 1 ≤ w4.heap.size := by have := g4.size; simpa using this
    have B4 : Below B w w4 := (i7.alloc (by omega) _).grown g4 (by simp; omega) (fun k e => (i3.2 k e).1)
    have G6 : ApS B w W0 l0 (pre ++ [x]) (w4.setCell ⟨w.heap.size, 0, none⟩ (.slice a5 (l0 ++ pre ++ [x]).length c5)) := by
      refine ⟨⟨_, o4.set 0 _, ?_⟩, B4.setCell (p := ⟨w.heap.size, 0, none⟩) hB _, by simp [World.setCell]; omega⟩
      rw [← List.append_assoc]
      exact r6
    have KF6 : KeepsFrom W0.heap.size W (w4.setCell ⟨w.heap.size, 0, none⟩ (.slice a5 (l0 ++ pre ++ [x]).length c5)) := ((((KeepsOthers.alloc W _).from _).trans (keepsFrom_cells g4 (own_cells i3'.1))).trans (KeepsFrom.of_grownBy (grew_set w4 w.heap.size 0 _) (fun j e => by cases e; omega)))
    have KW6 : KeepsWalks W (w4.setCell ⟨w.heap.size, 0, none⟩ (.slice a5 (l0 ++ pre ++ [x]).length c5)) := ((KeepsWalks.alloc W _).trans (KeepsWalks.of_grownBy g4 (fun j o hj ho => by obtain ⟨c, e, f, q⟩ := own_cells i3'.1 j hj; rw [ho] at q; cases q; rfl))).trans (KeepsWalks.setCell _ _ _)
    obtain ⟨L, hL⟩ : ∃ L, L = (l0 ++ pre).length := ⟨_, rfl⟩
    obtain ⟨L5, hLL⟩ : ∃ L, L = (l0 ++ pre ++ [x]).length := ⟨_, rfl⟩
    have y0 := i2.cell 0
    have z4 := o4.cell 0
    have f4 := o4.frozen 0
    simp only [List.getElem?_cons_zero] at y0 z4
    rw [← hL] at R4 y0 z4
    rw [← hLL] at R4 G6 KF6 KW6
    simp only [cTx] at R4
    obtain ⟨q1, q2, q3⟩ := app_runs R4
    have HG6 := hide G6
    have HF6 := hide KF6
    have HW6 := hide KW6
    clear R4 r4 g4 r6 G6 KF6 KW6 hne hne5 o4 i2 i3 i3' i7 hL hLL B4
    gi_wp2
    exact ⟨HF6.out, HW6.out, HG6.out⟩
  case done =>
    rintro D ys W hD hS ⟨⟨u, i2, i3⟩, i7, i8⟩ hK
    obtain ⟨a3, c3, hv3, _⟩ := i3.form
    subst hv3
    have y0 := i2.cell 0
    have f0 := i2.frozen 0
    simp only [List.getElem?_cons_zero] at y0
    have HK := hide hK
    have HI := hide i3
    have H7 := hide i7
    have HS := hide hS
    have hLD : D < W.heap.size := (Array.getElem?_eq_some_iff.1 hK).1
    have hsW := i7.size
    obtain ⟨L, hL⟩ : ∃ L, L = (l0 ++ ys).length := ⟨_, rfl⟩
    rw [← hL] at y0
    have HL := hide hL
    clear i2 i3 i7 hS hK hL
    gi_wp2
    refine ⟨by simp, .inl ⟨_, _, rfl, run_takeDeferred HK.out, ?_⟩⟩
    refine ⟨_, results_tmp rfl _ _ _, a3, c3, ys, by rw [← HL.out]; rfl, HS.out, ⟨HI.out.1.kept (grownBy_putObj' _ _ _) (row_not HI.out.1 HK.out rfl), fun g hg => (HI.out.2 g hg).1⟩, H7.out.grown (grownBy_putObj' _ _ _) (by omega) (fun k e => by cases e; omega)⟩
  case stop =>
    rintro D c pre W hD _ h
    exact h.elim
end Go.Proofs.Yticofadpbpcejaa
