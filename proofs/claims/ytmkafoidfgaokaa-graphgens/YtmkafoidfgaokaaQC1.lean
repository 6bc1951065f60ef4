/- Law 15's ids: what a graph tells, gathered. Over the translation. Law 15's ids, walked. Over the translation. -/
import Derived.Test.YtmkafoidfgaokaaQB7
namespace Go.Proofs.Ytmkafoidfgaokaa
open Go.RowKit Go.Shelf Apo
attribute [local go_sem] Oper.semAt_some
attribute [local go_sem ↓] app_sem
/-- what has been gathered -/
def GathU (w W0 : World) (pre : List Nat) (W : World) : Prop := ∃ u, Ob W w.heap.size 30 [u] ∧ W.ownsRow W0.heap.size 23 1 u (iu pre).length ((iu pre).map (Value.int .u64)) ∧ Below w.heap.size w W ∧ W0.heap.size ≤ W.heap.size
theorem gathu_own (w W0 : World) (hw : w.heap.size < W0.heap.size) : OwnFrom W0.heap.size (GathU w W0) := by
  rintro s W W' row ⟨u, h1, h2, h3, h4⟩ hg hr
  refine ⟨u, h1.kept hg (fun e => by have := (hr _ e).1; omega), h2.kept hg ?_, h3.grown hg h3.size (fun k e => by have := (hr k e).1; omega), Nat.le_trans h4 hg.size⟩
  cases hq : u.ownBlock with
  | none => exact .inl rfl
  | some g =>
    right
    intro e
    obtain ⟨_, o, ho, hc⟩ := hr g e.symm
    obtain ⟨c, e', f, q⟩ := own_cells h2 g hq
    rw [ho] at q
    cases q
    cases hc
/-- numbers as 64-bit ones -/
theorem iu_of {L : List Int} (h : InU L) : iu (L.map Int.toNat) = L := by
  unfold iu
  rw [List.map_map]
  conv => rhs; rw [← List.map_id L]
  refine List.map_congr_left fun z hz => ?_
  have := h z hz
  simp only [Function.comp, id]
  omega
/-- Ids hands out what tells these numbers, as long as some blocks of its own are left alone -/
theorem ids_told {w : World} {L : List Int} (hL : InU L) (hl : L.length ≤ 100000) {e : Ending} {w' : World} (h : IdsT w L e w') : Below w.heap.size w w' ∧ ∃ gf lb U, e = .returned (.func (.func gf) #[] lb) ∧ (∀ args w, (callFunc gf args).run Try.prog w = .ok (.enter gf args) w) ∧ (∀ i, U i → w.heap.size ≤ i ∧ i < w'.heap.size) ∧
    SeqStopsK Fence.wide 2 Try.prog gf lb (fun i => #[encU i]) (KeepO U) (fun ys => ys = L.map Int.toNat) (fun pre => ∃ k, k ≤ (L.map Int.toNat).length ∧ pre = (L.map Int.toNat).take k) (L.map Int.toNat).length w' := by
  obtain ⟨a, n, c, Bs, rfl, hBs, hn, ob, row, hb⟩ := h
  refine ⟨hb, 62, _, (fun i => a = some ⟨i, 0, none⟩), rfl, enters_of Try.func62 (by kernel_rfl) rfl, ?_, ?_⟩
  · intro i hi
    subst hi
    exact ⟨row.2 i rfl, row.lt i rfl⟩
  · subst hn
    cases a with
    | none =>
      obtain ⟨a', c', hv, h1, h2, h3, _⟩ := row.form
      injection hv with e1 e2 e3
      subst e1 e3
      have hc := h3 rfl
      subst hc
      have hL0 : L = [] := List.eq_nil_of_length_eq_zero (by omega)
      subst hL0
      have q := uvals_nil (w := w') (Bs := Bs) ob (KeepO (fun i => (none : Option Addr) = some ⟨i, 0, none⟩))
      intro l J Jx W hW hJ hJx hY h0
      refine (q l J Jx W hW hJ hJx hY h0).mono ?_
      rintro e W' ⟨hv, h | ⟨pre, rfl, h⟩⟩
      · exact ⟨hv, .inl h⟩
      · exact ⟨hv, .inr ⟨[], ⟨0, by simp, rfl⟩, h⟩⟩
    | some ad =>
      obtain ⟨a', c', hv, h1, h2, h3, h4⟩ := row.form
      injection hv with e1 e2 e3
      subst e1 e3
      obtain ⟨g, rfl, hg⟩ := h4 ad rfl
      have hll : (L.map Int.toNat).length = L.length := by simp
      have hgl : g < w'.heap.size := row.lt g rfl
      have q := uvals_stops (w := w') (Bs := Bs) (g := g) (cap := c) (xs := L.map Int.toNat) (by omega) (by omega) hgl (by rw [hll]; exact ob) (fun i hi => by
        have hi2 : i < L.length := by simpa using hi
        obtain ⟨b, off, ha, hc⟩ := (Rd.own row.1).1 i hi2
        injection ha with ha
        injection ha with e1 e2
        subst e1 e2
        rw [Nat.zero_add] at hc
        rw [hc]
        have hz := hL L[i] (List.getElem_mem hi2)
        simp only [List.getD, List.getElem?_eq_getElem hi2, Option.getD_some, List.getElem_map]
        congr 2
        omega)
      have eU : (fun i => some (⟨g, 0, none⟩ : Addr) = some ⟨i, 0, none⟩) = (fun i => i = g) := by
        funext i
        simp only [Option.some.injEq, Addr.mk.injEq, and_true, eq_iff_iff]
        exact eq_comm
      rw [eU]
      exact q
end Go.Proofs.Ytmkafoidfgaokaa
namespace Go.Proofs.Ytmkafoidfgaokaa
open Go.RowKit Go.Shelf Apo
attribute [local go_sem] Oper.semAt_some
attribute [local go_sem ↓] app_sem
set_option maxRecDepth 100000 in
set_option maxHeartbeats 4000000 in
theorem lids_in {w : World} {v : Value} {L : List Int} (hLu : InU L) (hl : L.length ≤ 100000) (hs : ∀ n, CallsIn Fence.wide n Try.prog 38 #[v] (w.alloc (.cells #[.slice none 0 0] 30)) (IdsT (w.alloc (.cells #[.slice none 0 0] 30)) L)) :
    CallsIn Fence.wide 3 Try.prog 16 #[v] w (NuP w L) := by
  have h1 : 1 ≤ 3 := by omega
  have hro : Fence.wide.round = none := rfl
  have h21 : Fence.wide.fn 16 := trivial
  have hiu := iu_of hLu
  obtain ⟨i0, hi0, hz0, hz1, hz2⟩ := info_parts uinfoU
  refine callsIn_of_wp_marks Try.func16 rfl h21 ?_ hro
  simp only [Try.ntmps16, List.size_toArray, List.length_cons, List.length_nil, Nat.reduceAdd, Nat.reduceSub, Array.replicate_succ, Array.replicate_zero, List.push_toArray, List.append_toArray, List.nil_append, List.cons_append]
  gi_wp2_with fail
  refine ⟨trivial, (hs _).mono ?_⟩
  rintro e W0 hT
  obtain ⟨b0, gf, lb, U, rfl, heg, hU, hseq⟩ := ids_told hLu hl hT
  have k0 : Ob W0 w.heap.size 30 [.slice none 0 0] := (Ob.new w [.slice none 0 0] 30).old b0
  have hz0' : w.heap.size + 1 ≤ W0.heap.size := by have := b0.size; simpa using this
  have B0 : Below w.heap.size w W0 := ((Below.refl _ w).alloc (Nat.le_refl _) _).trans (b0.mono (by simp))
  have HK0 := hide k0
  have HB0 := hide B0
  have HU := hide hU
  have HEG := hide heg
  have HSEQ := hide hseq
  have HIU := hide hiu
  have HLL := hide hl
  clear k0 B0 hU heg hseq hs b0 hT hiu hLu hl
  gi_wp2
  refine wpIn_rangeFunc_ownH hro h1 (gf := gf) (lb := lb) rfl trivial HEG.out HSEQ.out keepO_t (keepO_b (fun i hi => (HU.out i hi).2)) (Below.refl _ _) (fun _ => rfl)
    (GathU w W0) (fun _ _ _ => False) (gathu_own w W0 (by omega)) (fun _ _ _ _ _ h _ _ => h)
    ⟨.slice none 0 0, HK0.out, World.ownsRow_nil _ _ _ _, HB0.out, Nat.le_refl _⟩
    (fun x a' W => a' = { tmps := #[v, undef, .slice none 0 0, .pointer (some ⟨w.heap.size, 0, none⟩), .int .u64 (x : Int), v, .func (.func gf) #[] lb, .int .u64 (x : Int), undef, undef, undef, undef, undef], defers := [] })
    (fun x a' _ X Y row hs _ _ => hs)
    ?assign ?body ?done ?stop
  case assign =>
    rintro l pre x W K hI hK
    gi_wp2
    exact hK _ _ (KeepsFrom.refl _ _) ⟨Nat.le_refl _, fun _ _ => rfl⟩ hI rfl
  case body =>
    rintro l pre x a' W hl ⟨r, hr⟩ ⟨u, i2, i3, i7, i8⟩ rfl hlt
    obtain ⟨a3, c3, hv3⟩ := own_len i3
    subst hv3
    have hpl := iu_len pre
    have hlt' : pre.length < L.length := by simpa using hlt
    have i3' := i3.alloc (.cells #[.int .u64 (x : Int)] 23)
    obtain ⟨v4, w4, R4, r4, g4⟩ := run_append_rd (P := Try.prog) (w := W.alloc (.cells #[.int .u64 (x : Int)] 23)) W0.heap.size 30 30 23 i0 _ 8 Try.underlying30 hi0 hz0 hz1 hz2 rfl .u64 (.slice a3 (iu pre).length c3) (iu pre) i3' (some ⟨W.heap.size, 0, none⟩) 1 [(x : Int)] (rd_one W _ _) (fun e => by cases e) (by unfold maxLen; simp; have := HLL.out; omega) (by simp; have := HLL.out; omega) (by simp; omega)
    rw [← iu_snoc] at r4
    rw [show [(x : Int)].length = 1 from rfl] at R4
    obtain ⟨a5, c5, hv5⟩ := own_len r4
    subst hv5
    have hne : (Value.slice a3 (iu pre).length c3).ownBlock ≠ some w.heap.size := fun e => by have := (i3.lt _ e).1; omega
    have o4 := (i2.alloc (.cells #[.int .u64 (x : Int)] 23)).kept g4 hne
    have r6 := ownsRow_setCell_below r4 (a := ⟨w.heap.size, 0, none⟩) (by show w.heap.size < W0.heap.size; omega) (.slice a5 (iu (pre ++ [x])).length c5)
    have hsW : W.heap.size + 1 ≤ w4.heap.size := by have := g4.size; simpa using this
    have B4 : Below w.heap.size w w4 := (i7.alloc i7.size _).grown g4 (by have := i7.size; simp; omega) (fun k e => by have := (i3'.lt k e).1; omega)
    have hUw : ∀ i, U i → i ≠ w.heap.size := fun i hi e => by
      have := (HU.out i hi).1
      rw [World.size_alloc] at this
      omega
    have hU4 : ∀ i, U i → w4.heap[i]? = W.heap[i]? := fun i hi => by
      have hi2 := (HU.out i hi).2
      exact (g4.block i (by simp; omega) (fun e => by have := (i3'.lt i e.symm).1; omega)).trans (Below.heap_alloc W _ i (by omega))
    have G6 : GathU w W0 (pre ++ [x]) (w4.setCell ⟨w.heap.size, 0, none⟩ (.slice a5 (iu (pre ++ [x])).length c5)) :=
      ⟨_, o4.set 0 _, r6, B4.setCell (p := ⟨w.heap.size, 0, none⟩) (Nat.le_refl _) _, by simp [World.setCell]; omega⟩
    have KF6 : KeepsFrom W0.heap.size W (w4.setCell ⟨w.heap.size, 0, none⟩ (.slice a5 (iu (pre ++ [x])).length c5)) := ((((KeepsOthers.alloc W _).from _).trans (keepsFrom_cells g4 (own_cells i3'))).trans (KeepsFrom.of_grownBy (grew_set w4 w.heap.size 0 _) (fun j e => by cases e; omega)))
    have K6 : KeepO U W (w4.setCell ⟨w.heap.size, 0, none⟩ (.slice a5 (iu (pre ++ [x])).length c5)) := ⟨by simp [World.setCell]; omega, fun i hi => (heap_setCell_other w4 ⟨w.heap.size, 0, none⟩ i _ (hUw i hi)).trans (hU4 i hi)⟩
    obtain ⟨Ln, hL⟩ : ∃ L, L = (iu pre).length := ⟨_, rfl⟩
    obtain ⟨L5, hLL⟩ : ∃ L, L = (iu (pre ++ [x])).length := ⟨_, rfl⟩
    have y0 := i2.cell 0
    have z4 := o4.cell 0
    have f4 := o4.frozen 0
    simp only [List.getElem?_cons_zero] at y0 z4
    rw [← hL] at R4 y0 z4
    rw [← hLL] at R4 G6 KF6 K6
    obtain ⟨q1, q2, q3⟩ := app_runs R4
    have HG6 := hide G6
    have HF6 := hide KF6
    have HW6 := hide K6
    clear R4 r4 g4 r6 G6 KF6 K6 hne o4 i2 i3 i3' i7 hL hLL hpl B4 hUw hU4
    gi_wp2
    exact ⟨HF6.out, HW6.out, HG6.out⟩
  case done =>
    rintro D ys W hD rfl ⟨u, i2, i3, i7, i8⟩ hK
    rw [HIU.out] at i3
    obtain ⟨a3, c3, hv3⟩ := own_len i3
    subst hv3
    have y0 := i2.cell 0
    have f0 := i2.frozen 0
    simp only [List.getElem?_cons_zero] at y0
    have HK := hide hK
    have HI := hide i3
    have H7 := hide i7
    have hLD : D < W.heap.size := (Array.getElem?_eq_some_iff.1 hK).1
    clear i2 i3 i7 hK
    gi_wp2
    refine ⟨by simp, .inl ⟨_, _, rfl, run_takeDeferred HK.out, ?_⟩⟩
    refine ⟨_, results_tmp rfl _ _ _, a3, L.length, c3, rfl, rfl, ?_, H7.out.grown (grownBy_putObj' _ _ _) H7.out.size (fun k e => by cases e; omega)⟩
    exact (own_to0 (HI.out.kept (grownBy_putObj' _ _ _) (row_not HI.out HK.out rfl))).mono (fun g hg => by omega)
  case stop =>
    rintro D c pre W hD _ hf hK
    exact hf.elim
theorem inU_lids {w : World} {v : Value} {m : Option Nat} {X : List CmA} {l : List Cm} (h : Gv w v m X l) : InU (lids l) := by
  intro z hz
  unfold lids at hz
  obtain ⟨c, hc, rfl⟩ := List.mem_map.1 hz
  obtain ⟨x, hx, rfl⟩ := List.mem_map.1 (h.pm.mem_iff.2 hc)
  have := (h.cs.cm.1 x hx).sz.1
  omega
/-- a graph's numbers, gathered -/
theorem lids_any {w : World} {v : Value} {m : Option Nat} {X : List CmA} {l : List Cm} (h : Gv w v m X l) : Calls Try.prog 16 #[v] w (NuP w (lids l)) := by
  have hf := h.few
  have hl := h.len
  exact callsIn_wide.1 (lids_in (inU_lids h) (by unfold lids; rw [List.length_map]; omega) (fun n => callsIn_wide.2 (idsp_any (h.old ((Below.refl _ w).alloc (Nat.le_refl _) _)))))
end Go.Proofs.Ytmkafoidfgaokaa
