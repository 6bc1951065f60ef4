/- The program's Copy: a table of its own, of the same refs. Over the translation. -/
import Derived.Test.YticofadpbpcejaaRVl
import Derived.BigRegionIn
namespace Go.Proofs.Yticofadpbpcejaa
open Go.RowKit Go.Shelf Apo
attribute [local go_sem] Oper.semAt_some
/-- what a map has to which these refs, by their places, were put -/
noncomputable def mI (L : List Rf) (pre : List Nat) : ByteArray → Option Value := pre.foldl (fun M i => updS M (xAt L i).n (some (aggR (xAt L i)))) (fun _ => none)
theorem mI_snoc (L : List Rf) (pre : List Nat) (i : Nat) : mI L (pre ++ [i]) = updS (mI L pre) (xAt L i).n (some (aggR (xAt L i))) := by
  unfold mI
  rw [List.foldl_append]
  rfl
theorem xAt_of {L : List Rf} {i : Nat} {x : Rf} (h : L[i]? = some x) : xAt L i = x := by
  unfold xAt
  rw [List.getD_eq_getElem?_getD, h]
  rfl
theorem xAt_small {L : List Rf} (h : Nok L) (i : Nat) : (xAt L i).n.size ≤ maxLen := by
  cases hx : L[i]? with
  | some x =>
    rw [xAt_of hx]
    have := nameM_size (h.nm x (List.mem_of_getElem? hx))
    unfold maxLen
    omega
  | none =>
    unfold xAt
    rw [List.getD_eq_getElem?_getD, hx]
    exact Nat.zero_le _
theorem rok_take {L : List Rf} (h : Rok L) (k : Nat) : Rok (L.take k) := ⟨h.rise.sublist (List.take_sublist _ _), Nat.le_trans (by simp; omega) h.len⟩
theorem mI_take {L : List Rf} (h : Rok L) : ∀ k, k ≤ L.length → mI L (List.range k) = mR (L.take k)
  | 0, _ => rfl
  | k + 1, hk => by
    have hx : L[k]? = some L[k] := List.getElem?_eq_getElem hk
    generalize L[k] = x at hx
    rw [List.range_succ, mI_snoc, mI_take h k (by omega), xAt_of hx]
    have htk : L.take (k + 1) = L.take k ++ [x] := by rw [List.take_add_one, hx]; rfl
    refine (getR_put (rok_take h k) (rok_take h (k + 1)) rfl (fun z => ?_)).symm
    rw [htk, List.mem_append, List.mem_singleton]
    constructor
    · rintro (q | q)
      · right
        refine ⟨q, fun e => ?_⟩
        have hp := h.rise
        rw [← List.take_append_drop (k + 1) L, htk] at hp
        have h1 := (List.pairwise_append.1 (List.pairwise_append.1 hp).1).2.2 z q x (by simp)
        rw [e, sLt_irr] at h1
        cases h1
      · exact .inl q
    · rintro (q | q)
      · exact .inr q
      · exact .inl q.1
/-- what has been copied -/
structure CpI (L : List Rf) (w : World) (box : Nat) (W0 : World) (pre : List Nat) (W : World) : Prop where
  bx : Ob W box 26 [.pointer (some ⟨w.heap.size + 1, 0, none⟩)]
  tb : Ob W (w.heap.size + 1) 56 [.map (some w.heap.size)]
  ms : Ms Try.prog 9 W w.heap.size pre.length (mI L pre)
  bel : Below w.heap.size w W
  siz : W0.heap.size ≤ W.heap.size
theorem cpI_own (L : List Rf) (w : World) (box : Nat) (W0 : World) (h1 : box < W0.heap.size) (h2 : w.heap.size + 1 < W0.heap.size) : OwnFrom W0.heap.size (CpI L w box W0) := by
  rintro s W W' row ⟨q1, q2, q3, q4, q5⟩ hg hr
  have o : Onl (fun i => row = some i) W W' := (Onl.refl _ W).grown hg (fun j hj => .inl hj)
  exact ⟨q1.kept hg (fun e => by have := (hr _ e).1; omega), q2.kept hg (fun e => by have := (hr _ e).1; omega), q3.onl o (fun e => by have := (hr _ e).1; omega), q4.grown hg q4.size (fun k e => by have := (hr k e).1; omega), Nat.le_trans q5 hg.size⟩
/-- what Copy makes -/
def PcQ (L : List Rf) (w : World) (e : Ending) (w' : World) : Prop := ∃ p b, e = .returned (.pointer (some ⟨p, 0, none⟩)) ∧ Tp w' p b L ∧ w.heap.size ≤ p ∧ w.heap.size ≤ b ∧ Below w.heap.size w w'
set_option maxRecDepth 100000 in
set_option maxHeartbeats 4000000 in
theorem pcopy_in {w : World} {p b : Nat} {L : List Rf} (h : Tp w p b L) :
    CallsIn Fence.wide 3 Try.prog 16 #[.pointer (some ⟨p, 0, none⟩)] w (PcQ L w) := by
  have h1 : 1 ≤ 3 := by omega
  have hro : Fence.wide.round = none := rfl
  have h21 : Fence.wide.fn 16 := trivial
  have HC := hide (refs_any h)
  have HN := hide (pnew_any (w := w) (cap := 0) (l := []) (RdG.nil w none) (by simp) (by simp))
  have heq := fun W => eql_mapR W (some b)
  have HH := hide h
  have hl40 := h.ok.ok.len
  clear h
  refine callsIn_of_wp_marks Try.func16 rfl h21 ?_ hro
  simp only [Try.ntmps16, List.size_toArray, List.length_cons, List.length_nil, Nat.reduceAdd, Nat.reduceSub, Array.replicate_succ, Array.replicate_zero, List.push_toArray, List.append_toArray, List.nil_append, List.cons_append]
  gi_wp2_with fail
  refine ⟨trivial, (callsIn_wide.2 HC.out).mono ?_⟩
  rintro e w1 ⟨rfl, rfl⟩
  gi_wp2_with fail
  refine ⟨trivial, (callsIn_wide.2 HN.out).mono ?_⟩
  rintro e w1 ⟨rfl, tN, bN⟩
  have bA : Below w1.heap.size w1 (w1.alloc (.cells #[.pointer (some ⟨w.heap.size + 1, 0, none⟩)] 26)) := (Below.refl _ _).alloc (Nat.le_refl _) _
  have HBA := hide (bN.trans (bA.mono bN.size))
  have HT := hide (tN.old bA)
  have HKB := hide (Ob.new w1 [.pointer (some ⟨w.heap.size + 1, 0, none⟩)] 26)
  have HAL := hide (all_any (HH.out.old HBA.out).v)
  have hs1 : w.heap.size + 1 < w1.heap.size := tN.lt.1
  clear tN bA HC HN bN
  gi_wp2_with fail
  refine ⟨trivial, (callsIn_wide.2 HAL.out).mono ?_⟩
  rintro e W0 hT
  obtain ⟨b0, gf, lb, U, rfl, heg, hU, hseq⟩ := all_toldI hl40 hT
  have hz0 : w1.heap.size + 1 ≤ W0.heap.size := by have := b0.size; simpa using this
  have HK0 := hide (HKB.out.old b0)
  have HT0 := hide (HT.out.old b0)
  have HB0 := hide (HBA.out.trans (b0.mono HBA.out.size))
  have HU := hide hU
  have HEG := hide heg
  have HSEQ := hide hseq
  clear hU heg hseq hT b0 HKB HT HBA HAL
  gi_wp2
  refine wpIn_rangeFunc_ownH hro h1 (gf := gf) (lb := lb) rfl trivial HEG.out HSEQ.out keepO_t (keepO_b (fun i hi => (HU.out i hi).2)) (Below.refl _ _) (fun _ => rfl)
    (CpI L w w1.heap.size W0) (fun _ _ _ => False) (cpI_own L w _ W0 (by omega) (by omega)) (fun _ _ _ _ _ h _ _ => h)
    ⟨HK0.out, HT0.out.ob, HT0.out.ms, HB0.out, Nat.le_refl _⟩
    (fun i a' W => ∃ Bx, W0.heap.size ≤ Bx ∧ Ob W Bx 32 [.string (xAt L i).n, .bool (xAt L i).t, .int .u64 (xAt L i).i] ∧ a' = { tmps := #[.pointer (some ⟨p, 0, none⟩), undef, .pointer none, .pointer (some ⟨w1.heap.size, 0, none⟩), .pointer (some ⟨Bx, 0, none⟩), .pointer (some ⟨p, 0, none⟩), .map (some b), .bool false, .pointer (some ⟨w.heap.size + 1, 0, none⟩), .pointer (some ⟨p, 0, none⟩), .func (.func gf) #[] lb, encI L i, undef, undef, undef, undef, undef, undef, undef, undef], defers := [] })
    (fun i a' _ X Y row hs hg hr => by obtain ⟨Bx, e1, e2, e3⟩ := hs; exact ⟨Bx, e1, e2.kept hg (fun e => by obtain ⟨_, o, ho, hc⟩ := hr Bx e; have q : X.heap[Bx]? = _ := e2; rw [ho] at q; cases q; cases hc), e3⟩)
    ?assign ?body ?done ?stop
  case assign =>
    rintro l pre i W K ⟨q1, q2, q3, q4, q5⟩ hK
    gi_wp2
    have bW : Below W.heap.size W (W.alloc (.cells #[.string (xAt L i).n, .bool (xAt L i).t, .int .u64 (xAt L i).i] 32)) := (Below.refl _ _).alloc (Nat.le_refl _) _
    exact hK _ _ ((KeepsOthers.alloc _ _).from _) ⟨by simp, fun i hi => Below.heap_alloc W _ i (by have := (HU.out i hi).2; omega)⟩ ⟨q1.alloc _, q2.alloc _, q3.below bW, q4.alloc q4.size _, by simp; omega⟩ ⟨W.heap.size, q5, Ob.new W [.string (xAt L i).n, .bool (xAt L i).t, .int .u64 (xAt L i).i] 32, rfl⟩
  case body =>
    rintro l pre i a' W hl2 ⟨r, hr⟩ ⟨q1, q2, q3, q4, q5⟩ ⟨Bx, hBx, bX, rfl⟩ hlt
    have hsm := xAt_small HH.out.ok i
    have hsn := mI_snoc L pre i
    obtain ⟨x, hx⟩ : ∃ x, x = xAt L i := ⟨_, rfl⟩
    rw [← hx] at hsm hsn bX
    have e0 : encI L i = .agg #[.string x.n, .bool x.t, .int .u64 x.i] := by rw [hx]
    rw [e0]
    have bD : Below W.heap.size W W.drew := (Below.refl _ _).drew
    have r1 := q1.old bD
    have r2 := q2.old bD
    have r3 := q3.below bD
    have rX := bX.old bD
    have x0 := rX.cell 0
    have x1 := rX.cell 1
    have x2 := rX.cell 2
    have y0 := r1.cell 0
    have z0 := r2.cell 0
    simp only [List.getElem?_cons_zero, List.getElem?_cons_succ] at x0 x1 x2 y0 z0
    obtain ⟨w4, R4, m4, t4⟩ := r3.store kstr Try.underlying54 (by omega) hsm (aggR x)
    rw [← hsn] at m4
    unfold aggR at R4
    have o4 : Onl (fun i => i = w.heap.size) W w4 := (Onl.ofBelow bD).trans (turned_onl t4)
    have G6 : CpI L w w1.heap.size W0 (pre ++ [i]) w4 := ⟨q1.onl o4 (by omega), q2.onl o4 (by omega), by rw [List.length_append]; exact m4, Below.onl q4 o4 (fun i q => by omega) (Nat.le_refl _), Nat.le_trans q5 o4.size⟩
    have K6 : KeepO U W w4 := ⟨o4.size, fun j hj => o4.block j (by have := (HU.out j hj).2; omega) (by have := (HU.out j hj).1; rw [World.size_alloc] at this; omega)⟩
    have KF : KeepsFrom W0.heap.size W w4 := ⟨o4.size, fun k o hk hko _ => (o4.block k (Array.getElem?_eq_some_iff.1 hko).1 (by omega)).trans hko⟩
    have HG6 := hide G6
    have HK6 := hide K6
    have HKF := hide KF
    clear bD r1 r2 r3 rX m4 t4 o4 G6 K6 KF q1 q2 q3 q4 bX hsn hx e0
    gi_wp2
    gi_region
    all_goals (
      gi_wp2
      exact ⟨HKF.out, HK6.out, HG6.out⟩)
  case done =>
    rintro D ys W hD rfl ⟨q1, q2, q3, q4, q5⟩ hK
    have y0 := q1.cell 0
    have f0 := q1.frozen 0
    simp only [List.getElem?_cons_zero] at y0
    rw [mI_take HH.out.ok.ok _ (Nat.le_refl _), List.take_length, List.length_range] at q3
    have HK := hide hK
    have HT : Hid (Tp W (w.heap.size + 1) w.heap.size L) := hide ⟨q2, q3, HH.out.ok⟩
    have H7 := hide q4
    have hLD : D < W.heap.size := (Array.getElem?_eq_some_iff.1 hK).1
    clear q1 q2 q3 q4 hK
    gi_wp2
    refine ⟨by simp, .inl ⟨_, _, rfl, run_takeDeferred HK.out, ?_⟩⟩
    have oD : Onl (fun i => some D = some i) W (W.putObj D (.deferred none)) := (Onl.refl _ W).grown (grownBy_putObj' _ _ _) (fun j hj => .inl hj)
    refine ⟨_, results_tmp rfl _ _ _, w.heap.size + 1, w.heap.size, rfl, HT.out.onl oD (by intro e; injection e with e; omega) (by intro e; injection e with e; omega), by omega, Nat.le_refl _, H7.out.grown (grownBy_putObj' _ _ _) H7.out.size (fun k e => by cases e; omega)⟩
  case stop =>
    rintro D c pre W hD _ hf hK
    exact hf.elim
theorem pcopy_any {w : World} {p b : Nat} {L : List Rf} (h : Tp w p b L) : Calls Try.prog 16 #[.pointer (some ⟨p, 0, none⟩)] w (PcQ L w) := callsIn_wide.1 (pcopy_in h)
theorem pcopy_nil (w : World) : Calls Try.prog 16 #[.pointer none] w fun e w' => e = .returned (.pointer none) ∧ w = w' := by
  have heq := fun W => eql_mapR W none
  refine (callsIn_wide (n := 3)).1 ?_
  refine callsIn_of_wp_marks Try.func16 rfl trivial ?_ rfl
  simp only [Try.ntmps16, List.size_toArray, List.length_cons, List.length_nil, Nat.reduceAdd, Nat.reduceSub, Array.replicate_succ, Array.replicate_zero, List.push_toArray, List.append_toArray, List.nil_append, List.cons_append]
  gi_wp2_with fail
  refine ⟨trivial, (callsIn_wide.2 (refs_nil w)).mono ?_⟩
  rintro e w1 ⟨rfl, rfl⟩
  gi_wp2
  exact ⟨_, results_tmp rfl _ _ _, rfl, rfl⟩
end Go.Proofs.Yticofadpbpcejaa
