/- Spans of the program's Free: what it hands out tells the rows as they are when it is called. Over the translation. Count and Largest of the program's Free: a range over what Spans hands out. Over the translation. -/
import Derived.Test.YtcmblfhghebjjaaGLo
import Derived.Test.YtcmblfhghebjjaaENw
import Derived.Test.YtcmblfhghebjjaaECu
namespace Go.Proofs.Ytcmblfhghebjjaa
open Go.RowKit Go.Shelf Apo
attribute [local go_sem] Oper.semAt_some

set_option maxRecDepth 100000 in
set_option maxHeartbeats 2000000 in
theorem spans1_in (F : Fence) (n : Nat) (h35 : F.fn 67) (hro : F.round = none) (hn : 1 ≤ n) (l Bs g cap : Nat) (R : List (Nat × Nat)) (hR : R.length ≤ 16384) (U : Nat → Prop) (hUg : U g) (J Jx : List (Nat × Nat) → World → Prop)
    (hJ : ∀ pre W o, J pre W → J pre (W.alloc o))
    (hY : ∀ pre x W, J pre W → pre.length < R.length → YieldAt F (n - 1) Try.prog l #[.agg #[.int .i64 x.1, .int .i64 x.2]] W fun e W' =>
      (e = .returned (.bool true) ∧ J (pre ++ [x]) W' ∧ KeepO U W W') ∨ (e = .returned (.bool false) ∧ Jx (pre ++ [x]) W'))
    (W : World) (hU : ∀ i, U i → i < W.heap.size) (hBs : W.cell? ⟨Bs, 0, none⟩ = some (.slice (some ⟨g, 0, none⟩) R.length cap)) (hc : ∀ (K : Nat) x, R[K]? = some x → W.cell? ⟨g, K * 2, none⟩ = some (.int .i64 (x.1 : Int)) ∧ W.cell? ⟨g, K * 2 + 1, none⟩ = some (.int .i64 (x.2 : Int))) (h0 : J [] W) :
    CallsIn F n Try.prog 67 #[.func (.yield l) #[] #[], .pointer (some ⟨Bs, 0, none⟩)] W fun e W' => (∃ v, e = .returned v) ∧
      ((∃ ys, ys = R ∧ J ys W') ∨ (∃ pre, (∃ k, k ≤ R.length ∧ pre = R.take k) ∧ Jx pre W')) := by
  refine callsIn_of_wp Try.func67 rfl h35 ?_ hro
  simp only [Try.ntmps67, List.size_toArray, List.length_cons, List.length_nil, Nat.reduceAdd, Nat.reduceSub, Array.replicate_succ, Array.replicate_zero, List.push_toArray, List.append_toArray, List.nil_append, List.cons_append]
  gi_wp2
  gi_loopw [7] (fun i wr => ∃ k : Nat, k ≤ R.length ∧ i = .int .i64 k ∧ J (R.take k) wr ∧ KeepO U W wr)
    (fun i _ => R.length - (intOf i).toNat)
  case atStart => exact ⟨0, Nat.zero_le _, rfl, by simpa using h0, Nat.le_refl _, fun _ _ => rfl⟩
  case round =>
    obtain ⟨k, hk, rfl, hJs, hnx⟩ := hrel
    by_cases hlt : k < R.length
    · have hx0 : R[k]? = some R[k] := List.getElem?_eq_getElem hlt
      obtain ⟨q1, q2⟩ := hc k _ hx0
      have p1 : wr.cell? ⟨g, k * 2, none⟩ = some (.int .i64 (R[k].1 : Int)) := (World.cell?_of_block (hnx.2 g hUg)).trans q1
      have p2 : wr.cell? ⟨g, k * 2 + 1, none⟩ = some (.int .i64 (R[k].2 : Int)) := (World.cell?_of_block (hnx.2 g hUg)).trans q2
      have hgw : g < wr.heap.size := Nat.lt_of_lt_of_le (hU g hUg) hnx.1
      obtain ⟨fn, tmps, assign, body, hy, hRR⟩ := hY _ R[k] _ (hJ _ _ (.cells #[.int .i64 (R[k].1 : Int), .int .i64 (R[k].2 : Int)] 39) hJs) (by rw [List.length_take]; omega)
      have hsn : R.take k ++ [R[k]] = R.take (k + 1) := (List.take_succ_eq_append_getElem hlt).symm
      rw [hsn] at hRR
      generalize hxe : R[k] = x at *
      have HX := hide hx0
      have HJ := hide hJs
      have HN := hide hnx
      clear hx0 hJs hxe hsn hnx q1 q2
      gi_wp2
      refine hRR.mono ?_
      rintro e W3 (⟨rfl, hJ3, hk3⟩ | ⟨rfl, hJx3⟩)
      · gi_wp2
        go_roundw
        case rel => exact ⟨k + 1, by omega, by simp, hJ3, keepO_t HN.out (keepO_t ⟨by simp, fun i hi => Below.heap_alloc wr _ i (Nat.lt_of_lt_of_le (hU i hi) HN.out.1)⟩ hk3)⟩
        case measure => simp [intOf]; omega
      · gi_wp2
        refine bodyPost_ret (results_none rfl _ _ _) rfl ?_
        exact ⟨⟨_, rfl⟩, .inr ⟨_, ⟨k + 1, by omega, rfl⟩, hJx3⟩⟩
    · obtain rfl : k = R.length := by omega
      rw [List.take_length] at hJs
      gi_wp2
      go_end0
      exact ⟨⟨_, rfl⟩, .inl ⟨_, rfl, hJs⟩⟩
set_option maxRecDepth 100000 in
set_option maxHeartbeats 1000000 in
theorem spans1_nil_in (F : Fence) (n : Nat) (h35 : F.fn 67) (hro : F.round = none) (l Bs : Nat) (J : List (Nat × Nat) → World → Prop) (W : World) (hBs : W.cell? ⟨Bs, 0, none⟩ = some (.slice none 0 0)) (h0 : J [] W) :
    CallsIn F n Try.prog 67 #[.func (.yield l) #[] #[], .pointer (some ⟨Bs, 0, none⟩)] W fun e W' => (∃ v, e = .returned v) ∧ J [] W' := by
  refine callsIn_of_wp Try.func67 rfl h35 ?_ hro
  simp only [Try.ntmps67, List.size_toArray, List.length_cons, List.length_nil, Nat.reduceAdd, Nat.reduceSub, Array.replicate_succ, Array.replicate_zero, List.push_toArray, List.append_toArray, List.nil_append, List.cons_append]
  gi_wp2
  gi_loopw [7] (fun i wr => i = .int .i64 0 ∧ J [] wr) (fun _ _ => 0)
  case atStart => exact ⟨rfl, h0⟩
  case round =>
    obtain ⟨rfl, hJs⟩ := hrel
    gi_wp2
    go_end0
    exact ⟨⟨_, rfl⟩, hJs⟩

set_option maxRecDepth 100000 in
/-- the function value over a box in which a row of its own lies -/
theorem spans_stops {w : World} {Bs a n c base : Nat} {va : Option Addr} {R : List (Nat × Nat)} (hn : a = R.length) (hR : R.length ≤ 16384) (hb : Ob w Bs 37 [.slice va a c]) (hr : w.ownsRow base 39 2 (.slice va a c) R.length (rcells R)) (_ : n = 2) :
    SeqStopsK Fence.wide 2 Try.prog 67 #[.pointer (some ⟨Bs, 0, none⟩)] (fun x : Nat × Nat => #[Value.agg #[.int .i64 x.1, .int .i64 x.2]]) (KeepO (fun i => i = Bs ∨ (Value.slice va a c).ownBlock = some i)) (fun ys => ys = R) (fun pre => ∃ k, k ≤ R.length ∧ pre = R.take k) R.length w := by
  intro l J Jx W hW hAJ _ hY h0
  subst hn
  have hb' := hb.old hW
  have hr' := own_old hr hW
  have x0 := hb'.cell 0
  simp only [List.getElem?_cons_zero] at x0
  have hJ : ∀ pre W o, J pre W → J pre (W.alloc o) := fun pre A o h => hAJ pre A _ none h (grew_below none ((Below.refl _ A).alloc (Nat.le_refl _) o)) (fun r e => by cases e)
  rcases row_ob (O := fun _ => True) ⟨hr'.mono (Nat.zero_le _), fun _ _ => trivial⟩ with ⟨e, h1, _⟩ | ⟨g, cap, cur, e, _, bR, _, _, _, hr4⟩
  · have hR0 : R = [] := List.eq_nil_of_length_eq_zero h1
    subst hR0
    simp only [Value.slice.injEq] at e
    obtain ⟨rfl, _, rfl⟩ := e
    exact (spans1_nil_in Fence.wide 2 trivial rfl l Bs J W x0 h0).mono (fun e W' ⟨h1, h2⟩ => ⟨h1, .inl ⟨[], rfl, h2⟩⟩)
  · simp only [Value.slice.injEq] at e
    obtain ⟨rfl, _, rfl⟩ := e
    refine spans1_in Fence.wide 2 trivial rfl (by decide) l Bs g c R hR _ (.inr rfl) J Jx hJ hY W (fun i hi => hi.elim (fun q => by rw [q]; exact hb'.lt) (fun q => (hr'.lt i q).2)) x0 (fun K x hx => ?_) h0
    have hK := (List.getElem?_eq_some_iff.1 hx).1
    obtain ⟨h1, h2⟩ := rcells_at hx
    rw [← hr4, List.getElem?_take_of_lt (by omega)] at h1 h2
    exact ⟨(bR.cell _).trans h1, (bR.cell _).trans h2⟩
set_option maxRecDepth 100000 in
theorem enter_spans1 : ∀ args w, (callFunc 67 args).run Try.prog w = .ok (.enter 67 args) w := fun _ _ => by kernel_rfl

set_option maxRecDepth 100000 in
set_option maxHeartbeats 1000000 in
theorem cspans_any {O : Nat → Prop} {w : World} {p : Nat} {f : Fr} (h : CFr O w p f) : SpTold O w (.pointer (some ⟨p, 0, none⟩)) f.rows := by
  intro nn
  refine callsIn_wide.2 ?_
  obtain ⟨v, m0, r0⟩ := h.mem
  have hrl := crows_len h.ok
  have x3 := m0.cell 3
  simp only [List.getElem?_cons_succ, List.getElem?_cons_zero] at x3
  have b0 := (Below.refl w.heap.size w).alloc (Nat.le_refl _) (.cells #[.slice none 0 0] 37)
  have k0 := Ob.new w [.slice none 0 0] 37
  have CC := eclone_any (R := f.rows) (r0.onl (F := fun _ => False) (Onl.ofBelow b0) (fun _ _ q => q)) hrl
  obtain ⟨va, vc, e⟩ := own_len2 r0.1
  subst e
  have hpl := m0.lt
  have HK := hide k0
  have HB := hide b0
  clear h m0 r0 k0 b0
  go_enter Try.func42, Try.ntmps42
  go_wp2_with fail
  refine CC.mono ?_
  rintro e W1 ⟨a1, n1, c1, rfl, r1, b1⟩
  have k1 := HK.out.old b1
  have y0 := k1.cell 0
  have f0 := k1.frozen 0
  simp only [List.getElem?_cons_zero] at y0
  have k2 := k1.set 0 (.slice a1 n1 c1)
  rw [World.size_alloc] at r1
  have r2 := ownsRow_setCell_below r1 (a := ⟨w.heap.size, 0, none⟩) (by show w.heap.size < w.heap.size + 1; omega) (.slice a1 n1 c1)
  have hn1 : n1 = f.rows.length := by obtain ⟨_, _, e⟩ := own_len2 r1; cases e; rfl
  have B2 : Below w.heap.size w (W1.setCell ⟨w.heap.size, 0, none⟩ (.slice a1 n1 c1)) := (HB.out.trans (b1.mono HB.out.size)).setCell (p := ⟨w.heap.size, 0, none⟩) (Nat.le_refl _) _
  have HS := hide (spans_stops hn1 hrl k2 r2 (n := 2) rfl)
  have HL := hide (fun i (hi : i = w.heap.size ∨ (Value.slice a1 n1 c1).ownBlock = some i) => (show (O i ∨ w.heap.size ≤ i) ∧ i < (W1.setCell ⟨w.heap.size, 0, none⟩ (.slice a1 n1 c1)).heap.size from hi.elim (fun q => by rw [q]; exact ⟨.inr (Nat.le_refl _), k2.lt⟩) (fun q => ⟨.inr (by have := (r2.lt i q).1; omega), (r2.lt i q).2⟩)))
  have HB2 := hide B2
  clear k1 k2 r1 r2 b1 B2 hn1
  go_wp2
  go_ret
  exact ⟨HB2.out, _, _, _, rfl, enter_spans1, HL.out, HS.out⟩
set_option maxRecDepth 100000 in
set_option maxHeartbeats 1000000 in
theorem cspans_nil (w : World) : SpTold (fun _ => False) w (.pointer none) [] := by
  intro nn
  refine callsIn_wide.2 ?_
  have B := (Below.refl w.heap.size w).alloc (Nat.le_refl _) (.cells #[.slice none 0 0] 37)
  have k0 := Ob.new w [.slice none 0 0] 37
  have HS := hide (spans_stops (R := []) (base := 0) (n := 2) rfl (by simp) k0 (World.ownsRow_nil _ _ _ _) rfl)
  have HL := hide (fun i (hi : i = w.heap.size ∨ (Value.slice none 0 0).ownBlock = some i) => (show (False ∨ w.heap.size ≤ i) ∧ i < (w.alloc (.cells #[.slice none 0 0] 37)).heap.size from hi.elim (fun q => by rw [q]; exact ⟨.inr (Nat.le_refl _), k0.lt⟩) (fun q => by cases q)))
  have HB := hide B
  clear B k0
  go_enter Try.func42, Try.ntmps42
  go_wp2
  go_ret
  exact ⟨HB.out, _, _, _, rfl, enter_spans1, HL.out, HS.out⟩
end Go.Proofs.Ytcmblfhghebjjaa
namespace Go.Proofs.Ytcmblfhghebjjaa
open Go.RowKit Go.Shelf Apo
attribute [local go_sem] Oper.semAt_some

/-- what has been made of the rows -/
def Acc (A : List (Nat × Nat) → Int) (w W0 : World) (pre : List (Nat × Nat)) (W : World) : Prop := Ob W w.heap.size 3 [.int .i64 (A pre)] ∧ Below w.heap.size w W ∧ W0.heap.size ≤ W.heap.size
set_option maxRecDepth 100000 in
theorem acc_own (A : List (Nat × Nat) → Int) (w W0 : World) (hw : w.heap.size < W0.heap.size) : OwnFrom W0.heap.size (Acc A w W0) := by
  rintro s W W' row ⟨h1, h3, h4⟩ hg hr
  exact ⟨h1.kept hg (fun e => by have := (hr _ e).1; omega), h3.grown hg h3.size (fun k e => by have := (hr k e).1; omega), Nat.le_trans h4 hg.size⟩
def sumW (pre : List (Nat × Nat)) : Int := IntKind.i64.wrap (sumP pre)
set_option maxRecDepth 100000 in
theorem sumW_snoc (pre : List (Nat × Nat)) (x : Nat × Nat) : IntKind.i64.wrap (sumW pre + (x.2 : Int)) = sumW (pre ++ [x]) := by
  unfold sumW
  have e : sumP (pre ++ [x]) = sumP pre + x.2 := by simp [sumP, List.foldl_append]
  rw [e, IntKind.wrap_i64, IntKind.wrap_i64, IntKind.wrap_i64]
  omega
def maxW (pre : List (Nat × Nat)) : Int := maxP pre
set_option maxRecDepth 100000 in
theorem maxW_snoc (pre : List (Nat × Nat)) (x : Nat × Nat) : (if maxW pre < (x.2 : Int) then (x.2 : Int) else maxW pre) = maxW (pre ++ [x]) := by
  unfold maxW
  have e : maxP (pre ++ [x]) = max (maxP pre) x.2 := by simp [maxP, List.foldl_append]
  rw [e]
  split <;> omega

set_option maxRecDepth 100000 in
set_option maxHeartbeats 4000000 in
theorem count_in {O : Nat → Prop} {w : World} {v : Value} {R : List (Nat × Nat)} (hO : ∀ i, O i → i ≠ w.heap.size) (hs : SpTold O (w.alloc (.cells #[.int .i64 0] 3)) v R) :
    CallsIn Fence.wide 3 Try.prog 21 #[v] w fun e w' => e = .returned (.int .i64 (sumW R)) ∧ Below w.heap.size w w' := by
  have h1 : 1 ≤ 3 := by omega
  have hro : Fence.wide.round = none := rfl
  have h21 : Fence.wide.fn 21 := trivial
  refine callsIn_of_wp_marks Try.func21 rfl h21 ?_ hro
  simp only [Try.ntmps21, List.size_toArray, List.length_cons, List.length_nil, Nat.reduceAdd, Nat.reduceSub, Array.replicate_succ, Array.replicate_zero, List.push_toArray, List.append_toArray, List.nil_append, List.cons_append]
  gi_wp2_with fail
  refine ⟨trivial, (hs _).mono ?_⟩
  rintro e W0 ⟨b0, gf, lb, U, rfl, heg, hU, hseq⟩
  have k0 : Ob W0 w.heap.size 3 [.int .i64 0] := (Ob.new w [.int .i64 0] 3).old b0
  have hz0 : w.heap.size + 1 ≤ W0.heap.size := by have := b0.size; simpa using this
  have B0 : Below w.heap.size w W0 := ((Below.refl _ w).alloc (Nat.le_refl _) _).trans (b0.mono (by simp))
  have HK0 := hide k0
  have HB0 := hide B0
  have HU := hide hU
  have HEG := hide heg
  have HSEQ := hide hseq
  have HOX := hide hO
  clear k0 B0 hU heg hseq hs b0
  gi_wp2
  refine wpIn_rangeFunc_ownH hro h1 (gf := gf) (lb := lb) rfl trivial HEG.out HSEQ.out keepO_t (keepO_b (fun i hi => (HU.out i hi).2)) (Below.refl _ _) (fun _ => rfl)
    (Acc sumW w W0) (fun _ _ _ => False) (acc_own sumW w W0 (by omega)) (fun _ _ _ _ _ h _ _ => h)
    ⟨HK0.out, HB0.out, Nat.le_refl _⟩
    (fun x a' W => ∃ Bx, W0.heap.size ≤ Bx ∧ Ob W Bx 39 [.int .i64 x.1, .int .i64 x.2] ∧ a' = { tmps := #[v, undef, .int .i64 0, .pointer (some ⟨w.heap.size, 0, none⟩), .pointer (some ⟨Bx, 0, none⟩), v, .func (.func gf) #[] lb, .agg #[.int .i64 x.1, .int .i64 x.2], undef, undef, undef, undef, undef], defers := [] })
    (fun x a' _ X Y row hs hg hr => by obtain ⟨Bx, e1, e2, e3⟩ := hs; exact ⟨Bx, e1, e2.kept hg (fun e => by obtain ⟨_, o, ho, hc⟩ := hr Bx e; have q : X.heap[Bx]? = _ := e2; rw [ho] at q; cases q; cases hc), e3⟩)
    ?assign ?body ?done ?stop
  case assign =>
    rintro l pre x W K ⟨g1, g3, g4⟩ hK
    gi_wp2
    exact hK _ _ ((KeepsOthers.alloc _ _).from _) ⟨by simp, fun i hi => Below.heap_alloc W _ i (by have := (HU.out i hi).2; omega)⟩ ⟨g1.alloc _, g3.alloc g3.size _, by simp; omega⟩ ⟨W.heap.size, g4, Ob.new W [.int .i64 x.1, .int .i64 x.2] 39, rfl⟩
  case body =>
    rintro l pre x a' W hl ⟨r, hr⟩ ⟨g1, g3, g4⟩ ⟨Bx, hBx, bX, rfl⟩ hlt
    have x1 := bX.cell 1
    have y0 := g1.cell 0
    have f0 := g1.frozen 0
    simp only [List.getElem?_cons_zero, List.getElem?_cons_succ] at x1 y0
    have hUw : ∀ i, U i → i ≠ w.heap.size := fun i hi e => by
      subst e
      rcases (HU.out _ hi).1 with q | q
      · exact HOX.out _ q rfl
      · rw [World.size_alloc] at q; omega
    have G6 : Acc sumW w W0 (pre ++ [x]) (W.setCell ⟨w.heap.size, 0, none⟩ (.int .i64 (sumW (pre ++ [x])))) := ⟨g1.set 0 _, g3.setCell (p := ⟨w.heap.size, 0, none⟩) (Nat.le_refl _) _, by simpa [World.setCell] using g4⟩
    have K6 : KeepO U W (W.setCell ⟨w.heap.size, 0, none⟩ (.int .i64 (sumW (pre ++ [x])))) := ⟨by simp [World.setCell], fun i hi => heap_setCell_other W ⟨w.heap.size, 0, none⟩ i _ (hUw i hi)⟩
    have KF : KeepsFrom W0.heap.size W (W.setCell ⟨w.heap.size, 0, none⟩ (.int .i64 (sumW (pre ++ [x])))) := KeepsFrom.of_grownBy (grew_set W w.heap.size 0 _) (fun j e => by cases e; omega)
    have HG6 := hide G6
    have HK6 := hide K6
    have HKF := hide KF
    clear hUw G6 K6 KF g1 g3
    have ha := sumW_snoc pre x
    generalize sumW (pre ++ [x]) = a9 at *
    gi_wp2
    exact ⟨HKF.out, HK6.out, HG6.out⟩
  case done =>
    rintro D ys W hD rfl ⟨g1, g3, g4⟩ hK
    have y0 := g1.cell 0
    simp only [List.getElem?_cons_zero] at y0
    have HG3 := hide g3
    clear g1 g3
    gi_wp2
    refine ⟨by simp, .inl ⟨_, _, rfl, run_takeDeferred hK, ?_⟩⟩
    refine ⟨_, results_tmp rfl _ _ _, ?_⟩
    exact ⟨rfl, HG3.out.trans (belowK_b (w := w) (Nat.le_refl _) _ D _ _ (by omega) hK rfl rfl)⟩
  case stop =>
    rintro D c pre W hD _ hf hK
    exact hf.elim
end Go.Proofs.Ytcmblfhghebjjaa
