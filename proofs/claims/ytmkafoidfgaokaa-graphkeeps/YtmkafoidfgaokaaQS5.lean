/- maps.Keys over a map keyed by 64-bit numbers: its keys come, each once, in some order. Over the translation. slices.AppendSeq, Collect and Sorted at 64-bit numbers, against whatever iterator. Over the translation. The shelf's ids; slices.Values of 64-bit numbers: each in its order, till a round says no more. Over the translation. -/
import Derived.RangeFuncGives
import Derived.RangeFuncSeq
import Derived.RangeFuncLeaves
import Derived.RangeFuncNested
import Derived.Sort.MapsRangeIn
import Derived.Sort.KeysCollected
import Derived.WalkKit
import Derived.OwnWalkIn
import Derived.TacticsInMore
import Derived.RegionIn
import Derived.LoopNIn
import Derived.LoopIn
import Derived.Test.YtmkafoidfgaokaaQA9
import Derived.Test.YtmkafoidfgaokaaQS4
namespace Go.Proofs.Ytmkafoidfgaokaa
open Go.RowKit Go.Maps Apo
abbrev encU (i : Nat) : Value := .int .u64 (i : Int)
theorem encU_inj {i j : Nat} (h : encU i = encU j) : i = j := by simp [encU] at h; omega
theorem keyOf_u64 {P : Program} {k : TypeId} (hk : P.underlying k = some (.int .u64)) {key : Value} {kl : Lit} (h : keyOf P k key = some kl) : ∃ i : Nat, i < 18446744073709551616 ∧ key = encU i ∧ kl = k64 i := by
  cases key <;> simp [keyOf, hk, mapKey] at h
  rename_i q a
  obtain ⟨⟨rfl, hw⟩, rfl⟩ := h
  simp [Lit.wf, IntKind.min, IntKind.max, IntKind.signed, IntKind.bits] at hw
  refine ⟨a.toNat, by omega, ?_, ?_⟩
  · simp only [encU]
    congr 1
    omega
  · simp only [k64]
    congr 1
    omega
/-- the keys met so far: none twice; just those that the map has and that are no longer to come -/
structure ColU (D : DataW Value) (left : Lit → Bool) (xs : List Nat) : Prop where
  nodup : xs.Nodup
  small : ∀ i ∈ xs, i < 18446744073709551616
  mem : ∀ i, i ∈ xs ↔ (i < 18446744073709551616 ∧ has D (k64 i) = true ∧ left (k64 i) = false)
theorem ColU.start (D : DataW Value) : ColU D (has D) [] := ⟨List.nodup_nil, by simp, fun i => by cases has D (k64 i) <;> simp⟩
theorem ColU.step {D : DataW Value} {left : Lit → Bool} {xs : List Nat} (h : ColU D left xs) {x : Nat} {y : DataW Value} (hx : x < 18446744073709551616) (hlk : left (k64 x) = true) (hat : ∀ z, D.atKey (k64 x) z = y) : ColU D (fun z => left z && !z.sameKey (k64 x)) (xs ++ [x]) := by
  have hhas : has D (k64 x) = true := has_true_of_atKey hat
  have hnew : x ∉ xs := fun q => by have := ((h.mem x).1 q).2.2; rw [hlk] at this; cases this
  refine ⟨List.nodup_append.2 ⟨h.nodup, by simp, fun a ha b hb => by simp at hb; subst hb; exact fun e => hnew (e ▸ ha)⟩, fun i hi => ?_, fun i => ?_⟩
  · rcases List.mem_append.1 hi with q | q
    · exact h.small i q
    · simp at q; omega
  · by_cases hy : i = x
    · subst hy
      simp only [k64] at hhas
      simp [hhas, Lit.sameKey, k64, hx]
    · have hz : ¬ ((i : Int) = (x : Int)) := by omega
      have := h.mem i
      simp [this, hy, Lit.sameKey, k64, hz]
/-- a map's keys, in some order -/
def KeysU (M : Nat → Option Value) (xs : List Nat) : Prop := xs.Nodup ∧ (∀ i ∈ xs, i < 18446744073709551616) ∧ ∀ i, i ∈ xs ↔ (M i).isSome = true
theorem ColU.all {D : DataW Value} {left : Lit → Bool} {xs : List Nat} {M : Nat → Option Value} (h : ColU D left xs) (hl : ∀ kl, left kl = false) (m : MpD D M) : KeysU M xs := by
  refine ⟨h.nodup, h.small, fun i => ?_⟩
  rw [h.mem i, hl]
  by_cases q : i < 18446744073709551616
  · rw [m.has i q]; simp [q]
  · rw [m.big i (by omega)]; simp [q]
set_option maxRecDepth 100000 in
set_option maxHeartbeats 1000000 in
theorem ukeys1_in (n : Nat) (hn : 1 ≤ n) (l Bm b nn : Nat) (D0 : DataW Value) (J Jx : List Nat → World → Prop)
    (hY : ∀ pre x W, J pre W → pre.length < Maps.size D0 → YieldAt Fence.wide (n - 1) Try.prog l #[encU x] W fun e W' => (e = .returned (.bool true) ∧ J (pre ++ [x]) W' ∧ KeepsWalks W W') ∨ (e = .returned (.bool false) ∧ Jx (pre ++ [x]) W'))
    (W : World) (hJ : AbidesFrom W.heap.size J) (hm : W.cell? ⟨Bm, 0, none⟩ = some (.map (some b))) (hown : W.ownsMap Try.prog 23 heldR b nn D0) (h0 : J [] W) :
    CallsIn Fence.wide n Try.prog 65 #[.func (.yield l) #[] #[], .pointer (some ⟨Bm, 0, none⟩)] W fun e W' => (∃ v, e = .returned v) ∧ ((∃ xs : List Nat, ColU D0 (fun _ => false) xs ∧ J xs W') ∨ (∃ pre, Jx pre W')) := by
  have hk : Try.prog.underlying 23 = some (.int .u64) := by rfl
  refine callsIn_of_wp Try.func65 rfl trivial ?_ rfl
  simp only [Try.ntmps65, List.size_toArray, List.length_cons, List.length_nil, Nat.reduceAdd, Nat.reduceSub, Array.replicate_succ, Array.replicate_zero, List.push_toArray, List.append_toArray, List.nil_append, List.cons_append]
  gi_wp2_with (first
    | (gi_at_range; refine wpListIn_range_own _ rfl _ 61 rfl 23 32 (Maps.int_keyed hk) (by rfl) _ b nn _ rfl hown ?_; intro w0 hrg0 hg0 hs0)
    | gi_in)
  go_frame
  gi_loopw [3] (fun _ wr => ∃ (left : Lit → Bool) (cnt : Nat) (xs : List Nat), wr.ranges Try.prog 23 heldR b W.heap.size nn D0 left cnt ∧ xs.length + cnt ≤ Maps.size D0 ∧ ColU D0 left xs ∧ J xs wr)
    (fun _ wr => wr.rangeLeft b W.heap.size)
  case atStart =>
    exact ⟨_, _, [], hrg0, by simp, ColU.start D0, hJ [] W w0 none h0 hg0 (fun r e => by cases e)⟩
  case round =>
    obtain ⟨left, cnt, xs, hrg, hcs, hC, hJs⟩ := hrel
    gi_wp2_with (first
      | (gi_at_next; refine wpListIn_next_ranges _ rfl _ rfl 23 (Maps.int_keyed hk) heldR encU id (fun key kl h => by obtain ⟨i, _, hx, _⟩ := keyOf_u64 hk h; exact ⟨i, hx⟩) (fun v _ _ => ⟨v, rfl⟩) b W.heap.size nn _ _ _ rfl hrg ?_ ?_)
      | gi_in)
    · intro hc0 hl0
      gi_wp2
      go_end0
      refine ⟨⟨_, rfl⟩, .inl ⟨xs, ?_, hJs⟩⟩
      rw [← show left = fun _ => false from funext hl0]
      exact hC
    · intro x c kl yd yp w2 cnt2 hkey hlk hv hat hrg2 hlt hg2 hs2 hen
      obtain ⟨x', hx', ex, rfl⟩ := keyOf_u64 hk hkey
      obtain rfl : x = x' := encU_inj ex
      have hJ2 : J xs w2 := hJ xs wr w2 (some W.heap.size) hJs hg2 (fun r e => by cases e; exact ⟨Nat.le_refl _, hrg.iter_walk⟩)
      obtain ⟨fn, tmps, assign, body, hy, hR⟩ := hY xs x w2 hJ2 (by omega)
      clear hs2
      gi_wp2
      refine hR.mono ?_
      rintro e W3 (⟨rfl, hJ3, hk3⟩ | ⟨rfl, hJx3⟩)
      · gi_wp2
        have hrg3 := hrg2.of_walks hk3
        go_roundw
        case rel => exact ⟨_, cnt2, xs ++ [x], hrg3, by simp; omega, hC.step hx' hlk hat, hJ3⟩
        case measure => rw [hrg3.left_eq, hrg.left_eq]; exact hlt
      · gi_wp2
        refine bodyPost_ret (results_none rfl _ _ _) rfl ?_
        exact ⟨⟨_, rfl⟩, .inr ⟨xs ++ [x], hJx3⟩⟩
set_option maxRecDepth 100000 in
/-- maps.Keys' iterator over a map: its keys, each once -/
theorem ukeys_stops (n : Nat) (hn : 1 ≤ n) (Bm b : Nat) (M : Nat → Option Value) (L : List Nat) (hL : ∀ i, M i ≠ none → i ∈ L) (w : World) (hBm : Bm < w.heap.size) (hm : w.cell? ⟨Bm, 0, none⟩ = some (.map (some b))) (h : Mp Try.prog 23 w b M) :
    SeqStopsK Fence.wide n Try.prog 65 #[.pointer (some ⟨Bm, 0, none⟩)] (fun i => #[encU i]) KeepsWalks (KeysU M) (fun _ => True) L.length w := by
  obtain ⟨D, hown, md⟩ := h
  have hsz := Mp.size hown md rfl hL
  intro l J Jx W hW hJ hJx hY h0
  have hown' : W.ownsMap Try.prog 23 heldR b (Maps.size D) D := by
    have hbl := hown.lt
    obtain ⟨es, clock, hb, Ft, hs, hD⟩ := hown
    exact ⟨es, clock, (hW.block b hbl).trans hb, Ft, hs, hD⟩
  refine (ukeys1_in n hn l Bm b (Maps.size D) D J Jx (fun pre x W1 h1 h2 => hY pre x W1 h1 (by omega)) W hJ ((hW.cell (p := ⟨Bm, 0, none⟩) hBm).trans hm) hown' h0).mono ?_
  rintro e W' ⟨hv, ⟨xs, hc, hj⟩ | ⟨pre, hj⟩⟩
  · exact ⟨hv, .inl ⟨xs, hc.all (fun _ => rfl) md, hj⟩⟩
  · exact ⟨hv, .inr ⟨pre, trivial, hj⟩⟩
set_option maxRecDepth 100000 in
set_option maxHeartbeats 1000000 in
/-- maps.Keys: a function value over one new block, which holds the map -/
theorem ukeys_any (mb : Option Nat) (w : World) : Calls Try.prog 55 #[.map mb] w fun e w' => e = .returned (.func (.func 65) #[] #[.pointer (some ⟨w.heap.size, 0, none⟩)]) ∧ w' = w.alloc (.cells #[.map mb] 61) := by
  go_enter Try.func55, Try.ntmps55
  go_wp2
  go_ret
  exact ⟨rfl, rfl⟩
end Go.Proofs.Ytmkafoidfgaokaa
namespace Go.Proofs.Ytmkafoidfgaokaa
open Go.RowKit Go.Shelf Apo
attribute [local go_sem] Oper.semAt_some
attribute [local go_sem ↓] app_sem
def iu (xs : List Nat) : List Int := xs.map (fun (i : Nat) => (i : Int))
theorem iu_len (xs : List Nat) : (iu xs).length = xs.length := by simp [iu]
theorem iu_snoc (xs : List Nat) (x : Nat) : iu (xs ++ [x]) = iu xs ++ [(x : Int)] := by simp [iu]
theorem uinfoU : (Try.prog.info? 23).map (fun i => (i.zero, i.size, i.bytes)) = some (some (.int .u64 0), 1, 8) := by kernel_rfl
theorem rd_one (W : World) (t : TypeId) (z : Int) : Rd .u64 (W.alloc (.cells #[.int .u64 z] t)) (some ⟨W.heap.size, 0, none⟩) [z] := by
  intro i hi
  refine ⟨W.heap.size, 0, rfl, ?_⟩
  obtain rfl : i = 0 := by simp at hi; omega
  simp
/-- between two rounds: the box holds what has come -/
structure ApU (w W0 : World) (xs : List Nat) (W : World) : Prop where
  box : ∃ u, Ob W w.heap.size 30 [u] ∧ W.ownsRow W0.heap.size 23 1 u (iu xs).length ((iu xs).map (Value.int .u64)) ∧ (u = .slice none 0 0 ↔ xs = [])
  bel : Below w.heap.size w W
  siz : W0.heap.size ≤ W.heap.size
theorem row_base {W : World} {base base' : Nat} {e : TypeId} {size : Nat} {v : Value} {k : Nat} {xs : List Value} (h : W.ownsRow base e size v k xs) (hb : base' ≤ base) : W.ownsRow base' e size v k xs := by
  refine ⟨h.1, ?_⟩
  rcases h.2 with q | ⟨g, cap, cur, hv, hbg, rest⟩
  · exact .inl q
  · exact .inr ⟨g, cap, cur, hv, Nat.le_trans hb hbg, rest⟩
theorem row_not {W : World} {base : Nat} {e : TypeId} {size : Nat} {v : Value} {k : Nat} {xs : List Value} (h : W.ownsRow base e size v k xs) {D : Nat} {o : Obj} (hD : W.heap[D]? = some o) (ho : o.isCells = false) : v.ownBlock = none ∨ v.ownBlock ≠ some D := by
  cases hq : v.ownBlock with
  | none => exact .inl rfl
  | some g =>
    right
    intro e
    cases e
    obtain ⟨c, e', f, q⟩ := own_cells h _ hq
    rw [hD] at q
    cases q
    cases ho
theorem ApU.own {w W0 : World} (h : w.heap.size < W0.heap.size) : OwnFrom W0.heap.size (ApU w W0) := by
  rintro s W W' row ⟨⟨u, a2, a3, a4⟩, a7, a8⟩ hgr hr
  refine ⟨⟨u, a2.kept hgr (fun e => by have := (hr _ e).1; omega), a3.kept hgr ?_, a4⟩, a7.grown hgr a7.size (fun k e => by have := (hr k e).1; omega), Nat.le_trans a8 hgr.size⟩
  cases hq : u.ownBlock with
  | none => exact .inl rfl
  | some g =>
    right
    intro e
    obtain ⟨_, o, ho, hc⟩ := hr g e.symm
    obtain ⟨c, e', f, q⟩ := own_cells a3 g hq
    rw [ho] at q
    cases q
    cases hc
set_option maxRecDepth 100000 in
set_option maxHeartbeats 4000000 in
theorem uappend_in (n : Nat) (hn : 2 ≤ n) (gf : Nat) (lb : Array Value) (eg : ∀ args w, (callFunc gf args).run Try.prog w = .ok (.enter gf args) w) (S : List Nat → Prop) (N : Nat) (hN : N ≤ 1000000) (w : World)
    (hseq : SeqStopsK Fence.wide (n - 1) Try.prog gf lb (fun i => #[encU i]) KeepsWalks S (fun _ => True) N w) :
    CallsIn Fence.wide n Try.prog 68 #[.slice none 0 0, .func (.func gf) #[] lb] w fun e w' => ∃ (v : Value) (xs : List Nat), e = .returned v ∧ S xs ∧ w'.ownsRow w.heap.size 23 1 v (iu xs).length ((iu xs).map (Value.int .u64)) ∧ (v = .slice none 0 0 ↔ xs = []) ∧ Below w.heap.size w w' := by
  have h1 : 1 ≤ n := by omega
  have hro : Fence.wide.round = none := rfl
  obtain ⟨i0, hi0, hz0, hz1, hz2⟩ := info_parts uinfoU
  refine callsIn_of_wp_marks Try.func68 rfl trivial ?_ hro
  simp only [Try.ntmps68, List.size_toArray, List.length_cons, List.length_nil, Nat.reduceAdd, Nat.reduceSub, Array.replicate_succ, Array.replicate_zero, List.push_toArray, List.append_toArray, List.nil_append, List.cons_append]
  gi_wp2
  have bb := Ob.new w [.slice none 0 0] 30
  have hB0 : Below w.heap.size w (w.alloc (.cells [Value.slice none 0 0].toArray 30)) := (Below.refl _ w).alloc (Nat.le_refl _) _
  have hsz : (w.alloc (.cells [Value.slice none 0 0].toArray 30)).heap.size = w.heap.size + 1 := by simp
  generalize w.alloc (.cells [Value.slice none 0 0].toArray 30) = W0 at *
  refine wpIn_rangeFunc_ownH hro h1 (gf := gf) (lb := lb) rfl trivial eg hseq walksK_t (walksK_b (w := W0)) hB0 (fun _ => rfl)
    (ApU w W0) (fun _ _ _ => False) (ApU.own (by omega)) (fun c s X Y row hs _ _ => hs)
    ⟨⟨_, bb, World.ownsRow_nil _ _ _ _, by simp⟩, hB0, Nat.le_refl _⟩
    (fun x a' W => a' = { tmps := #[.slice none 0 0, .func (.func gf) #[] lb, .pointer (some ⟨w.heap.size, 0, none⟩), undef, .slice none 0 0, .int .u64 x, .func (.func gf) #[] lb, .int .u64 x, undef, undef, undef, undef, undef], defers := [] })
    (fun x a' _ X Y row hs _ _ => hs)
    ?assign ?body ?done ?stop
  case assign =>
    rintro l pre x W K hI hK
    gi_wp2
    exact hK _ _ (KeepsFrom.refl _ _) (KeepsWalks.refl _) hI rfl
  case body =>
    rintro l pre x a' W hl ⟨r, hr⟩ ⟨⟨u, i2, i3, i4⟩, i7, i8⟩ rfl hlt
    obtain ⟨a3, c3, hv3⟩ := own_len i3
    subst hv3
    have hpl := iu_len pre
    have i3' := i3.alloc (.cells #[.int .u64 (x : Int)] 23)
    obtain ⟨v4, w4, R4, r4, g4⟩ := run_append_rd (P := Try.prog) (w := W.alloc (.cells #[.int .u64 (x : Int)] 23)) W0.heap.size 30 30 23 i0 _ 8 Try.underlying30 hi0 hz0 hz1 hz2 rfl .u64 (.slice a3 (iu pre).length c3) (iu pre) i3' (some ⟨W.heap.size, 0, none⟩) 1 [(x : Int)] (rd_one W _ _) (fun e => by cases e) (by unfold maxLen; simp; omega) (by simp; omega) (by simp; omega)
    rw [← iu_snoc] at r4
    rw [show [(x : Int)].length = 1 from rfl] at R4
    have hL5 : (iu (pre ++ [x])).length = pre.length + 1 := by simp [iu]
    obtain ⟨a5, c5, hv5⟩ := own_len r4
    subst hv5
    have hne : (Value.slice a3 (iu pre).length c3).ownBlock ≠ some w.heap.size := fun e => by have := (i3.lt _ e).1; omega
    have o4 := (i2.alloc (.cells #[.int .u64 (x : Int)] 23)).kept g4 hne
    have r6 := ownsRow_setCell_below r4 (a := ⟨w.heap.size, 0, none⟩) (by show w.heap.size < W0.heap.size; omega) (.slice a5 (iu (pre ++ [x])).length c5)
    have hsW : W.heap.size + 1 ≤ w4.heap.size := by have := g4.size; simpa using this
    have B4 : Below w.heap.size w w4 := (i7.alloc i7.size _).grown g4 (by have := i7.size; simp; omega) (fun k e => by have := (i3'.lt k e).1; omega)
    have G6 : ApU w W0 (pre ++ [x]) (w4.setCell ⟨w.heap.size, 0, none⟩ (.slice a5 (iu (pre ++ [x])).length c5)) := by
      refine ⟨⟨_, o4.set 0 _, r6, ?_⟩, B4.setCell (p := ⟨w.heap.size, 0, none⟩) (Nat.le_refl _) _, by simp [World.setCell]; omega⟩
      constructor
      · intro e
        rw [hL5] at e
        simp at e
      · intro e
        simp at e
    have KF6 : KeepsFrom W0.heap.size W (w4.setCell ⟨w.heap.size, 0, none⟩ (.slice a5 (iu (pre ++ [x])).length c5)) := ((((KeepsOthers.alloc W _).from _).trans (keepsFrom_cells g4 (own_cells i3'))).trans (KeepsFrom.of_grownBy (grew_set w4 w.heap.size 0 _) (fun j e => by cases e; omega)))
    have KW6 : KeepsWalks W (w4.setCell ⟨w.heap.size, 0, none⟩ (.slice a5 (iu (pre ++ [x])).length c5)) := ((KeepsWalks.alloc W _).trans (KeepsWalks.of_grownBy g4 (fun j o hj ho => by obtain ⟨c, e, f, q⟩ := own_cells i3' j hj; rw [ho] at q; cases q; rfl))).trans (KeepsWalks.setCell _ _ _)
    obtain ⟨L, hL⟩ : ∃ L, L = (iu pre).length := ⟨_, rfl⟩
    obtain ⟨L5, hLL⟩ : ∃ L, L = (iu (pre ++ [x])).length := ⟨_, rfl⟩
    have y0 := i2.cell 0
    have z4 := o4.cell 0
    have f4 := o4.frozen 0
    simp only [List.getElem?_cons_zero] at y0 z4
    rw [← hL] at R4 y0 z4
    rw [← hLL] at R4 G6 KF6 KW6
    obtain ⟨q1, q2, q3⟩ := app_runs R4
    have HG6 := hide G6
    have HF6 := hide KF6
    have HW6 := hide KW6
    clear R4 r4 g4 r6 G6 KF6 KW6 hne o4 i2 i3 i3' i4 i7 hL hLL hL5 hpl B4
    gi_wp2
    exact ⟨HF6.out, HW6.out, HG6.out⟩
  case done =>
    rintro D ys W hD hS ⟨⟨u, i2, i3, i4⟩, i7, i8⟩ hK
    obtain ⟨a3, c3, hv3⟩ := own_len i3
    subst hv3
    have y0 := i2.cell 0
    have f0 := i2.frozen 0
    simp only [List.getElem?_cons_zero] at y0
    have HK := hide hK
    have HI := hide i3
    have H7 := hide i7
    have H4 := hide i4
    have HS := hide hS
    have hLD : D < W.heap.size := (Array.getElem?_eq_some_iff.1 hK).1
    clear i2 i3 i4 i7 hS hK
    gi_wp2
    refine ⟨by simp, .inl ⟨_, _, rfl, run_takeDeferred HK.out, ?_⟩⟩
    refine ⟨_, results_tmp rfl _ _ _, .slice a3 (iu ys).length c3, ys, rfl, HS.out, ?_, H4.out, H7.out.grown (grownBy_putObj' _ _ _) H7.out.size (fun k e => by cases e; omega)⟩
    exact row_base (HI.out.kept (grownBy_putObj' _ _ _) (row_not HI.out HK.out rfl)) (by omega)
  case stop =>
    rintro D c pre W hD _ h
    exact h.elim
set_option maxRecDepth 100000 in
set_option maxHeartbeats 1000000 in
theorem ucollect_in (n : Nat) (hn : 3 ≤ n) (gf : Nat) (lb : Array Value) (eg : ∀ args w, (callFunc gf args).run Try.prog w = .ok (.enter gf args) w) (S : List Nat → Prop) (N : Nat) (hN : N ≤ 1000000) (w : World)
    (hseq : SeqStopsK Fence.wide (n - 1 - 1) Try.prog gf lb (fun i => #[encU i]) KeepsWalks S (fun _ => True) N w) :
    CallsIn Fence.wide n Try.prog 63 #[.func (.func gf) #[] lb] w fun e w' => ∃ (v : Value) (xs : List Nat), e = .returned v ∧ S xs ∧ w'.ownsRow w.heap.size 23 1 v (iu xs).length ((iu xs).map (Value.int .u64)) ∧ (v = .slice none 0 0 ↔ xs = []) ∧ Below w.heap.size w w' := by
  have h1 : 1 ≤ n := by omega
  have hro : Fence.wide.round = none := rfl
  have HC := hide (uappend_in (n - 1) (by omega) gf lb eg S N hN w hseq)
  refine callsIn_of_wp Try.func63 rfl trivial ?_ hro
  simp only [Try.ntmps63, List.size_toArray, List.length_cons, List.length_nil, Nat.reduceAdd, Nat.reduceSub, Array.replicate_succ, Array.replicate_zero, List.push_toArray, List.append_toArray, List.nil_append, List.cons_append]
  gi_wp2_with fail
  refine ⟨trivial, HC.out.mono ?_⟩
  rintro e w' ⟨v, xs, rfl, hS, hrow, hnil, hb⟩
  have H := hide (And.intro hS (And.intro hrow (And.intro hnil hb)))
  clear hS hrow hnil hb HC
  gi_wp2
  go_ret
  exact ⟨v, xs, rfl, H.out⟩
/-- a row of numbers, sorted, is a row again -/
theorem ro_own {W : World} {base g cap : Nat} {d : Array Int} {ex : List Value} (hb : base ≤ g) (h : Ro W g d ex) (hc : (uc d ++ ex).length = cap) (h1 : d.size ≤ cap) (h2 : cap ≤ maxLen) : W.ownsRow base 23 1 (.slice (some ⟨g, 0, none⟩) d.size cap) d.size (d.toList.map (Value.int .u64)) := by
  refine ⟨by simp, .inr ⟨g, cap, (uc d ++ ex).toArray, rfl, hb, h, h1, h2, by simpa using hc, ?_⟩⟩
  simp [uc]
set_option maxRecDepth 100000 in
set_option maxHeartbeats 1000000 in
theorem usorted_in (n : Nat) (hn : 4 ≤ n) (gf : Nat) (lb : Array Value) (eg : ∀ args w, (callFunc gf args).run Try.prog w = .ok (.enter gf args) w) (S : List Nat → Prop) (hS : ∀ xs, S xs → xs.length < 65536) (N : Nat) (hN : N ≤ 1000000) (w : World)
    (hseq : SeqStopsK Fence.wide (n - 1 - 1 - 1) Try.prog gf lb (fun i => #[encU i]) KeepsWalks S (fun _ => True) N w) :
    CallsIn Fence.wide n Try.prog 54 #[.func (.func gf) #[] lb] w fun e w' => ∃ (v : Value) (xs : List Nat), e = .returned v ∧ S xs ∧ w'.ownsRow w.heap.size 23 1 v xs.length (((iu xs).mergeSort (fun x y => decide (x ≤ y))).map (Value.int .u64)) ∧ (v = .slice none 0 0 ↔ xs = []) ∧ Below w.heap.size w w' := by
  have h1 : 1 ≤ n := by omega
  have hro : Fence.wide.round = none := rfl
  have HC := hide (ucollect_in (n - 1) (by omega) gf lb eg S N hN w hseq)
  refine callsIn_of_wp Try.func54 rfl trivial ?_ hro
  simp only [Try.ntmps54, List.size_toArray, List.length_cons, List.length_nil, Nat.reduceAdd, Nat.reduceSub, Array.replicate_succ, Array.replicate_zero, List.push_toArray, List.append_toArray, List.nil_append, List.cons_append]
  gi_wp2_with fail
  refine ⟨trivial, HC.out.mono ?_⟩
  rintro e W ⟨v, xs, rfl, hs, hrow, hnil, hb⟩
  clear HC
  rcases hrow.2 with ⟨rfl, hz⟩ | ⟨gb, cap, cur, rfl, hbase, hgb, r1, r2, r3, r4⟩
  · have hx : xs = [] := by rw [iu_len] at hz; exact List.eq_nil_of_length_eq_zero hz
    subst hx
    have HC2 := hide (usort_nil W)
    have H := hide (And.intro hs (And.intro hrow hb))
    clear hs hrow hnil hb
    gi_wp2_with fail
    refine ⟨trivial, (callsIn_wide.2 HC2.out).mono ?_⟩
    rintro e w' ⟨rfl, rfl⟩
    gi_wp2
    go_ret
    exact ⟨_, [], rfl, H.out.1, by simpa [iu] using H.out.2.1, by simp, H.out.2.2⟩
  · have hl := hS xs hs
    have hd : (iu xs).toArray.size = (iu xs).length := by simp
    have hle : (iu xs).length = xs.length := iu_len xs
    have hro2 : Ro W gb (iu xs).toArray (cur.toList.drop (iu xs).length) := by
      show W.heap[gb]? = some (.cells (uc (iu xs).toArray ++ cur.toList.drop (iu xs).length).toArray 23 (0, 0))
      rw [hgb]
      have e : uc (iu xs).toArray ++ cur.toList.drop (iu xs).length = cur.toList := by
        rw [Nat.mul_one] at r4
        show (iu xs).map (Value.int .u64) ++ _ = _
        rw [← r4, List.take_append_drop]
      rw [e]
    have hsort := usort_any W gb cap (iu xs).toArray _ hro2 (by omega)
    have hsz : (Sort.sort Sort.ltInt (iu xs).toArray).size = (iu xs).length := by
      have := congrArg List.length (Sort.sortInt (iu xs))
      rw [List.length_mergeSort, Array.length_toList] at this
      exact this
    rw [hd] at hsort
    have HC2 := hide hsort
    have H := hide (And.intro hs (And.intro hnil hb))
    have HE := hide (And.intro hbase (And.intro r1 (And.intro r2 r3)))
    have HZ := hide hsz
    have HD := hide hle
    obtain ⟨L, hL⟩ : ∃ L, L = (iu xs).length := ⟨_, rfl⟩
    rw [← hL] at HC2 ⊢
    have HL := hide hL
    clear hs hrow hnil hb hbase r1 r2 r3 r4 hsort hsz hd hle hL hro2 hgb
    gi_wp2_with fail
    refine ⟨trivial, (callsIn_wide.2 HC2.out).mono ?_⟩
    rintro e w' ⟨rfl, k1, k2⟩
    have HK1 := hide k1
    have HK2 := hide k2
    clear k1 k2 HC2
    gi_wp2
    go_ret
    have hL := HL.out
    have hle := HD.out
    obtain ⟨hbase, r1, r2, r3⟩ := HE.out
    refine ⟨_, xs, rfl, H.out.1, ?_, ?_, H.out.2.2.grown HK2.out H.out.2.2.size (fun j hj => by cases hj; exact hbase)⟩
    · have q := ro_own (base := w.heap.size) (cap := cap) hbase HK1.out (by simp [uc]; rw [HZ.out, r3]; omega) (by rw [HZ.out]; exact r1) r2
      rw [Sort.sortInt, HZ.out, hle] at q
      rw [hL, hle]
      exact q
    · rw [hL]
      exact H.out.2.1
set_option maxRecDepth 100000 in
set_option maxHeartbeats 1000000 in
/-- slices.Sorted of what maps.Keys handed back: the map's keys, sorted -/
theorem usorted_keys (b : Nat) (M : Nat → Option Value) (L : List Nat) (hL : ∀ i, M i ≠ none → i ∈ L) (hl : L.length < 65536) (w : World) (h : Mp Try.prog 23 w b M) :
    Calls Try.prog 54 #[.func (.func 65) #[] #[.pointer (some ⟨w.heap.size, 0, none⟩)]] (w.alloc (.cells #[.map (some b)] 61)) fun e w' => ∃ (v : Value) (xs : List Nat), e = .returned v ∧ KeysU M xs ∧
      w'.ownsRow (w.heap.size + 1) 23 1 v xs.length (((iu xs).mergeSort (fun x y => decide (x ≤ y))).map (Value.int .u64)) ∧ (v = .slice none 0 0 ↔ xs = []) ∧ Below (w.heap.size + 1) (w.alloc (.cells #[.map (some b)] 61)) w' := by
  have h2 : Mp Try.prog 23 (w.alloc (.cells #[.map (some b)] 61)) b M := h.below ((Below.refl _ w).alloc (Nat.le_refl _) _)
  have hs := ukeys_stops 1 (Nat.le_refl _) w.heap.size b M L hL (w.alloc (.cells #[.map (some b)] 61)) (by simp) (by simp) h2
  have q := usorted_in 4 (Nat.le_refl _) 65 _ (enters_of Try.func65 (by kernel_rfl) rfl) (KeysU M) (fun xs hx => Nat.lt_of_le_of_lt (nodup_le xs L hx.1 (fun i hi => hL i (fun e => by have := (hx.2.2 i).1 hi; rw [e] at this; cases this))) hl) L.length (by omega) _ hs
  rw [World.size_alloc] at q
  exact callsIn_wide.1 q
end Go.Proofs.Ytmkafoidfgaokaa
namespace Go.Proofs.Ytmkafoidfgaokaa
open Go.RowKit Go.Shelf Apo
attribute [local go_sem] Oper.semAt_some
set_option maxRecDepth 100000 in
set_option maxHeartbeats 2000000 in
theorem uvals1_in (m : Nat) (hm : 1 ≤ m) (l Bs g cap : Nat) (xs : List Nat) (hn : xs.length ≤ 1000000) (U : Nat → Prop) (hUg : U g) (J Jx : List Nat → World → Prop)
    (hY : ∀ pre x W, J pre W → pre.length < xs.length → YieldAt Fence.wide (m - 1) Try.prog l #[encU x] W fun e W' => (e = .returned (.bool true) ∧ J (pre ++ [x]) W' ∧ KeepO U W W') ∨ (e = .returned (.bool false) ∧ Jx (pre ++ [x]) W'))
    (W : World) (hcap : xs.length ≤ cap) (hBs : W.cell? ⟨Bs, 0, none⟩ = some (.slice (some ⟨g, 0, none⟩) xs.length cap)) (hg : ∀ i (h : i < xs.length), W.cell? ⟨g, i, none⟩ = some (.int .u64 (xs[i] : Nat))) (h0 : J [] W) :
    CallsIn Fence.wide m Try.prog 62 #[.func (.yield l) #[] #[], .pointer (some ⟨Bs, 0, none⟩)] W fun e W' => (∃ v, e = .returned v) ∧
      ((∃ ys, ys = xs ∧ J ys W') ∨ (∃ pre, (∃ k, k ≤ xs.length ∧ pre = xs.take k) ∧ Jx pre W')) := by
  refine callsIn_of_wp Try.func62 rfl trivial ?_ rfl
  simp only [Try.ntmps62, List.size_toArray, List.length_cons, List.length_nil, Nat.reduceAdd, Nat.reduceSub, Array.replicate_succ, Array.replicate_zero, List.push_toArray, List.append_toArray, List.nil_append, List.cons_append]
  obtain ⟨n, hnn⟩ : ∃ n, n = xs.length := ⟨_, rfl⟩
  rw [← hnn] at hBs hcap hn
  have HN := hide hnn
  have HG := hide hg
  clear hnn hg
  gi_wp2
  gi_loopw [7] (fun i wr => ∃ k : Nat, k ≤ n ∧ i = .int .i64 k ∧ Hid (J (xs.take k) wr) ∧ Hid (KeepO U W wr)) (fun i _ => n - (intOf i).toNat)
  case atStart => exact ⟨0, Nat.zero_le _, rfl, hide (by simpa using h0), hide ⟨Nat.le_refl _, fun _ _ => rfl⟩⟩
  case round =>
    obtain ⟨k, hk, rfl, HJ, HK⟩ := hrel
    by_cases hlt : k < n
    · have hkx : k < xs.length := by rw [← HN.out]; exact hlt
      obtain ⟨x, hx⟩ : ∃ x, x = xs[k] := ⟨_, rfl⟩
      have c0 : wr.cell? ⟨g, k, none⟩ = some (.int .u64 (x : Nat)) := by rw [hx]; exact (World.cell?_of_block (HK.out.2 g hUg)).trans (HG.out k hkx)
      have hlen : (xs.take k).length = k := by rw [List.length_take]; omega
      obtain ⟨fn, tmps, assign, body, hy, hRR⟩ := hY _ x _ HJ.out (by rw [hlen]; exact hkx)
      have hsn : xs.take k ++ [x] = xs.take (k + 1) := by rw [hx, List.take_succ_eq_append_getElem hkx]
      rw [hsn] at hRR
      have d1 : decide ((k : Int) < (n : Int)) = true := by simp; omega
      have d2 : decide (k < n) = true := by simp; omega
      clear hlen hsn hx
      gi_wp2
      refine hRR.mono ?_
      rintro e W3 (⟨rfl, hJ3, hk3⟩ | ⟨rfl, hJx3⟩)
      · have HJ3 := hide hJ3
        have HK3 : Hid (KeepO U W W3) := hide (keepO_t HK.out hk3)
        clear hJ3 hk3
        gi_wp2
        go_roundw
        case rel => exact ⟨k + 1, by omega, by simp, HJ3, HK3⟩
        case measure => simp [intOf]; omega
      · have HJx3 := hide hJx3
        clear hJx3
        gi_wp2
        refine bodyPost_ret (results_none rfl _ _ _) rfl ?_
        exact ⟨⟨_, rfl⟩, .inr ⟨_, ⟨k + 1, by omega, rfl⟩, HJx3.out⟩⟩
    · obtain rfl : k = n := by omega
      have HJe : Hid (J xs wr) := by
        have := HJ.out
        rw [List.take_of_length_le (by rw [← HN.out]; exact Nat.le_refl _)] at this
        exact hide this
      gi_wp2
      go_end0
      exact ⟨⟨_, rfl⟩, .inl ⟨_, rfl, HJe.out⟩⟩
theorem uvals_stops {w : World} {Bs g cap : Nat} {xs : List Nat} (hn : xs.length ≤ 1000000) (hcap : xs.length ≤ cap) (hgl : g < w.heap.size) (hBs : Ob w Bs 30 [.slice (some ⟨g, 0, none⟩) xs.length cap]) (hg : ∀ i (h : i < xs.length), w.cell? ⟨g, i, none⟩ = some (.int .u64 (xs[i] : Nat))) :
    SeqStopsK Fence.wide 2 Try.prog 62 #[.pointer (some ⟨Bs, 0, none⟩)] (fun i => #[encU i]) (KeepO (fun i => i = g)) (fun ys => ys = xs) (fun pre => ∃ k, k ≤ xs.length ∧ pre = xs.take k) xs.length w := by
  intro l J Jx W hW _ _ hY h0
  exact uvals1_in 2 (by decide) l Bs g cap xs hn (fun i => i = g) rfl J Jx hY W hcap ((hBs.old hW).cell 0) (fun i h => (hW.cell (p := ⟨g, i, none⟩) hgl).trans (hg i h)) h0
set_option maxRecDepth 100000 in
set_option maxHeartbeats 1000000 in
theorem uvals_nil {w : World} {Bs : Nat} (hBs : Ob w Bs 30 [.slice none 0 0]) (Kp : World → World → Prop) :
    SeqStopsK Fence.wide 2 Try.prog 62 #[.pointer (some ⟨Bs, 0, none⟩)] (fun i => #[encU i]) Kp (fun ys => ys = []) (fun pre => pre = []) 0 w := by
  intro l J Jx W hW _ _ hY h0
  have c0 := (hBs.old hW).cell 0
  simp only [List.getElem?_cons_zero] at c0
  refine callsIn_of_wp Try.func62 rfl trivial ?_ rfl
  simp only [Try.ntmps62, List.size_toArray, List.length_cons, List.length_nil, Nat.reduceAdd, Nat.reduceSub, Array.replicate_succ, Array.replicate_zero, List.push_toArray, List.append_toArray, List.nil_append, List.cons_append]
  gi_wp2
  gi_loopw [7] (fun i wr => i = .int .i64 0 ∧ W = wr) (fun _ _ => 0)
  case atStart => exact ⟨rfl, rfl⟩
  case round =>
    obtain ⟨rfl, rfl⟩ := hrel
    gi_wp2
    go_end0
    exact ⟨⟨_, rfl⟩, .inl ⟨_, rfl, h0⟩⟩
set_option maxRecDepth 100000 in
set_option maxHeartbeats 1000000 in
/-- slices.Values: the slice is boxed, the function value captures the box -/
theorem uvals_any (a : Option Addr) (n cap : Nat) (w : World) : Calls Try.prog 51 #[.slice a n cap] w fun e w' => e = .returned (.func (.func 62) #[] #[.pointer (some ⟨w.heap.size, 0, none⟩)]) ∧ w' = w.alloc (.cells #[.slice a n cap] 30) := by
  go_enter Try.func51, Try.ntmps51
  go_wp2
  go_ret
  exact ⟨rfl, rfl⟩
end Go.Proofs.Ytmkafoidfgaokaa
