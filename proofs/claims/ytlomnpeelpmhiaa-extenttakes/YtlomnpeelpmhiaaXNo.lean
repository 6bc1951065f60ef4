/- ExtentNone, over any extent that does what is meant. Over the translation. -/
import Derived.Test.YtlomnpeelpmhiaaXDs
import Derived.Stop.RegionWithIn
import Derived.Deep.RegionHeld3
namespace Go.Proofs.Ytlomnpeelpmhiaa
open Go.RowKit Go.Shelf Apo
attribute [local go_sem] Oper.semAt_some

/-- an object that nobody made -/
structure ExtNil : Prop where
  take : ∀ w : World, Calls Try.prog 9 #[.pointer none, .int .i64 1] w fun e w' => e = .returned (.tuple #[.int .i64 0, .bool false]) ∧ Below w.heap.size w w'
  claim : ∀ (w : World) (s : Spn), Spn.Ok s → Calls Try.prog 11 #[.pointer none, .agg #[.int .i64 s.a, .int .i64 s.k]] w fun e w' => e = .returned (.bool false) ∧ Below w.heap.size w w'
  give : ∀ (w : World) (s : Spn), Spn.Ok s → Calls Try.prog 13 #[.pointer none, .agg #[.int .i64 s.a, .int .i64 s.k]] w fun e w' => e = .returned (.bool false) ∧ Below w.heap.size w w'
  has : ∀ (w : World) (s : Spn), Spn.Ok s → Calls Try.prog 15 #[.pointer none, .agg #[.int .i64 s.a, .int .i64 s.k]] w fun e w' => e = .returned (.bool false) ∧ Below w.heap.size w w'
  count : ∀ w : World, Calls Try.prog 22 #[.pointer none] w fun e w' => e = .returned (.int .i64 0) ∧ Below w.heap.size w w'
  largest : ∀ w : World, Calls Try.prog 23 #[.pointer none] w fun e w' => e = .returned (.int .i64 0) ∧ Below w.heap.size w w'
  copy : ∀ w : World, Calls Try.prog 17 #[.pointer none] w fun e w' => e = .returned (.pointer none) ∧ Below w.heap.size w w'
  spans : ∀ w : World, SpTold (fun _ => False) w (.pointer none) []

/-- the object, and the law's own variables beside it -/
structure NoF (C : Cfr) (w W : World) (p : Nat) (O : Nat → Prop) (f : Fr) (gk : Nat) (s : Spn) (most kv : Int) : Prop where
  c : C O W p f
  lo : ∀ i, O i → w.heap.size + 2 ≤ i
  hi : ∀ i, O i → i < W.heap.size
  bel : Below w.heap.size w W
  ks : Ob W w.heap.size 29 [.int .i64 s.a, .int .i64 s.k]
  km : Ob W (w.heap.size + 1) 3 [.int .i64 most]
  kk : Ob W gk 3 [.int .i64 kv]
  nk : ¬ O gk
  gk2 : w.heap.size + 2 ≤ gk
section
variable {C : Cfr} {w W W' : World} {p gk : Nat} {O : Nat → Prop} {f f' : Fr} {s : Spn} {most kv : Int}
theorem NoF.turn (h : NoF C w W p O f gk s most kv) (ho : Onl O W W') (hd : C (Gro O W W') W' p f') : NoF C w W' p (Gro O W W') f' gk s most kv :=
  ⟨hd, Gro.base h.lo h.km.lt, Gro.lt h.hi ho.size, Below.onl h.bel ho (fun i hi => by have := h.lo i hi; omega) (Nat.le_refl _), h.ks.onl ho (fun q => by have := h.lo _ q; omega), h.km.onl ho (fun q => by have := h.lo _ q; omega), h.kk.onl ho h.nk, fun q => q.elim h.nk (fun q => absurd h.kk.lt (Nat.not_lt.2 q.1)), h.gk2⟩
theorem NoF.below (E : ExtDo C) (h : NoF C w W p O f gk s most kv) (hb : Below W.heap.size W W') : NoF C w W' p O f gk s most kv :=
  ⟨E.onl h.c (F := fun _ => False) (Onl.ofBelow hb) (fun _ _ q => q), h.lo, fun i hi => Nat.lt_of_lt_of_le (h.hi i hi) hb.size, h.bel.trans (hb.mono h.bel.size), h.ks.old hb, h.km.old hb, h.kk.old hb, h.nk, h.gk2⟩
theorem NoF.own (E : ExtDo C) (h : NoF C w W p O f gk s most kv) {B : Nat} (hB : ∀ i, O i → i < B) (hgk : gk < B) (hwB : w.heap.size + 2 ≤ B) {row : Option Nat} (hg : W.grownBy W' row) (hr : ∀ r, row = some r → B ≤ r) : NoF C w W' p O f gk s most kv :=
  have ho : Onl (fun i => row = some i) W W' := (Onl.refl _ W).grown hg (fun k hk => .inl hk)
  ⟨E.onl h.c ho (fun i hi q => by have := hr i q; have := hB i hi; omega), h.lo, fun i hi => Nat.lt_of_lt_of_le (h.hi i hi) hg.size, Below.onl h.bel ho (fun i q => by have := hr i q; omega) (Nat.le_refl _), h.ks.kept hg (fun e => by have := hr _ e; omega), h.km.kept hg (fun e => by have := hr _ e; omega), h.kk.kept hg (fun e => by have := hr _ e; omega), h.nk, h.gk2⟩
theorem NoF.count (E : ExtDo C) (h : NoF C w W p O f gk s most kv) (kv' : Int) : NoF C w (W.setCell ⟨gk, 0, none⟩ (.int .i64 kv')) p O f gk s most kv' :=
  ⟨E.onl h.c (F := fun i => i = gk) ((Onl.refl (fun i => i = gk) W).set (p := gk) (.inl rfl) _) (fun i hi q => h.nk (q ▸ hi)), h.lo, fun i hi => by have := h.hi i hi; simpa using this, h.bel.setCell (p := ⟨gk, 0, none⟩) (by have := h.gk2; simp only; omega) _, h.ks.set_other (by have := h.gk2; omega) _, h.km.set_other (by have := h.gk2; omega) _, h.kk.set 0 _, h.nk, h.gk2⟩
end

/-- the same, and the record of what is deferred -/
structure NoD (C : Cfr) (w W : World) (p : Nat) (O : Nat → Prop) (f : Fr) (gk : Nat) (s : Spn) (most kv : Int) (D : Nat) : Prop where
  n : NoF C w W p O f gk s most kv
  d : W.heap[D]? = some (.deferred (some []))
  nd : ¬ O D
theorem NoD.below {C : Cfr} {w W W' : World} {p gk D : Nat} {O : Nat → Prop} {f : Fr} {s : Spn} {most kv : Int} (E : ExtDo C) (h : NoD C w W p O f gk s most kv D) (hb : Below W.heap.size W W') : NoD C w W' p O f gk s most kv D :=
  ⟨h.n.below E hb, (hb.block D (Array.getElem?_eq_some_iff.1 h.d).1).trans h.d, h.nd⟩
theorem NoD.drew {C : Cfr} {w W : World} {p gk D : Nat} {O : Nat → Prop} {f : Fr} {s : Spn} {most kv : Int} (E : ExtDo C) (h : NoD C w W p O f gk s most kv D) : NoD C w W.drew p O f gk s most kv D := h.below E ((Below.refl _ W).drew)
theorem NoD.cells {C : Cfr} {w W : World} {p gk D : Nat} {O : Nat → Prop} {f : Fr} {s : Spn} {most kv : Int} (h : NoD C w W p O f gk s most kv D) : W.cell? ⟨w.heap.size, 0, none⟩ = some (.int .i64 s.a) ∧ W.cell? ⟨w.heap.size, 1, none⟩ = some (.int .i64 s.k) ∧ W.cell? ⟨w.heap.size + 1, 0, none⟩ = some (.int .i64 most) ∧ W.cell? ⟨gk, 0, none⟩ = some (.int .i64 kv) :=
  ⟨h.n.ks.cell 0, h.n.ks.cell 1, h.n.km.cell 0, h.n.kk.cell 0⟩

set_option maxRecDepth 100000 in
set_option maxHeartbeats 16000000 in
theorem xnone_in {C : Cfr} (E : ExtDo C) (Z : ExtNil) (m n : Int) (hm1 : m ≤ 9223372036854775807) (s : Spn) (hs : Spn.Ok s) (most : Int) (hmost : most ≤ 9223372036854775807) (w : World) :
    CallsIn Fence.wide 3 Try.prog 5 #[.int .i64 m, .int .i64 n, .agg #[.int .i64 s.a, .int .i64 s.k], .int .i64 most] w fun e w' => e = .returned (.bool true) ∧ Below w.heap.size w w' := by
  have HE := hide E
  have HZ := hide Z
  have HS := hide hs
  clear E Z hs
  have h1 : 1 ≤ 3 := by omega
  have hro : Fence.wide.round = none := rfl
  have h5 : Fence.wide.fn 5 := trivial
  have k0 := (Ob.new w [.int .i64 s.a, .int .i64 s.k] 29).alloc (.cells #[.int .i64 most] 3)
  have j0 := Ob.new (w.alloc (.cells #[.int .i64 s.a, .int .i64 s.k] 29)) [.int .i64 most] 3
  rw [World.size_alloc] at j0
  have B0 : Below w.heap.size w ((w.alloc (.cells #[.int .i64 s.a, .int .i64 s.k] 29)).alloc (.cells #[.int .i64 most] 3)) := ((Below.refl _ w).alloc (Nat.le_refl _) _).alloc (by simp) _
  generalize hW0 : (w.alloc (.cells #[.int .i64 s.a, .int .i64 s.k] 29)).alloc (.cells #[.int .i64 most] 3) = W0 at k0 j0 B0
  have HK0 := hide k0
  have HJ0 := hide j0
  have HB0 := hide B0
  have HW0 := hide hW0
  clear k0 j0 B0 hW0
  refine callsIn_of_wp_marks Try.func5 rfl h5 ?_ hro
  simp only [Try.ntmps5, List.size_toArray, List.length_cons, List.length_nil, Nat.reduceAdd, Nat.reduceSub, Array.replicate_succ, Array.replicate_zero, List.push_toArray, List.append_toArray, List.nil_append, List.cons_append]
  gi_wp2_with fail
  rw [HW0.out]
  refine ⟨trivial, (callsIn_wide.2 (xawake_any HE.out W0)).mono ?_⟩
  rintro e w1 ⟨rfl, b1⟩
  have k1 := HK0.out.old b1
  have j1 := HJ0.out.old b1
  have B1 := HB0.out.trans (b1.mono HB0.out.size)
  have x0 := k1.cell 0
  have x1 := k1.cell 1
  have y0 := j1.cell 0
  simp only [List.getElem?_cons_zero, List.getElem?_cons_succ] at x0 x1 y0
  have HK1 := hide k1
  have HJ1 := hide j1
  have HB1 := hide B1
  clear b1 k1 j1 B1
  by_cases hbig : n > 100
  · gi_wp2
    exact ⟨_, results_tmp rfl _ _ _, rfl, HB1.out⟩
  by_cases hneg : most < 0
  · gi_wp2
    exact ⟨_, results_tmp rfl _ _ _, rfl, HB1.out⟩
  have hn : ¬ 100 < n := by omega
  have hm0 : ¬ most < 0 := by omega
  clear hbig hneg
  gi_wp2_with fail
  refine ⟨trivial, (callsIn_wide.2 (HE.out.new m n w1 hm1)).mono ?_⟩
  rintro e w2 ⟨p, rfl, d2, b2⟩
  have k2 := HK1.out.old b2
  have j2 := HJ1.out.old b2
  have x0 := k2.cell 0
  have x1 := k2.cell 1
  simp only [List.getElem?_cons_zero, List.getElem?_cons_succ] at x0 x1
  have hj1 := HJ1.out.lt
  have HD2 := hide d2
  have HB2 := hide b2
  have HK2 := hide k2
  have HJ2 := hide j2
  clear d2 b2 k2 j2
  gi_wp2_with fail
  refine ⟨trivial, (callsIn_wide.2 (HE.out.claim HD2.out (fun i hi => hi.2) s HS.out)).mono ?_⟩
  rintro e w3 ⟨rfl, d3, o3⟩
  have hz2 := HB2.out.size
  have hz3 := o3.size
  have N3 : NoF C w (w3.alloc (.cells #[.int .i64 0] 3)) p (Gro (fun i => w1.heap.size ≤ i ∧ i < w2.heap.size) w2 w3) ((newFr m n).claim s).2 w3.heap.size s most 0 := by
    have lo2 : ∀ i, (w1.heap.size ≤ i ∧ i < w2.heap.size) → w.heap.size + 2 ≤ i := fun i hi => by have := hi.1; omega
    have hb3 : Below w.heap.size w w3 := Below.onl (HB1.out.trans (HB2.out.mono HB1.out.size)) o3 (fun i hi => by have := lo2 i hi; omega) (Nat.le_refl _)
    have BA := (Below.refl w3.heap.size w3).alloc (Nat.le_refl _) (.cells #[.int .i64 0] 3)
    refine ⟨HE.out.onl d3 (F := fun _ => False) (Onl.ofBelow BA) (fun _ _ q => q), Gro.base lo2 (by have := HJ2.out.lt; omega), fun i hi => ?_, hb3.alloc hb3.size _, (HK2.out.onl o3 (fun q => by have := lo2 _ q; omega)).alloc _, (HJ2.out.onl o3 (fun q => by have := lo2 _ q; omega)).alloc _, Ob.new w3 [.int .i64 0] 3, fun q => ?_, by have := HJ2.out.lt; omega⟩
    · have := Gro.lt (w' := w3) (fun i (hi : w1.heap.size ≤ i ∧ i < w2.heap.size) => hi.2) hz3 i hi
      simp; omega
    · have := Gro.lt (w' := w3) (fun i (hi : w1.heap.size ≤ i ∧ i < w2.heap.size) => hi.2) hz3 _ q
      omega
  generalize Gro (fun i => w1.heap.size ≤ i ∧ i < w2.heap.size) w2 w3 = O at N3
  have hokf := HE.out.ok N3.c
  generalize hcl : ((newFr m n).claim s).1 = cl
  generalize ((newFr m n).claim s).2 = f at N3 hokf
  have HN3 := hide N3
  have HOKF := hide hokf
  have hrl := rows_len hokf
  clear d3 o3 hz2 hz3 HD2 HB2 HK2 HJ2 HK1 HJ1 HB1 N3 hokf hcl
  gi_wp2_with fail
  refine ⟨trivial, (HE.out.spans HN3.out.c HN3.out.hi _).mono ?_⟩
  rintro e W4 ⟨b4, gf, lb, U, rfl, heg, hU, hseq⟩
  have N4 := HN3.out.below HE.out b4
  have hz4 := b4.size
  rw [World.size_alloc] at hz4
  have HN4 := hide N4
  have HU := hide hU
  have HEG := hide heg
  have HSEQ := hide hseq
  have hOW : ∀ i, O i → i < W4.heap.size := N4.hi
  have HOW := hide hOW
  clear N4 hU heg hseq b4 hOW
  gi_wp2
  refine wpIn_rangeFunc_ownH hro h1 (gf := gf) (lb := lb) rfl trivial HEG.out HSEQ.out keepO_t (keepO_b (fun i hi => (HU.out i hi).2)) (Below.refl _ _) (fun _ => rfl)
    (fun pre W => NoF C w W p O f w3.heap.size s most pre.length ∧ (pre.length : Int) ≤ most ∧ W4.heap.size ≤ W.heap.size)
    (fun c pre W => c = .exit 0 ∧ NoF C w W p O f w3.heap.size s most most ∧ (pre.length : Int) = most + 1)
    (fun pre X Y row h hg hr => ⟨h.1.own HE.out HOW.out (by omega) (by have := HN3.out.gk2; omega) hg (fun r e => (hr r e).1), h.2.1, Nat.le_trans h.2.2 hg.size⟩)
    (fun c pre X Y row h hg hr => ⟨h.1, h.2.1.own HE.out HOW.out (by omega) (by have := HN3.out.gk2; omega) hg (fun r e => (hr r e).1), h.2.2⟩)
    ⟨by simpa using HN4.out, by simp; omega, Nat.le_refl _⟩
    (fun x a' _ => a' = { tmps := #[.int .i64 m, .int .i64 n, .agg #[.int .i64 s.a, .int .i64 s.k], .int .i64 most, undef, undef, .pointer (some ⟨w.heap.size, 0, none⟩), .pointer (some ⟨w.heap.size + 1, 0, none⟩), .bool false, .pointer (some ⟨p, 0, none⟩), .pointer (some ⟨w3.heap.size, 0, none⟩), undef, undef, undef, .bool true, .bool false, .int .i64 n, .bool (decide (100 < n)), .bool (decide (100 < n)), .int .i64 most, .bool (decide (most < 0)), .bool (decide (100 < n) || decide (most < 0)), .int .i64 m, .int .i64 n, .pointer (some ⟨p, 0, none⟩), .pointer (some ⟨p, 0, none⟩), .agg #[.int .i64 s.a, .int .i64 s.k], .bool cl, .pointer (some ⟨p, 0, none⟩), .func (.func gf) #[] lb, .agg #[.int .i64 x.1, .int .i64 x.2], undef, undef, undef, undef, undef, undef, undef, undef, undef, undef, undef, undef, undef, undef, undef, undef, undef, undef, undef, undef, undef, undef, undef, undef, undef, undef, undef, undef, undef, undef, undef, undef, undef, undef, undef, undef, undef, undef, undef, undef, undef, undef, undef, undef, undef, undef, undef, undef, undef, undef, undef, undef, undef, undef, undef, undef, undef, undef, undef, undef], defers := [] })
    (fun x a' _ X Y row h _ _ => h)
    ?assign ?body ?done ?stop
  case assign =>
    rintro l pre x W K hI hK
    gi_wp2
    exact hK _ _ (KeepsFrom.refl _ _) ⟨Nat.le_refl _, fun _ _ => rfl⟩ hI rfl
  case body =>
    rintro l pre x a' W hl ⟨r, hr⟩ ⟨g1, g2, g3⟩ rfl hlt
    have z0 := g1.kk.cell 0
    have z1 := g1.km.cell 0
    have fz := g1.kk.frozen 0
    simp only [List.getElem?_cons_zero] at z0 z1
    by_cases hq : (pre.length : Int) = most
    · have hqb : ((pre.length : Int) == most) = true := by simpa using hq
      have hG : NoF C w W p O f w3.heap.size s most most := by rw [← hq] at g1 ⊢; exact g1
      have HG := hide hG
      have HQ := hide hq
      clear hq hG g1
      gi_wp2
      exact ⟨KeepsFrom.refl _ _, rfl, HG.out, by have := HQ.out; simp; omega⟩
    · have hqb : ((pre.length : Int) == most) = false := by simpa using hq
      have hG := g1.count HE.out ((pre.length : Int) + 1)
      have hgk := g1.gk2
      have hKF : KeepsFrom W4.heap.size W (W.setCell ⟨w3.heap.size, 0, none⟩ (.int .i64 ((pre.length : Int) + 1))) := KeepsFrom.of_grownBy (grew_set W w3.heap.size 0 _) (fun j e => by cases e; omega)
      have hKO : KeepO U W (W.setCell ⟨w3.heap.size, 0, none⟩ (.int .i64 ((pre.length : Int) + 1))) := ⟨by simp, fun i hi => heap_setCell_other W ⟨w3.heap.size, 0, none⟩ i _ (fun e => by
        have e' : i = w3.heap.size := e
        subst e'
        rcases (HU.out _ hi).1 with q | q
        · exact g1.nk q
        · rw [World.size_alloc] at q; omega)⟩
      have HG := hide hG
      have HKF := hide hKF
      have HKO := hide hKO
      have hle : (pre.length : Int) + 1 ≤ most := by omega
      clear hq hG hKF hKO g1
      gi_wp2
      exact ⟨HKF.out, HKO.out, by simpa using HG.out, by simpa using hle, by simp; omega⟩
  case done =>
    rintro D ys W hD rfl ⟨g1, g2, g3⟩ hK
    have hwD : w.heap.size ≤ D := by have := HN3.out.gk2; omega
    have N0 : NoD C w W p O f w3.heap.size s most (f.rows.length : Int) D := ⟨g1, hK, fun q => by have := HOW.out _ q; omega⟩
    have HN := hide N0
    clear N0 g1 hK
    by_cases hlm : (f.rows.length : Int) < most
    · have h9 : Fence.wide.fn 9 := trivial
      have h11 : Fence.wide.fn 11 := trivial
      have h13 : Fence.wide.fn 13 := trivial
      have h15 : Fence.wide.fn 15 := trivial
      have h17 : Fence.wide.fn 17 := trivial
      have h21 : Fence.wide.fn 21 := trivial
      have h22 : Fence.wide.fn 22 := trivial
      have h23 : Fence.wide.fn 23 := trivial
      gi_wp2_with fail
      refine (callsIn_wide.2 (HZ.out.take W)).mono ?_
      rintro e w5 ⟨rfl, b5⟩
      have N5 := HN.out.below HE.out b5
      obtain ⟨c0, c1, c2, c3⟩ := N5.cells
      have HN5 := hide N5
      clear b5 N5
      have BAr := (Below.refl w5.drew.heap.size w5.drew).alloc (Nat.le_refl _) (.cells #[.slice none 0 0] 37)
      have Tr := (HN5.out.drew HE.out).below HE.out BAr
      have HRW := hide (rows_any (w := w5.drew) (HN5.out.drew HE.out).n.hi (HE.out.spans Tr.n.c (fun i hi => Tr.n.hi i hi)) hrl)
      clear BAr Tr
      gi_wp2
      refine wpIn_wide.2 ?_
      go_region_held3 (fun W' => W'.cell? ⟨w.heap.size, 0, none⟩ = some (.int .i64 s.a) ∧ W'.cell? ⟨w.heap.size, 1, none⟩ = some (.int .i64 s.k) ∧ W'.cell? ⟨w.heap.size + 1, 0, none⟩ = some (.int .i64 most) ∧ W'.cell? ⟨w3.heap.size, 0, none⟩ = some (.int .i64 (f.rows.length : Int))) (go_keep) (first
        | (go_at_call 17; refine (HZ.out.copy w12).mono ?_; rintro e w13 ⟨rfl, b⟩; have T := HN12.out.below HE.out b; obtain ⟨c0, c1, c2, c3⟩ := T.cells; have HN13 := hide T; clear b T)
        | (go_at_call 21; refine (rows_any (w := w11) (O := fun _ => False) (fun _ q => q.elim) (HZ.out.spans _) (by simp)).mono ?_; rintro e w12 ⟨v12, rfl, r12, b⟩; obtain ⟨a12, k12, hv12⟩ := own_len2 r12; subst hv12; have T := HN11.out.below HE.out b; obtain ⟨c0, c1, c2, c3⟩ := T.cells; have HN12 := hide T; clear b T r12)
        | (go_at_call 23; refine (HZ.out.largest w10).mono ?_; rintro e w11 ⟨rfl, b⟩; have T := HN10.out.below HE.out b; obtain ⟨c0, c1, c2, c3⟩ := T.cells; have HN11 := hide T; clear b T)
        | (go_at_call 22; refine (HZ.out.count w9).mono ?_; rintro e w10 ⟨rfl, b⟩; have T := HN9.out.below HE.out b; obtain ⟨c0, c1, c2, c3⟩ := T.cells; have HN10 := hide T; clear b T)
        | (go_at_call 15; refine (HZ.out.has w8 s HS.out).mono ?_; rintro e w9 ⟨rfl, b⟩; have T := HN8.out.below HE.out b; obtain ⟨c0, c1, c2, c3⟩ := T.cells; have HN9 := hide T; clear b T)
        | (go_at_call 13; refine (HZ.out.give w7 s HS.out).mono ?_; rintro e w8 ⟨rfl, b⟩; have T := HN7.out.below HE.out b; obtain ⟨c0, c1, c2, c3⟩ := T.cells; have HN8 := hide T; clear b T)
        | (go_at_call 11; refine (HZ.out.claim w6 s HS.out).mono ?_; rintro e w7 ⟨rfl, b⟩; have T := HN6.out.below HE.out b; obtain ⟨c0, c1, c2, c3⟩ := T.cells; have HN7 := hide T; clear b T)
        | (go_at_call 21; refine HRW.out.mono ?_; rintro e w6 ⟨v6, rfl, r6, b⟩; obtain ⟨a6, k6, hv6⟩ := own_len2 r6; subst hv6; have T := (HN5.out.drew HE.out).below HE.out b; obtain ⟨c0, c1, c2, c3⟩ := T.cells; have HN6 := hide T; clear b T r6))
      all_goals (
        gi_wp2
        refine ⟨by simp, .inl ⟨_, _, rfl, run_takeDeferred HN13.out.d, ?_⟩⟩
        refine ⟨_, results_tmp rfl _ _ _, rfl, ?_⟩
        exact HN13.out.n.bel.trans (belowK_b (w := w) (Nat.le_refl _) _ D _ _ (by omega) HN13.out.d rfl rfl))
    · obtain rfl : most = (f.rows.length : Int) := by omega
      clear hlm
      have h9 : Fence.wide.fn 9 := trivial
      have h11 : Fence.wide.fn 11 := trivial
      have h13 : Fence.wide.fn 13 := trivial
      have h15 : Fence.wide.fn 15 := trivial
      have h17 : Fence.wide.fn 17 := trivial
      have h21 : Fence.wide.fn 21 := trivial
      have h22 : Fence.wide.fn 22 := trivial
      have h23 : Fence.wide.fn 23 := trivial
      gi_wp2_with fail
      refine (callsIn_wide.2 (HZ.out.take W)).mono ?_
      rintro e w5 ⟨rfl, b5⟩
      have N5 := HN.out.below HE.out b5
      obtain ⟨c0, c1, c2, c3⟩ := N5.cells
      have HN5 := hide N5
      clear b5 N5
      have BAr := (Below.refl w5.drew.heap.size w5.drew).alloc (Nat.le_refl _) (.cells #[.slice none 0 0] 37)
      have Tr := (HN5.out.drew HE.out).below HE.out BAr
      have HRW := hide (rows_any (w := w5.drew) (HN5.out.drew HE.out).n.hi (HE.out.spans Tr.n.c (fun i hi => Tr.n.hi i hi)) hrl)
      clear BAr Tr
      gi_wp2
      refine wpIn_wide.2 ?_
      go_region_held3 (fun W' => W'.cell? ⟨w.heap.size, 0, none⟩ = some (.int .i64 s.a) ∧ W'.cell? ⟨w.heap.size, 1, none⟩ = some (.int .i64 s.k) ∧ W'.cell? ⟨w.heap.size + 1, 0, none⟩ = some (.int .i64 (f.rows.length : Int)) ∧ W'.cell? ⟨w3.heap.size, 0, none⟩ = some (.int .i64 (f.rows.length : Int))) (go_keep) (first
        | (go_at_call 17; refine (HZ.out.copy w12).mono ?_; rintro e w13 ⟨rfl, b⟩; have T := HN12.out.below HE.out b; obtain ⟨c0, c1, c2, c3⟩ := T.cells; have HN13 := hide T; clear b T)
        | (go_at_call 21; refine (rows_any (w := w11) (O := fun _ => False) (fun _ q => q.elim) (HZ.out.spans _) (by simp)).mono ?_; rintro e w12 ⟨v12, rfl, r12, b⟩; obtain ⟨a12, k12, hv12⟩ := own_len2 r12; subst hv12; have T := HN11.out.below HE.out b; obtain ⟨c0, c1, c2, c3⟩ := T.cells; have HN12 := hide T; clear b T r12)
        | (go_at_call 23; refine (HZ.out.largest w10).mono ?_; rintro e w11 ⟨rfl, b⟩; have T := HN10.out.below HE.out b; obtain ⟨c0, c1, c2, c3⟩ := T.cells; have HN11 := hide T; clear b T)
        | (go_at_call 22; refine (HZ.out.count w9).mono ?_; rintro e w10 ⟨rfl, b⟩; have T := HN9.out.below HE.out b; obtain ⟨c0, c1, c2, c3⟩ := T.cells; have HN10 := hide T; clear b T)
        | (go_at_call 15; refine (HZ.out.has w8 s HS.out).mono ?_; rintro e w9 ⟨rfl, b⟩; have T := HN8.out.below HE.out b; obtain ⟨c0, c1, c2, c3⟩ := T.cells; have HN9 := hide T; clear b T)
        | (go_at_call 13; refine (HZ.out.give w7 s HS.out).mono ?_; rintro e w8 ⟨rfl, b⟩; have T := HN7.out.below HE.out b; obtain ⟨c0, c1, c2, c3⟩ := T.cells; have HN8 := hide T; clear b T)
        | (go_at_call 11; refine (HZ.out.claim w6 s HS.out).mono ?_; rintro e w7 ⟨rfl, b⟩; have T := HN6.out.below HE.out b; obtain ⟨c0, c1, c2, c3⟩ := T.cells; have HN7 := hide T; clear b T)
        | (go_at_call 21; refine HRW.out.mono ?_; rintro e w6 ⟨v6, rfl, r6, b⟩; obtain ⟨a6, k6, hv6⟩ := own_len2 r6; subst hv6; have T := (HN5.out.drew HE.out).below HE.out b; obtain ⟨c0, c1, c2, c3⟩ := T.cells; have HN6 := hide T; clear b T r6))
      all_goals (
        gi_wp2
        refine ⟨by simp, .inl ⟨_, _, rfl, run_takeDeferred HN13.out.d, ?_⟩⟩
        refine ⟨_, results_tmp rfl _ _ _, rfl, ?_⟩
        exact HN13.out.n.bel.trans (belowK_b (w := w) (Nat.le_refl _) _ D _ _ (by omega) HN13.out.d rfl rfl))
  case stop =>
    rintro D c pre W hD ⟨k, hk, rfl⟩ ⟨rfl, g1, g2⟩ hK
    have hwD : w.heap.size ≤ D := by have := HN3.out.gk2; omega
    have hlm : ¬ (f.rows.length : Int) < most := by simp at g2; omega
    have hif : (if (f.rows.length : Int) < most then (f.rows.length : Int) else most) = most := if_neg hlm
    have N0 : NoD C w W p O f w3.heap.size s most most D := ⟨g1, hK, fun q => by have := HOW.out _ q; omega⟩
    have HN := hide N0
    clear N0 g1 hK g2
    have h9 : Fence.wide.fn 9 := trivial
    have h11 : Fence.wide.fn 11 := trivial
    have h13 : Fence.wide.fn 13 := trivial
    have h15 : Fence.wide.fn 15 := trivial
    have h17 : Fence.wide.fn 17 := trivial
    have h21 : Fence.wide.fn 21 := trivial
    have h22 : Fence.wide.fn 22 := trivial
    have h23 : Fence.wide.fn 23 := trivial
    gi_wp2_with fail
    refine (callsIn_wide.2 (HZ.out.take W)).mono ?_
    rintro e w5 ⟨rfl, b5⟩
    have N5 := HN.out.below HE.out b5
    obtain ⟨c0, c1, c2, c3⟩ := N5.cells
    have HN5 := hide N5
    clear b5 N5
    have BAr := (Below.refl w5.drew.heap.size w5.drew).alloc (Nat.le_refl _) (.cells #[.slice none 0 0] 37)
    have Tr := (HN5.out.drew HE.out).below HE.out BAr
    have HRW := hide (rows_any (w := w5.drew) (HN5.out.drew HE.out).n.hi (HE.out.spans Tr.n.c (fun i hi => Tr.n.hi i hi)) hrl)
    clear BAr Tr
    gi_wp2
    refine wpIn_wide.2 ?_
    go_region_held3 (fun W' => W'.cell? ⟨w.heap.size, 0, none⟩ = some (.int .i64 s.a) ∧ W'.cell? ⟨w.heap.size, 1, none⟩ = some (.int .i64 s.k) ∧ W'.cell? ⟨w.heap.size + 1, 0, none⟩ = some (.int .i64 most) ∧ W'.cell? ⟨w3.heap.size, 0, none⟩ = some (.int .i64 most)) (go_keep) (first
      | (go_at_call 17; refine (HZ.out.copy w12).mono ?_; rintro e w13 ⟨rfl, b⟩; have T := HN12.out.below HE.out b; obtain ⟨c0, c1, c2, c3⟩ := T.cells; have HN13 := hide T; clear b T)
      | (go_at_call 21; refine (rows_any (w := w11) (O := fun _ => False) (fun _ q => q.elim) (HZ.out.spans _) (by simp)).mono ?_; rintro e w12 ⟨v12, rfl, r12, b⟩; obtain ⟨a12, k12, hv12⟩ := own_len2 r12; subst hv12; have T := HN11.out.below HE.out b; obtain ⟨c0, c1, c2, c3⟩ := T.cells; have HN12 := hide T; clear b T r12)
      | (go_at_call 23; refine (HZ.out.largest w10).mono ?_; rintro e w11 ⟨rfl, b⟩; have T := HN10.out.below HE.out b; obtain ⟨c0, c1, c2, c3⟩ := T.cells; have HN11 := hide T; clear b T)
      | (go_at_call 22; refine (HZ.out.count w9).mono ?_; rintro e w10 ⟨rfl, b⟩; have T := HN9.out.below HE.out b; obtain ⟨c0, c1, c2, c3⟩ := T.cells; have HN10 := hide T; clear b T)
      | (go_at_call 15; refine (HZ.out.has w8 s HS.out).mono ?_; rintro e w9 ⟨rfl, b⟩; have T := HN8.out.below HE.out b; obtain ⟨c0, c1, c2, c3⟩ := T.cells; have HN9 := hide T; clear b T)
      | (go_at_call 13; refine (HZ.out.give w7 s HS.out).mono ?_; rintro e w8 ⟨rfl, b⟩; have T := HN7.out.below HE.out b; obtain ⟨c0, c1, c2, c3⟩ := T.cells; have HN8 := hide T; clear b T)
      | (go_at_call 11; refine (HZ.out.claim w6 s HS.out).mono ?_; rintro e w7 ⟨rfl, b⟩; have T := HN6.out.below HE.out b; obtain ⟨c0, c1, c2, c3⟩ := T.cells; have HN7 := hide T; clear b T)
      | (go_at_call 21; refine HRW.out.mono ?_; rintro e w6 ⟨v6, rfl, r6, b⟩; obtain ⟨a6, k6, hv6⟩ := own_len2 r6; subst hv6; have T := (HN5.out.drew HE.out).below HE.out b; obtain ⟨c0, c1, c2, c3⟩ := T.cells; have HN6 := hide T; clear b T r6))
    all_goals (
      gi_wp2
      refine ⟨by simp, .inl ⟨_, _, rfl, run_takeDeferred HN13.out.d, ?_⟩⟩
      refine ⟨_, results_tmp rfl _ _ _, rfl, ?_⟩
      exact HN13.out.n.bel.trans (belowK_b (w := w) (Nat.le_refl _) _ D _ _ (by omega) HN13.out.d rfl rfl))

theorem xnone_any {C : Cfr} (E : ExtDo C) (Z : ExtNil) (m n : Int) (hm1 : m ≤ 9223372036854775807) (s : Spn) (hs : Spn.Ok s) (most : Int) (hmost : most ≤ 9223372036854775807) (w : World) :
    Calls Try.prog 5 #[.int .i64 m, .int .i64 n, .agg #[.int .i64 s.a, .int .i64 s.k], .int .i64 most] w fun e w' => e = .returned (.bool true) ∧ Below w.heap.size w w' := callsIn_wide.1 (xnone_in E Z m n hm1 s hs most hmost w)
end Go.Proofs.Ytlomnpeelpmhiaa
