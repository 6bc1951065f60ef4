/- TreeRanges' walk, over the translation. -/
import Derived.Test.YtlghehidhgiilaaGreatQM40
namespace Go.Proofs.YtlghehidhgiilaaGreat
open Go.RowKit Go.Shelf Apo
attribute [local go_sem] Oper.semAt_some
attribute [local go_sem ↓] app_sem
theorem rd_litE (W : World) (x : En) : RdEn (W.alloc (.cells #[.string x.k, .string x.v] 66)) (some ⟨W.heap.size, 0, none⟩) [x] := by
  intro i e h
  have hi : i = 0 := by have := (List.getElem?_eq_some_iff.1 h).1; simp at this; omega
  subst hi
  simp only [List.getElem?_cons_zero, Option.some.injEq] at h
  subst h
  exact ⟨_, _, rfl, by simp, by simp⟩
/-- what the law keeps while it is told the entries of a range: got's box, got's row -/
structure GtJ (d : Nat) (r : Loop) (bx mb : Nat) (L : List En) (m : Nat) (k : Nat) (U : Nat → Prop) (A : World) : Prop where
  lp : LpAt d r A
  km : k ≤ m
  kl : k ≤ L.length
  got : ∃ v, Ob A bx 22 [v] ∧ Row (fun g => d + 2 ≤ g) A 66 2 v (L.take k).length (ecells (L.take k)) ∧ ∀ i, U i ↔ i = bx ∨ v.ownBlock = some i
  mb : Ob A mb 3 [.int .i64 (m : Int)]
def GtX (d : Nat) (rd : Code → Loop) (bx : Nat) (L : List En) (m : Nat) (_ : Nat) (U : Nat → Prop) (A : World) : Prop := LpAt d (rd (.exit 2)) A ∧ m ≤ L.length ∧ ∃ v, Ob A bx 22 [v] ∧ Row (fun g => d + 2 ≤ g) A 66 2 v (L.take m).length (ecells (L.take m)) ∧ ∀ i, U i ↔ i = bx ∨ v.ownBlock = some i
def GtR (V : Nat → Prop) (Q : (Nat → Prop) → World → Prop) (U : Nat → Prop) (A A' : World) : Prop := ∃ U', Q U' A' ∧ Onl V A A' ∧ ∀ i, U' i → U i ∨ A.heap.size ≤ i
theorem ob_loop {A : World} {g l : Nat} {t : TypeId} {cs : List Value} {o : Obj} (kk : Ob A g t cs) (hA : A.heap[l]? = some o) (hc : o.isCells = false) : ¬ (g = l) := fun q => by
  have : A.heap[g]? = _ := kk
  rw [q, hA] at this
  cases this
  cases hc
theorem GtJ.put {d : Nat} {r : Loop} {bx mb : Nat} {L : List En} {m k : Nat} {U : Nat → Prop} {A : World} {l : Nat} {o o' : Obj} (h : GtJ d r bx mb L m k U A) (hl : d + 2 ≤ l) (hA : A.heap[l]? = some o) (hc : o.isCells = false) : GtJ d r bx mb L m k U (A.putObj l o') := by
  have o2 : Onl (fun i => i = l) A (A.putObj l o') := put_onl _
  obtain ⟨v, q1, q2, q3⟩ := h.got
  refine ⟨h.lp.onl o2 (by omega) (by omega), h.km, h.kl, ⟨v, q1.onl o2 (ob_loop q1 hA hc), q2.onl o2 (fun g hg z => Row.noLoop q2 hA hc (by rw [← z]; exact hg)), q3⟩, h.mb.onl o2 (ob_loop h.mb hA hc)⟩
theorem GtX.put {d : Nat} {rd : Code → Loop} {bx : Nat} {L : List En} {m k : Nat} {U : Nat → Prop} {A : World} {l : Nat} {o o' : Obj} (h : GtX d rd bx L m k U A) (hl : d + 2 ≤ l) (hA : A.heap[l]? = some o) (hc : o.isCells = false) : GtX d rd bx L m k U (A.putObj l o') := by
  have o2 : Onl (fun i => i = l) A (A.putObj l o') := put_onl _
  obtain ⟨h1, h2, v, q1, q2, q3⟩ := h
  exact ⟨h1.onl o2 (by omega) (by omega), h2, v, q1.onl o2 (ob_loop q1 hA hc), q2.onl o2 (fun g hg z => Row.noLoop q2 hA hc (by rw [← z]; exact hg)), q3⟩
/-- a round that leaves -/
theorem gt_leave {d : Nat} {r rb : Loop} {rd : Code → Loop} {bx mb : Nat} {L : List En} {m : Nat} {U : Nat → Prop} {A A2 : World} (hj : GtJ d r bx mb L m m U A) (hA2 : A2 = A.putObj (d + 1) (.loop rb)) (a3 : Act) : TwoP d r rb rd (GtR U (GtJ d r bx mb L m (m + 1)) U A) (GtR (fun i => U i ∨ i = d + 1) (GtX d rd bx L m (m + 1)) U A) (.exit 2) a3 A2 := by
  obtain ⟨v, q1, q2, q3⟩ := hj.got
  have hlt := (Array.getElem?_eq_some_iff.1 hj.lp.1).1
  have e1 : A2.heap[d + 1]? = some (.loop rb) := by rw [hA2]; exact World.putObj_heap_same hlt
  have o1 : Onl (fun i => i = d + 1) A A2 := by rw [hA2]; exact put_onl _
  have o2 : Onl (fun i => i = d + 1) A2 (A2.putObj (d + 1) (.loop (rd (.exit 2)))) := put_onl _
  have o12 := o1.trans o2
  refine .inr ⟨.exit 2, rfl, e1, U, ⟨⟨World.putObj_heap_same (Array.getElem?_eq_some_iff.1 e1).1, ?_⟩, hj.kl, v, ?_, ?_, q3⟩, o12.mono (fun i q => .inr q), fun i q => .inl q⟩
  · exact (o12.block d (Array.getElem?_eq_some_iff.1 hj.lp.2).1 (by omega)).trans hj.lp.2
  · exact q1.onl o12 (fun q => ob_loop q1 hj.lp.1 rfl q)
  · exact q2.onl o12 (fun g hg z => Row.noLoop q2 hj.lp.1 rfl (by rw [← z]; exact hg))
/-- a round that goes on -/
theorem gt_more {d : Nat} {r rb : Loop} {rd : Code → Loop} {bx mb : Nat} {L : List En} {m k : Nat} {U : Nat → Prop} {A A2 A3 : World} {v v8 : Value} (hj : GtJ d r bx mb L m k U A) (hA2 : A2 = A.putObj (d + 1) (.loop rb)) (hkm : k < m) (hkl : k < L.length) (hU : ∀ i, U i ↔ i = bx ∨ v.ownBlock = some i) (hlo : ∀ i, U i → ¬ (i = d) ∧ ¬ (i = d + 1)) (k3 : Ob A3 bx 22 [v8]) (r3 : Row (fun g => d + 2 ≤ g) A3 66 2 v8 (L.take (k + 1)).length (ecells (L.take (k + 1)))) (m3 : Ob A3 mb 3 [.int .i64 (m : Int)]) (o3 : Onl U A2 A3) (hv8 : ∀ i, v8.ownBlock = some i → v.ownBlock = some i ∨ A.heap.size ≤ i) (a3 : Act) :
    TwoP d r rb rd (GtR U (GtJ d r bx mb L m (k + 1)) U A) (GtR (fun i => U i ∨ i = d + 1) (GtX d rd bx L m (k + 1)) U A) .normal a3 A3 := by
  have hlt := (Array.getElem?_eq_some_iff.1 hj.lp.1).1
  have e1 : A2.heap[d + 1]? = some (.loop rb) := by rw [hA2]; exact World.putObj_heap_same hlt
  have o1 : Onl (fun i => i = d + 1) A A2 := by rw [hA2]; exact put_onl _
  have hd2 : A2.heap[d]? = some (.deferred (some [])) := (o1.block d (Array.getElem?_eq_some_iff.1 hj.lp.2).1 (by omega)).trans hj.lp.2
  have e3 : A3.heap[d + 1]? = some (.loop rb) := (o3.block _ (Array.getElem?_eq_some_iff.1 e1).1 (fun q => (hlo _ q).2 rfl)).trans e1
  have f3 : A3.heap[d]? = some (.deferred (some [])) := (o3.block _ (Array.getElem?_eq_some_iff.1 hd2).1 (fun q => (hlo _ q).1 rfl)).trans hd2
  have o4 : Onl (fun i => i = d + 1) A3 (A3.putObj (d + 1) (.loop r)) := put_onl _
  have e4 : (A3.putObj (d + 1) (.loop r)).heap[d + 1]? = some (.loop r) := World.putObj_heap_same (Array.getElem?_eq_some_iff.1 e3).1
  refine .inl ⟨rfl, e3, (fun i => i = bx ∨ v8.ownBlock = some i), ⟨⟨e4, (o4.block _ (Array.getElem?_eq_some_iff.1 f3).1 (by omega)).trans f3⟩, hkm, hkl, ⟨v8, k3.onl o4 (fun q => ob_loop k3 e3 rfl q), r3.onl o4 (fun g hg z => Row.noLoop r3 e3 rfl (by rw [← z]; exact hg)), fun i => Iff.rfl⟩, m3.onl o4 (fun q => ob_loop m3 e3 rfl q)⟩, ?_, fun i q => ?_⟩
  · exact onl_back (((o1.mono (fun i q => .inr q)).trans (o3.mono (fun i q => .inl q))).trans (o4.mono (fun i q => .inr q))) (e4.trans hj.lp.1.symm)
  · rcases q with q | q
    · exact .inl ((hU i).2 (.inl q))
    · exact (hv8 i q).imp (fun z => (hU i).2 (.inr z)) (fun z => z)
set_option maxRecDepth 100000 in
theorem fin_rg {w X : World} {tmps : Array Value} {D1 D2 : Nat} (h2 : X.heap[D2]? = some (.deferred (some []))) (h1 : X.heap[D1]? = some (.deferred (some []))) (hne : D1 < D2) (hr : tmps.getD 10 undef = .bool true) (hb : Below w.heap.size w X) (hd1 : w.heap.size ≤ D1) :
    bodyPostM Fence.wide 1 Tryz.prog Tryz.f7 (fun e w' => e = .returned (.bool true) ∧ Below w.heap.size w w') Exit.ret { tmps := tmps, defers := [{ target := .collected D2, args := #[] }, { target := .collected D1, args := #[] }] } X := by
  have o1 : Onl (fun i => i = D2) X (X.putObj D2 (.deferred none)) := put_onl _
  have h1' : (X.putObj D2 (.deferred none)).heap[D1]? = some (.deferred (some [])) := (o1.block _ (Array.getElem?_eq_some_iff.1 h1).1 (by omega)).trans h1
  have o2 : Onl (fun i => i = D1) (X.putObj D2 (.deferred none)) ((X.putObj D2 (.deferred none)).putObj D1 (.deferred none)) := put_onl _
  have b2 := Below.onl (Below.onl hb o1 (fun i q => by omega) (Nat.le_refl _)) o2 (fun i q => by omega) (Nat.le_refl _)
  refine ⟨by simp, .inl ⟨_, _, rfl, run_takeDeferred h2, ?_⟩⟩
  refine ⟨by simp, .inl ⟨_, _, rfl, run_takeDeferred h1', ?_⟩⟩
  exact ⟨_, results_tmp rfl _ _ _, by rw [hr], b2⟩
/-- what the law keeps while it counts -/
structure NcJ (d : Nat) (r : Loop) (nb : Nat) (k : Nat) (U : Nat → Prop) (A : World) : Prop where
  lp : LpAt d r A
  ob : Ob A nb 3 [.int .i64 (k : Int)]
  u : ∀ i, U i ↔ i = nb
theorem NcJ.put {d : Nat} {r : Loop} {nb k : Nat} {U : Nat → Prop} {A : World} {l : Nat} {o o' : Obj} (h : NcJ d r nb k U A) (hl : d + 2 ≤ l) (hA : A.heap[l]? = some o) (hc : o.isCells = false) : NcJ d r nb k U (A.putObj l o') := by
  have o2 : Onl (fun i => i = l) A (A.putObj l o') := put_onl _
  exact ⟨h.lp.onl o2 (by omega) (by omega), h.ob.onl o2 (ob_loop h.ob hA hc), h.u⟩
theorem nc_more {d : Nat} {r rb : Loop} {rd : Code → Loop} {nb k : Nat} {U : Nat → Prop} {A A2 A3 : World} (hj : NcJ d r nb k U A) (hA2 : A2 = A.putObj (d + 1) (.loop rb)) (k3 : Ob A3 nb 3 [.int .i64 ((k + 1 : Nat) : Int)]) (o3 : Onl (fun i => i = nb) A2 A3) (Rx : World → Prop) (a3 : Act) :
    TwoP d r rb rd (GtR U (NcJ d r nb (k + 1)) U A) Rx .normal a3 A3 := by
  have hlt := (Array.getElem?_eq_some_iff.1 hj.lp.1).1
  have e1 : A2.heap[d + 1]? = some (.loop rb) := by rw [hA2]; exact World.putObj_heap_same hlt
  have o1 : Onl (fun i => i = d + 1) A A2 := by rw [hA2]; exact put_onl _
  have hd2 : A2.heap[d]? = some (.deferred (some [])) := (o1.block d (Array.getElem?_eq_some_iff.1 hj.lp.2).1 (by omega)).trans hj.lp.2
  have e3 : A3.heap[d + 1]? = some (.loop rb) := (o3.block _ (Array.getElem?_eq_some_iff.1 e1).1 (fun q => ob_loop hj.ob hj.lp.1 rfl q.symm)).trans e1
  have f3 : A3.heap[d]? = some (.deferred (some [])) := (o3.block _ (Array.getElem?_eq_some_iff.1 hd2).1 (fun q => ob_loop hj.ob hj.lp.2 rfl q.symm)).trans hd2
  have o4 : Onl (fun i => i = d + 1) A3 (A3.putObj (d + 1) (.loop r)) := put_onl _
  have e4 : (A3.putObj (d + 1) (.loop r)).heap[d + 1]? = some (.loop r) := World.putObj_heap_same (Array.getElem?_eq_some_iff.1 e3).1
  refine .inl ⟨rfl, e3, U, ⟨⟨e4, (o4.block _ (Array.getElem?_eq_some_iff.1 f3).1 (by omega)).trans f3⟩, k3.onl o4 (fun q => ob_loop k3 e3 rfl q), hj.u⟩, ?_, fun i q => .inl q⟩
  exact onl_back (((o1.mono (fun i q => .inr q)).trans (o3.mono (fun i q => .inl ((hj.u i).2 q)))).trans (o4.mono (fun i q => .inr q))) (e4.trans hj.lp.1.symm)
open Classical in
set_option maxRecDepth 100000 in
set_option maxHeartbeats 16000000 in
theorem ranges10 (w : World) (x : EsA) (hx : OkEs w x) (lo hi : ByteArray) (hlo : lo.size ≤ 9223372036854775807) (hhi : hi.size ≤ 9223372036854775807) (most : Int) (id : Nat) (hid : id < 18446744073709551616) (hask : RgAsk x.l lo hi most) (hmm : most ≤ 9223372036854775807) :
    Calls Tryz.prog 7 #[.slice x.a x.l.length x.c, .string lo, .string hi, .int .i64 most, .int .u64 id] w fun e w' => e = .returned (.bool true) ∧ Below w.heap.size w w' := by
  obtain ⟨a, c, es⟩ := x
  simp only at hask ⊢
  have hml : maxLen ≤ 9223372036854775807 := by decide
  have hbig := hx.big
  have hlen := hx.len
  simp only at hbig hlen
  have CL : ∀ W, Below w.heap.size w W → Calls Tryz.prog 10 #[.slice a es.length c] W fun e w' => e = .returned (.bool (lightB es)) ∧ Below W.heap.size W w' := fun W b => light_any W a c es (hx.rd.below b) (by omega) hx.sz
  obtain ⟨n, hn⟩ : ∃ n, n = es.length := ⟨_, rfl⟩
  obtain ⟨W0, hW0⟩ : ∃ W0, W0 = w.alloc (.cells #[.int .i64 most] 3) := ⟨_, rfl⟩
  have b0 : Below w.heap.size w W0 := by rw [hW0]; exact (Below.refl _ w).alloc (Nat.le_refl _) _
  have k0 : Ob W0 w.heap.size 3 [.int .i64 most] := by rw [hW0]; exact Ob.new w [.int .i64 most] 3
  have HN := hide hn
  have HX := hide hx
  have HCL := hide CL
  have HAW := hide (tawake_any W0)
  obtain ⟨hli, hl60, hh60, hm0, hri⟩ := hask
  have HB0 := hide b0
  have HK0 := hide k0
  rw [← hn] at HCL hlen ⊢
  rw [hli] at HCL
  clear CL hx hn b0 k0
  refine (callsIn_wide (n := 1)).1 ?_
  refine callsIn_of_wp_marks Tryz.func7 rfl trivial ?_ rfl
  simp only [Tryz.ntmps7, List.size_toArray, List.length_cons, List.length_nil, Nat.reduceAdd, Nat.reduceSub, Array.replicate_succ, Array.replicate_zero, List.push_toArray, List.append_toArray, List.nil_append, List.cons_append]
  gi_wp2_with fail
  rw [← hW0]
  clear hW0
  refine ⟨trivial, (callsIn_wide.2 HAW.out).mono ?_⟩
  rintro e w1 ⟨rfl, b1⟩
  have B1 := HB0.out.trans (b1.mono HB0.out.size)
  have k1 := (HK0.out.old b1)
  have HC2 := hide (HCL.out w1 B1)
  have HB1 := hide B1
  have HK1 := hide k1
  clear b1 B1 k1
  gi_wp2_with fail
  refine ⟨trivial, (callsIn_wide.2 HC2.out).mono ?_⟩
  rintro e w2 ⟨rfl, b2⟩
  have B2 := HB1.out.trans (b2.mono HB1.out.size)
  have k2 := HK1.out.old b2
  have c2 := k2.cell 0
  simp only [List.getElem?_cons_zero] at c2
  have HB2 := hide B2
  have HK2 := hide k2
  have hn60 : n ≤ 60 := by
    have h2 := hli
    unfold lightB at h2
    simp only [Bool.and_eq_true, decide_eq_true_eq] at h2
    have := HN.out
    omega
  have hd1 : decide ((60 : Int) < (lo.size : Int)) = false := decide_eq_false (by omega)
  have hd2 : decide ((60 : Int) < (hi.size : Int)) = false := decide_eq_false (by omega)
  have hd3 : decide (most < 0) = false := decide_eq_false (by omega)
  have CR := rright_any w2 a c es (HX.out.rd.below B2) (by have := HN.out; omega) HX.out.sz
  unfold RrP at CR
  rw [← HN.out, hri] at CR
  have HCR := hide CR
  have HRI := hide hri
  clear b2 B2 k2 HC2 HK1 CR hri hli HCL
  gi_wp2_with fail
  refine ⟨trivial, (callsIn_wide.2 HCR.out).mono ?_⟩
  rintro e w3 ⟨rfl, b3⟩
  have B3 := HB2.out.trans (b3.mono HB2.out.size)
  have k3 := HK2.out.old b3
  have HB3 := hide B3
  have HK3 := hide k3
  clear b3 B3 k3 c2 HCR
  gi_wp2_with fail
  refine ⟨trivial, (callsIn_wide.2 (tstore_any w3)).mono ?_⟩
  rintro e w4 ⟨s, O4, rfl, t4⟩
  have B4 : Below w.heap.size w w4 := HB3.out.trans (t4.bel.mono HB3.out.size)
  have k4 := HK3.out.old t4.bel
  have rd4 := HX.out.rd.below B4
  simp only at rd4
  have C5 := tBuild_any t4 a c es rd4 HX.out.nil (by have := HN.out; omega) HX.out.sz (by have := HN.out; omega) (by have := HN.out; simp; omega)
  rw [← HN.out] at C5
  have HC5 := hide C5
  have HB4 := hide B4
  have HK4 := hide k4
  have HLO := hide t4.lo
  have hs2 := HB3.out.size
  have hs3 := t4.bel.size
  clear C5 t4 B4 rd4 k4
  gi_wp2_with fail
  refine ⟨trivial, (callsIn_wide.2 HC5.out).mono ?_⟩
  rintro e w5 hb5
  obtain ⟨rt, O5, T5, rfl, p1, p2, p2', p3, p4, p5, p6⟩ := hb5.good HRI.out
  have hok := rightE_map HRI.out
  have B5 : Below w.heap.size w w5 := Below.onl HB4.out p6 (fun i q => by have := HLO.out i q; omega) (Nat.le_refl _)
  have k5 := HK4.out.onl p6 (fun q => by have := HLO.out _ q; have := HK3.out.lt; omega)
  have hT5 : T5.length ≤ 10000 := by have := HN.out; simp only [List.length_nil] at p3; omega
  obtain ⟨ls, q1, q2, q3, q4⟩ := p1.tree hok (by have := HN.out; omega) (by omega)
  have HP5 := hide p4
  have HTX := hide (p2' (fun t ht => by simp at ht))
  have HQ := hide (And.intro q1 (And.intro q2 q3))
  have HT5 := hide hT5
  have HB5 := hide B5
  have HK5 := hide k5
  have c5 := k5.cell 0
  simp only [List.getElem?_cons_zero] at c5
  clear p1 p2 p2' p3 p4 p5 p6 q1 q2 q3 q4 hok hT5 B5 k5 HC5
  obtain ⟨w6, hw6⟩ : ∃ w6, w6 = w5.alloc (.cells #[.slice none 0 0] 22) := ⟨_, rfl⟩
  have b6 : Below w5.heap.size w5 w6 := by rw [hw6]; exact (Below.refl _ w5).alloc (Nat.le_refl _) _
  have s6 : w6.heap.size = w5.heap.size + 1 := by rw [hw6]; simp
  have kg6 : Ob w6 w5.heap.size 22 [.slice none 0 0] := by rw [hw6]; exact Ob.new w5 [.slice none 0 0] 22
  have B6 := HB5.out.trans (b6.mono HB5.out.size)
  obtain ⟨m, hm⟩ : ∃ m : Nat, most = (m : Int) := ⟨most.toNat, by omega⟩
  subst hm
  have HK6 := hide (And.intro kg6 (HK5.out.old b6))
  have HB6 := hide B6
  have HB56 := hide b6
  have HRD := hide (HX.out.rd.below B6)
  have HS6 := hide s6
  clear b6 s6 kg6 B6 hd3
  gi_wp2
  rw [← hw6]
  clear hw6 c5
  gi_loopw [14, 63] (fun v i wr => ∃ (k : Nat) (va : Option Addr) (vc nk : Nat), k ≤ n ∧ i = .int .i64 k ∧ v = .slice va nk vc ∧ Hid (nk = (wantK lo hi es m k).length) ∧ Hid (Row (fun g => w6.heap.size ≤ g) wr 66 2 (.slice va nk vc) (wantK lo hi es m k).length (ecells (wantK lo hi es m k))) ∧ Hid (Below w6.heap.size w6 wr)) (fun _ i _ => n - (intOf i).toNat)
  case atStart => exact ⟨0, none, 0, 0, Nat.zero_le _, rfl, rfl, hide (by rw [wantK_zero]; rfl), hide (by rw [wantK_zero]; exact Row.nil _ _ _ _), hide (Below.refl _ _)⟩
  case round =>
    obtain ⟨k, va, vc, nk, hk, rfl, rfl, HNK, HRr, HBr⟩ := hrel
    by_cases hlt : k < n
    · obtain ⟨x, hx⟩ : ∃ x, es[k]? = some x := ⟨es[k]'(by have := HN.out; omega), List.getElem?_eq_getElem _⟩
      obtain ⟨g, of, hag, q1, q2⟩ := (HRD.out.below HBr.out) k x hx
      subst hag
      have HX1 := hide hx
      have HW1 := hide trivial
      have HBX : Hid (Below wr.heap.size wr (wr.alloc (.cells #[.string x.k, .string x.v] 66))) := hide ((Below.refl _ wr).alloc (Nat.le_refl _) _)
      have c8 := ((HK6.out.2.old HBr.out).cell 0)
      have hl8 := (HK6.out.2.old HBr.out).lt
      simp only [List.getElem?_cons_zero] at c8
      have hgw : g < wr.heap.size := World.block_lt_of_cell? _ _ q1
      clear hx
      cases hb1 : sLt x.k lo
      · have hbl : Op.bytesLess x.k.toList lo.toList = false := hb1
        by_cases he : hi = ByteArray.empty
        · have hin : inR lo hi x = true := by simp [inR, hb1, he]
          have hee : hi = ⟨#[]⟩ := he
          clear he hb1
          by_cases hf : nk < m
          · have hd4 : decide ((nk : Int) < (m : Int)) = true := decide_eq_true (by omega)
            have HW2 := hide (wantK_in HX1.out hin (by rw [← HNK.out]; exact hf))
            have r1 := HRr.out.onl (F := fun _ => False) (Onl.ofBelow HBX.out) (fun _ _ q => q)
            have bL : Below (wr.alloc (.cells #[.string x.k, .string x.v] 66)).heap.size (wr.alloc (.cells #[.string x.k, .string x.v] 66)) ((wr.alloc (.cells #[.string x.k, .string x.v] 66)).alloc (.cells #[.string x.k, .string x.v] 66)) := (Below.refl _ _).alloc (Nat.le_refl _) _
            have r2 := r1.onl (F := fun _ => False) (Onl.ofBelow bL) (fun _ _ q => q)
            obtain ⟨v8, w8, RR, r8, o8, ow8⟩ := app_Es (es := [x]) (c := 1) (y := ⟨(wr.alloc (.cells #[.string x.k, .string x.v] 66)).heap.size, 0, none⟩) r2 (by have := (wantK_len lo hi es m k).2; have := HN.out; simp; omega) (rd_litE _ x)
            rw [← HW2.out] at r8
            obtain ⟨va8, vc8, hva8, _⟩ := r8.form
            obtain ⟨n8, hn8⟩ : ∃ n8, n8 = (wantK lo hi es m (k + 1)).length := ⟨_, rfl⟩
            rw [← hn8] at hva8
            rw [hva8] at r8 RR ow8
            rw [show [x].length = 1 from rfl, World.size_alloc] at RR
            have B8 : Below w6.heap.size w6 w8 := Below.onl ((HBr.out.trans (HBX.out.mono HBr.out.size)).trans (bL.mono (by have := HBr.out.size; simp; omega))) o8 (fun i q => HRr.out.2 i q) (Nat.le_refl _)
            have HFIN := hide (And.intro hn8 (And.intro (show Row (fun g => w6.heap.size ≤ g) w8 66 2 (.slice va8 n8 vc8) (wantK lo hi es m (k + 1)).length (ecells (wantK lo hi es m (k + 1))) from ⟨r8.1, fun g hg => (r8.2 g hg).elim (fun z => z) (fun z => by have := HBr.out.size; simp at z; omega)⟩) B8))
            obtain ⟨x1, x2, x3⟩ := app_runs RR
            clear HW1 r1 bL r2 r8 o8 ow8 hva8 hn8 B8 RR
            gi_wp2
            go_roundw
            case rel => exact ⟨k + 1, va8, vc8, n8, by omega, by simp, rfl, hide HFIN.out.1, hide HFIN.out.2.1, hide HFIN.out.2.2⟩
            case measure => simp [intOf]; omega
          · have hd4 : decide ((nk : Int) < (m : Int)) = false := decide_eq_false (by omega)
            have HW2 := hide (wantK_full HX1.out (by rw [← HNK.out]; exact hf))
            clear HW1
            gi_wp2
            go_roundw
            case rel => exact ⟨k + 1, va, vc, nk, by omega, by simp, rfl, hide (by rw [HW2.out]; exact HNK.out), hide (by rw [HW2.out]; exact HRr.out.onl (F := fun _ => False) (Onl.ofBelow HBX.out) (fun _ _ q => q)), hide (HBr.out.trans (HBX.out.mono HBr.out.size))⟩
            case measure => simp [intOf]; omega
        · have hee : ¬ (hi.toList = []) := fun q => he (bytes_of_list (by rw [q]; exact (by simp : ([] : List UInt8) = (⟨#[]⟩ : ByteArray).toList)))
          have hef : hi.toList.isEmpty = false := by rw [List.isEmpty_eq_false_iff]; exact hee
          cases hb3 : sLt x.k hi
          · have hbh : Op.bytesLess x.k.toList hi.toList = false := hb3
            have hin : inR lo hi x = false := by simp [inR, hb1, he, hb3]
            clear he hb3 hb1
            have HW2 := hide (wantK_out HX1.out hin (m := m))
            clear HW1
            gi_wp2
            go_roundw
            case rel => exact ⟨k + 1, va, vc, nk, by omega, by simp, rfl, hide (by rw [HW2.out]; exact HNK.out), hide (by rw [HW2.out]; exact HRr.out.onl (F := fun _ => False) (Onl.ofBelow HBX.out) (fun _ _ q => q)), hide (HBr.out.trans (HBX.out.mono HBr.out.size))⟩
            case measure => simp [intOf]; omega
          · have hbh : Op.bytesLess x.k.toList hi.toList = true := hb3
            have hin : inR lo hi x = true := by simp [inR, hb1, hb3]
            clear he hb3 hb1
            by_cases hf : nk < m
            · have hd4 : decide ((nk : Int) < (m : Int)) = true := decide_eq_true (by omega)
              have HW2 := hide (wantK_in HX1.out hin (by rw [← HNK.out]; exact hf))
              have r1 := HRr.out.onl (F := fun _ => False) (Onl.ofBelow HBX.out) (fun _ _ q => q)
              have bL : Below (wr.alloc (.cells #[.string x.k, .string x.v] 66)).heap.size (wr.alloc (.cells #[.string x.k, .string x.v] 66)) ((wr.alloc (.cells #[.string x.k, .string x.v] 66)).alloc (.cells #[.string x.k, .string x.v] 66)) := (Below.refl _ _).alloc (Nat.le_refl _) _
              have r2 := r1.onl (F := fun _ => False) (Onl.ofBelow bL) (fun _ _ q => q)
              obtain ⟨v8, w8, RR, r8, o8, ow8⟩ := app_Es (es := [x]) (c := 1) (y := ⟨(wr.alloc (.cells #[.string x.k, .string x.v] 66)).heap.size, 0, none⟩) r2 (by have := (wantK_len lo hi es m k).2; have := HN.out; simp; omega) (rd_litE _ x)
              rw [← HW2.out] at r8
              obtain ⟨va8, vc8, hva8, _⟩ := r8.form
              obtain ⟨n8, hn8⟩ : ∃ n8, n8 = (wantK lo hi es m (k + 1)).length := ⟨_, rfl⟩
              rw [← hn8] at hva8
              rw [hva8] at r8 RR ow8
              rw [show [x].length = 1 from rfl, World.size_alloc] at RR
              have B8 : Below w6.heap.size w6 w8 := Below.onl ((HBr.out.trans (HBX.out.mono HBr.out.size)).trans (bL.mono (by have := HBr.out.size; simp; omega))) o8 (fun i q => HRr.out.2 i q) (Nat.le_refl _)
              have HFIN := hide (And.intro hn8 (And.intro (show Row (fun g => w6.heap.size ≤ g) w8 66 2 (.slice va8 n8 vc8) (wantK lo hi es m (k + 1)).length (ecells (wantK lo hi es m (k + 1))) from ⟨r8.1, fun g hg => (r8.2 g hg).elim (fun z => z) (fun z => by have := HBr.out.size; simp at z; omega)⟩) B8))
              obtain ⟨x1, x2, x3⟩ := app_runs RR
              clear HW1 r1 bL r2 r8 o8 ow8 hva8 hn8 B8 RR
              gi_wp2
              go_roundw
              case rel => exact ⟨k + 1, va8, vc8, n8, by omega, by simp, rfl, hide HFIN.out.1, hide HFIN.out.2.1, hide HFIN.out.2.2⟩
              case measure => simp [intOf]; omega
            · have hd4 : decide ((nk : Int) < (m : Int)) = false := decide_eq_false (by omega)
              have HW2 := hide (wantK_full HX1.out (by rw [← HNK.out]; exact hf))
              clear HW1
              gi_wp2
              go_roundw
              case rel => exact ⟨k + 1, va, vc, nk, by omega, by simp, rfl, hide (by rw [HW2.out]; exact HNK.out), hide (by rw [HW2.out]; exact HRr.out.onl (F := fun _ => False) (Onl.ofBelow HBX.out) (fun _ _ q => q)), hide (HBr.out.trans (HBX.out.mono HBr.out.size))⟩
              case measure => simp [intOf]; omega
      · have hbl : Op.bytesLess x.k.toList lo.toList = true := hb1
        have hin : inR lo hi x = false := by simp [inR, hb1]
        clear hb1
        have HW2 := hide (wantK_out HX1.out hin (m := m))
        clear HW1
        gi_wp2
        go_roundw
        case rel => exact ⟨k + 1, va, vc, nk, by omega, by simp, rfl, hide (by rw [HW2.out]; exact HNK.out), hide (by rw [HW2.out]; exact HRr.out.onl (F := fun _ => False) (Onl.ofBelow HBX.out) (fun _ _ q => q)), hide (HBr.out.trans (HBX.out.mono HBr.out.size))⟩
        case measure => simp [intOf]; omega
    · obtain rfl : k = n := by omega
      have hwa : wantK lo hi es m k = (rgL lo hi es).take m := by rw [HN.out]; exact wantK_all lo hi es m
      rw [hwa] at HNK HRr
      obtain ⟨q1, q2, q3⟩ := HQ.out
      replace q2 : ls.flatMap (fun p => p.2) = es := q2
      have bwr := (HB56.out.trans (HBr.out.mono (by have := HS6.out; omega)))
      have tsr := HP5.out.below bwr
      have CN := trange_any tsr (by have := HT5.out; omega) HTX.out rt ls q1 q3 (by rw [q2]; have := HN.out; omega) lo hi
      rw [q2] at CN
      have HCN := hide CN
      have HTS := hide tsr
      have HKr := hide (And.intro (HK6.out.1.old HBr.out) (HK6.out.2.old HBr.out))
      have HBW := hide (HB6.out.trans (HBr.out.mono HB6.out.size))
      clear CN tsr bwr q1 q2 q3 hwa hlt
      gi_wp2_with fail
      refine ⟨trivial, (callsIn_wide.2 HCN.out).mono ?_⟩
      rintro e w7 ⟨Ba, Bl, Bh, Bs, v, rfl, g1, g2, g3, g4, g5, g6, g7, g8⟩
      have HG := hide (And.intro g1 (And.intro g2 (And.intro g3 (And.intro g4 (And.intro g5 (And.intro g6 (And.intro g7 g8)))))))
      clear g1 g2 g3 g4 g5 g6 g7 g8 HCN
      gi_wp2
      obtain ⟨hBl, hBh, kBa, kBl, kBh, kBs, rowA, bA⟩ := HG.out
      have k7 := HKr.out.1.old bA
      have m7 := HKr.out.2.old bA
      obtain ⟨bx, hbx⟩ : ∃ bx, bx = w5.heap.size := ⟨_, rfl⟩
      obtain ⟨mb, hmb⟩ : ∃ mb, mb = w.heap.size := ⟨_, rfl⟩
      rw [← hbx] at k7 ⊢
      rw [← hmb] at m7 ⊢
      have HBX := hide hbx
      have HMB := hide hmb
      have hmx : mb < bx := by have := HB5.out.size; have := HMB.out; have := HBX.out; have := HK5.out.lt; omega
      clear hbx hmb
      obtain ⟨L, hL⟩ : ∃ L, L = rgL lo hi es := ⟨_, rfl⟩
      have hLl : L.length ≤ 60 := by rw [hL]; have := List.length_filter_le (inR lo hi) es; have := HN.out; unfold rgL; omega
      refine range_two (gf := 61) (lb := #[.pointer (some ⟨Ba, 0, none⟩), .pointer (some ⟨Bl, 0, none⟩), .pointer (some ⟨Bh, 0, none⟩)]) rfl enter_range1 (fun W2 => (∃ r2, W2.heap[w7.heap.size + 1]? = some (.loop r2)) ∧ ∃ v2, Ob W2 bx 22 [v2] ∧ Row (fun g => w7.heap.size + 2 ≤ g) W2 66 2 v2 (L.take m).length (ecells (L.take m)) ∧ Onl (fun i => i = bx) w7 W2) (fun c W2 => c = .exit 2 ∧ (∃ r2, W2.heap[w7.heap.size + 1]? = some (.loop r2)) ∧ ∃ v2, Ob W2 bx 22 [v2] ∧ Row (fun g => w7.heap.size + 2 ≤ g) W2 66 2 v2 (L.take m).length (ecells (L.take m)) ∧ Onl (fun i => i = bx) w7 W2) ?call ?done ?stop
      case call =>
        intro fn r rd W1 hr' hrd lp1 b1 s1
        have ha := congrArg Loop.assign hr'
        have hb := congrArg Loop.body hr'
        have hpa := congrArg Loop.params hr'
        have htm := congrArg Loop.tmps hr'
        have H2 : TellsE L.length (fun k => L.getD k ⟨ByteArray.empty, ByteArray.empty⟩) (w7.heap.size + 1) (w7.heap.size + 2) (fun i => i = w7.heap.size + 1) (GtJ w7.heap.size r bx mb L m) (GtX w7.heap.size rd bx L m) := by
          refine ⟨fun k U A B hj hb => ?_, fun k U A hj i hi => ?_, fun k U A l o o' hj hl hA hc => hj.put hl hA hc, fun k U A l o o' hj hl hA hc => hj.put hl hA hc, fun k U A hj hk nn => ?_⟩
          · obtain ⟨v, q1, q2, q3⟩ := hj.got
            exact ⟨hj.lp.below hb, hj.km, hj.kl, ⟨v, q1.old hb, q2.onl (F := fun _ => False) (Onl.ofBelow hb) (fun _ _ q => q), q3⟩, hj.mb.old hb⟩
          · obtain ⟨v, q1, q2, q3⟩ := hj.got
            rcases (q3 i).1 hi with q | q
            · rw [q]; exact q1.lt
            · exact q2.lt i q
          · obtain ⟨x, hx⟩ : ∃ x, L[k]? = some x := ⟨L[k], List.getElem?_eq_getElem hk⟩
            have hgd : L.getD k ⟨ByteArray.empty, ByteArray.empty⟩ = x := by simp [List.getD_eq_getElem?_getD, hx]
            simp only [hgd]
            obtain ⟨rb, hrb⟩ : ∃ rb, rb = { r with state := .busy } := ⟨_, rfl⟩
            show YieldAt Fence.wide nn Tryz.prog (w7.heap.size + 1) _ A (fun e A' => (e = .returned (.bool true) ∧ GtR U (GtJ w7.heap.size r bx mb L m (k + 1)) U A A') ∨ (e = .returned (.bool false) ∧ GtR (fun i => U i ∨ i = w7.heap.size + 1) (GtX w7.heap.size rd bx L m (k + 1)) U A A'))
            refine yield_two hrb hrd (by rw [hr']; rfl) (by rw [hr']; rfl) ha hb hpa htm hj.lp rfl ?_
            simp only [recL]
            obtain ⟨v, q1, q2, q3⟩ := hj.got
            obtain ⟨A2, hA2⟩ : ∃ A2, A2 = A.putObj (w7.heap.size + 1) (.loop rb) := ⟨_, rfl⟩
            have o1 : Onl (fun i => i = w7.heap.size + 1) A A2 := by rw [hA2]; exact put_onl _
            have k2 := q1.onl o1 (fun q => ob_loop q1 hj.lp.1 rfl q)
            have m2 := hj.mb.onl o1 (fun q => ob_loop hj.mb hj.lp.1 rfl q)
            have row2 := q2.onl o1 (fun g hg z => Row.noLoop q2 hj.lp.1 rfl (by rw [← z]; exact hg))
            have hkt : (L.take k).length = k := by rw [List.length_take]; have := hj.kl; omega
            obtain ⟨va2, vc2, hva2, _⟩ := row2.form
            rw [hkt] at hva2
            subst hva2
            have z1 := k2.cell 0
            have z1f := k2.frozen 0
            have z2 := m2.cell 0
            simp only [List.getElem?_cons_zero] at z1 z2
            have HJJ := hide hj
            have HQ3 := hide q3
            have HA2 := hide hA2
            have HXX := hide hx
            have hszA : A2.heap.size = A.heap.size := by rw [hA2]; simp
            by_cases hkm : k = m
            · subst hkm
              have HF := hide (fun a3 => gt_leave (rd := rd) (rb := rb) hj hA2 a3)
              have ht : ((k : Int) == (k : Int)) = true := by simp
              have HLPA := hide hj.lp
              clear hj q1 q2 q3 o1 k2 m2 row2 hkt hx hgd z1f ha hb hpa htm hr' hrd hrb
              gi_wp2
              rw [← hA2]
              refine ⟨HLPA.out, ?_⟩
              clear hA2
              gi_wp2
              exact HF.out _
            · have hkm2 : k < m := by have := hj.km; omega
              have ht : ((k : Int) == (m : Int)) = false := by simp; omega
              have ht2 : ¬ (k : Int) = (m : Int) := by omega
              have bL : Below A2.heap.size A2 (A2.alloc (.cells #[.string x.k, .string x.v] 66)) := (Below.refl _ _).alloc (Nat.le_refl _) _
              have rowL := row2.onl (F := fun _ => False) (Onl.ofBelow bL) (fun _ _ q => q)
              have htk : L.take (k + 1) = L.take k ++ [x] := by rw [List.take_add_one, hx]; rfl
              obtain ⟨v8, w8, RR, r8, o8, ow8⟩ := app_Es (es := [x]) (c := 1) (y := ⟨A2.heap.size, 0, none⟩) rowL (by simp; omega) (rd_litE _ x)
              rw [← htk] at r8
              have hkt1 : (L.take (k + 1)).length = k + 1 := by rw [List.length_take]; omega
              obtain ⟨va8, vc8, hva8, _⟩ := r8.form
              rw [hkt1] at hva8
              rw [show [x].length = 1 from rfl] at RR
              have hap1 : (Value.slice va2 k vc2).ownBlock ≠ some bx := rowL.apartOb (k2.old bL) (by decide)
              have hap2 : (Value.slice va2 k vc2).ownBlock ≠ some mb := rowL.apartOb (m2.old bL) (by decide)
              have k8 := (k2.old bL).onl o8 (fun q => hap1 q)
              have m8 := (m2.old bL).onl o8 (fun q => hap2 q)
              obtain ⟨W9, hW9⟩ : ∃ W9, W9 = w8.setCell ⟨bx, 0, none⟩ v8 := ⟨_, rfl⟩
              have o9 : Onl (fun i => i = bx) w8 W9 := by rw [hW9]; exact (Onl.refl (fun i => i = bx) w8).set (p := bx) (.inl rfl) _
              have k9 : Ob W9 bx 22 [v8] := by rw [hW9]; exact k8.set 0 _
              have hap3 : v8.ownBlock ≠ some bx := r8.apartOb k8 (by decide)
              have r9 := r8.onl o9 (fun g hg z => hap3 (by rw [← z]; exact hg))
              have m9 := m8.onl o9 (by omega)
              have hlpA := hj.lp
              have hA1 := (Array.getElem?_eq_some_iff.1 hlpA.1).1
              have r9' : Row (fun g => w7.heap.size + 2 ≤ g) W9 66 2 v8 (L.take (k + 1)).length (ecells (L.take (k + 1))) := ⟨r9.1, fun g hg => (r9.2 g hg).elim (fun z => z) (fun z => by rw [z]; simp; omega)⟩
              have o29 : Onl U A2 W9 := ((Onl.ofBelow bL).trans (o8.mono (fun i q => (q3 i).2 (.inr q)))).trans (o9.mono (fun i q => (q3 i).2 (.inl q)))
              have hloU : ∀ i, U i → ¬ (i = w7.heap.size) ∧ ¬ (i = w7.heap.size + 1) := fun i hi => by
                rcases (q3 i).1 hi with z | z
                · rw [z]; exact ⟨fun q => ob_loop q1 hlpA.2 rfl q, fun q => ob_loop q1 hlpA.1 rfl q⟩
                · have := q2.2 i z; omega
              have HF := hide (fun a3 => gt_more (rd := rd) hj hA2 hkm2 hk q3 hloU k9 r9' m9 o29 (fun i q => (ow8 i q).imp (fun z => z) (fun z => by rw [z]; simp; omega)) a3)
              have y8 := k8.cell 0
              have y8f := k8.frozen 0
              simp only [List.getElem?_cons_zero] at y8
              have HLPA := hide hj.lp
              subst hva8
              rw [hW9] at HF
              obtain ⟨x1, x2, x3⟩ := app_runs RR
              clear hj q1 q2 q3 o1 k2 m2 row2 hkt hx hgd z1f ha hb hpa htm hr' hrd hrb bL rowL htk r8 o8 ow8 hkt1 hap1 hap2 hap3 k8 m8 hW9 o9 k9 r9 m9 hlpA hA1 r9' o29 hloU RR hszA
              gi_wp2
              rw [← hA2]
              refine ⟨HLPA.out, ?_⟩
              clear hA2
              gi_wp2
              exact HF.out _
        have hj1 : GtJ w7.heap.size r bx mb L m 0 (fun i => i = bx) W1 := ⟨lp1, Nat.zero_le _, Nat.zero_le _, ⟨.slice none 0 0, k7.old b1, by rw [List.take_zero]; exact Row.nil _ _ _ _, fun i => by simp [Value.ownBlock]⟩, m7.old b1⟩
        have hgs : w7.heap.size ≤ w7.heap.size := Nat.le_refl _
        have HX1 : ∀ i, v.ownBlock = some i → ¬ (i = bx) := fun i hi q => by
          have := (rowA.apartOb k7 (by decide))
          rw [hi, q] at this
          exact this rfl
        have C := range1_in lo hi es (by have := HN.out; omega) (by rw [← hL]; exact H2) (fun i e h => by rw [← hL] at h; simp [List.getD_eq_getElem?_getD, h]) (1 - 1) W1 Ba Bl Bh Bs v (fun i => i = bx) (by omega) hj1 (kBa.old b1) (kBl.old b1) (kBh.old b1) (kBs.old b1) ((rowA.mono (fun _ _ => trivial)).onl (F := fun _ => False) (Onl.ofBelow b1) (fun _ _ q => q)) HX1 (by have := HKr.out.1.lt; have := HBX.out; omega) (by have := HKr.out.1.lt; have := HBX.out; omega) (fun i q => by omega)
        refine C.mono ?_
        rw [← hL]
        rintro e W2 ⟨hv, ⟨U', j2, o2, u2⟩ | ⟨k2, U', hk2, j2, o2, u2⟩⟩
        · obtain ⟨v2, q1, q2, q3⟩ := j2.got
          refine ⟨hv, .inl ⟨j2.lp, ⟨_, j2.lp.1⟩, v2, q1, ?_, (Onl.ofBelow b1).trans o2⟩⟩
          have h3 := j2.km
          rw [List.take_length] at q2
          rw [List.take_of_length_le h3]
          exact q2
        · obtain ⟨x1, x2, v2, q1, q2, q3⟩ := j2
          exact ⟨hv, .inr ⟨.exit 2, x1, rfl, ⟨_, x1.1⟩, v2, q1, q2, (Onl.ofBelow b1).more o2 (fun i q => q.elim (fun z => .inl z) (fun z => .inr (by omega)))⟩⟩
      case done =>
        rintro W2 o ⟨⟨r2, l2⟩, v2, kx2, rowG, oG⟩ dd dl
        have hsz := oG.size
        have oa : Onl (fun i => i = w7.heap.size + 1) W2 (W2.putObj (w7.heap.size + 1) o) := put_onl _
        obtain ⟨W8, hW8⟩ : ∃ W8, W8 = W2.putObj (w7.heap.size + 1) o := ⟨_, rfl⟩
        rw [← hW8] at oa ⊢
        have ed : W8.heap[w7.heap.size]? = some (.deferred (some [])) := (oa.block _ (by omega) (by omega)).trans dd
        have kx8 := kx2.onl oa (fun q => ob_loop kx2 l2 rfl q)
        have row8 := rowG.onl oa (fun g hg z => Row.noLoop rowG l2 rfl (by rw [← z]; exact hg))
        have rowW7 := HRr.out.onl (F := fun _ => False) (Onl.ofBelow bA) (fun _ _ q => q)
        have hwx : (Value.slice va nk vc).ownBlock ≠ some bx := rowW7.apartOb k7 (by decide)
        have rowW2 := rowW7.onl oG (fun g hg z => hwx (by rw [← z]; exact hg))
        have rowW8 := rowW2.onl oa (fun g hg z => Row.noLoop rowW2 l2 rfl (by rw [← z]; exact hg))
        have bwr := HB56.out.trans (HBr.out.mono (by have := HS6.out; omega))
        have bw7 := bwr.trans (bA.mono bwr.size)
        have b2 := Below.onl bw7 oG (fun i q => by have := HBX.out; omega) (Nat.le_refl _)
        have B8 : Below w5.heap.size w5 W8 := Below.onl b2 oa (fun i q => by have := bw7.size; omega) (Nat.le_refl _)
        obtain ⟨W9, hW9⟩ : ∃ W9, W9 = W8.alloc (.cells #[.int .i64 0] 3) := ⟨_, rfl⟩
        have b9 : Below W8.heap.size W8 W9 := by rw [hW9]; exact (Below.refl _ W8).alloc (Nat.le_refl _) _
        have kn9 : Ob W9 W8.heap.size 3 [.int .i64 0] := by rw [hW9]; exact Ob.new W8 [.int .i64 0] 3
        have B9 := B8.trans (b9.mono B8.size)
        obtain ⟨q1, q2, q3⟩ := HQ.out
        replace q2 : ls.flatMap (fun p => p.2) = es := q2
        have CA := tall_any (HP5.out.below B9) (by have := HT5.out; omega) HTX.out rt ls q1 q3 (by rw [q2]; have := HN.out; omega)
        rw [q2] at CA
        have HCA := hide CA
        obtain ⟨nb, hnb⟩ : ∃ nb, nb = W8.heap.size := ⟨_, rfl⟩
        have HNB := hide hnb
        have h7s : w7.heap.size < W8.heap.size := (Array.getElem?_eq_some_iff.1 ed).1
        rw [← hnb] at kn9
        have HED := hide ed
        have HKX := hide kx8
        have HR8 := hide row8
        have HW8 := hide rowW8
        have HB8 := hide B8
        have HB9 := hide b9
        have HKN := hide kn9
        have H7S := hide h7s
        have HTS9 := hide (HP5.out.below B9)
        clear hsz oa hW8 ed kx8 row8 rowW7 hwx rowW2 rowW8 bwr bw7 b2 B8 b9 kn9 B9 q1 q2 q3 CA kx2 rowG oG dd dl l2 r2 h7s HG HKr hnb
        gi_wp2_with fail
        rw [← hW9]
        clear hW9
        refine ⟨trivial, (callsIn_wide.2 HCA.out).mono ?_⟩
        rintro e w10 ⟨Bs2, v3, hBs2, rfl, kB2, rowA2, bA2⟩
        rw [← HNB.out]
        have kn10 := HKN.out.old bA2
        gi_wp2
        refine range_two (gf := 62) (lb := #[.pointer (some ⟨Bs2, 0, none⟩)]) rfl enter_all1 (fun W2 => (∃ r2, W2.heap[w10.heap.size + 1]? = some (.loop r2)) ∧ Ob W2 nb 3 [.int .i64 (es.length : Int)] ∧ Onl (fun i => i = nb) w10 W2) (fun _ _ => False) ?call2 ?done2 ?stop2
        case call2 =>
          intro fn r rd W1 hr' hrd lp1 b1 s1
          have ha := congrArg Loop.assign hr'
          have hb := congrArg Loop.body hr'
          have hpa := congrArg Loop.params hr'
          have htm := congrArg Loop.tmps hr'
          have H2 : TellsE es.length (fun k => es.getD k ⟨ByteArray.empty, ByteArray.empty⟩) (w10.heap.size + 1) (w10.heap.size + 2) (fun _ => False) (NcJ w10.heap.size r nb) (fun _ _ _ => False) := by
            refine ⟨fun k U A B hj hb => ⟨hj.lp.below hb, hj.ob.old hb, hj.u⟩, fun k U A hj i hi => (by have h1 := (hj.u i).1 hi; have h2 := hj.ob.lt; omega), fun k U A l o o' hj hl hA hc => hj.put hl hA hc, fun k U A l o o' hj hl hA hc => hj.elim, fun k U A hj hk nn => ?_⟩
            obtain ⟨rb, hrb⟩ : ∃ rb, rb = { r with state := .busy } := ⟨_, rfl⟩
            show YieldAt Fence.wide nn Tryz.prog (w10.heap.size + 1) _ A (fun e A' => (e = .returned (.bool true) ∧ GtR U (NcJ w10.heap.size r nb (k + 1)) U A A') ∨ (e = .returned (.bool false) ∧ GtR (fun i => U i ∨ False) (fun _ _ => False) U A A'))
            refine yield_two hrb hrd (by rw [hr']; rfl) (by rw [hr']; rfl) ha hb hpa htm hj.lp rfl ?_
            simp only [recL]
            obtain ⟨A2, hA2⟩ : ∃ A2, A2 = A.putObj (w10.heap.size + 1) (.loop rb) := ⟨_, rfl⟩
            have o1 : Onl (fun i => i = w10.heap.size + 1) A A2 := by rw [hA2]; exact put_onl _
            have k2 := hj.ob.onl o1 (fun q => ob_loop hj.ob hj.lp.1 rfl q)
            have z1 := k2.cell 0
            have z1f := k2.frozen 0
            simp only [List.getElem?_cons_zero] at z1
            have hk60 : k < 61 := by have := HN.out; omega
            have wk : IntKind.i64.wrap ((k : Int) + 1) = ((k + 1 : Nat) : Int) := by rw [IntKind.wrap_i64]; omega
            obtain ⟨A3, hA3⟩ : ∃ A3, A3 = A2.setCell ⟨nb, 0, none⟩ (.int .i64 ((k : Int) + 1)) := ⟨_, rfl⟩
            have o3 : Onl (fun i => i = nb) A2 A3 := by rw [hA3]; exact (Onl.refl (fun i => i = nb) A2).set (p := nb) (.inl rfl) _
            have k3 : Ob A3 nb 3 [.int .i64 ((k + 1 : Nat) : Int)] := by rw [hA3]; exact k2.set 0 _
            have HF := hide (fun a3 => nc_more (rd := rd) hj hA2 k3 o3 (GtR (fun i => U i ∨ False) (fun _ _ => False) U A) a3)
            have HLPA := hide hj.lp
            rw [hA3] at HF
            clear hj o1 k2 ha hb hpa htm hr' hrd hrb hA3 o3 k3
            gi_wp2
            rw [← hA2]
            refine ⟨HLPA.out, ?_⟩
            clear hA2
            gi_wp2
            exact HF.out _
          have hj1 : NcJ w10.heap.size r nb 0 (fun i => i = nb) W1 := ⟨lp1, kn10.old b1, fun i => Iff.rfl⟩
          have HX1 : ∀ i, v3.ownBlock = some i → ¬ (i = nb) := fun i hi q => by
            have := (rowA2.apartOb kn10 (by decide))
            rw [hi, q] at this
            exact this rfl
          have C := all1_in es (by have := HN.out; omega) H2 (fun i e h => by simp [List.getD_eq_getElem?_getD, h]) (1 - 1) W1 Bs2 v3 (fun i => i = nb) hj1 (kB2.old b1) ((rowA2.mono (fun _ _ => trivial)).onl (F := fun _ => False) (Onl.ofBelow b1) (fun _ _ q => q)) HX1
          refine C.mono ?_
          rintro e W2 ⟨hv, ⟨U', j2, o2, u2⟩ | ⟨k2, U', hk2, j2, o2, u2⟩⟩
          · exact ⟨hv, .inl ⟨j2.lp, ⟨_, j2.lp.1⟩, j2.ob, (Onl.ofBelow b1).trans o2⟩⟩
          · exact j2.elim
        case stop2 =>
          rintro c W2 o q
          exact q.elim
        case done2 =>
          rintro W12 o2 ⟨⟨r3, l3⟩, kn12, oN⟩ dd2 dl2
          have hsz2 := oN.size
          have ob2 : Onl (fun i => i = w10.heap.size + 1) W12 (W12.putObj (w10.heap.size + 1) o2) := put_onl _
          obtain ⟨W13, hW13⟩ : ∃ W13, W13 = W12.putObj (w10.heap.size + 1) o2 := ⟨_, rfl⟩
          rw [← hW13] at ob2 ⊢
          have hnb := HNB.out
          have h7s := H7S.out
          have b810 : Below W8.heap.size W8 w10 := HB9.out.trans (bA2.mono HB9.out.size)
          have hs10 := b810.size
          have ed2 : W13.heap[w10.heap.size]? = some (.deferred (some [])) := (ob2.block _ (by omega) (by omega)).trans dd2
          have e10 : w10.heap[w7.heap.size]? = some (.deferred (some [])) := (b810.block _ h7s).trans HED.out
          have e12 : W12.heap[w7.heap.size]? = some (.deferred (some [])) := (oN.block _ (by omega) (by omega)).trans e10
          have ed1 : W13.heap[w7.heap.size]? = some (.deferred (some [])) := (ob2.block _ (by omega) (by omega)).trans e12
          have hxl := HKX.out.lt
          have kx12 := (HKX.out.old b810).onl oN (by omega)
          have kx13 := kx12.onl ob2 (fun q => ob_loop kx12 l3 rfl q)
          have rg12 := (HR8.out.onl (F := fun _ => False) (Onl.ofBelow b810) (fun _ _ q => q)).onl oN (fun g hg z => by have := HR8.out.lt g hg; omega)
          have rg13 := rg12.onl ob2 (fun g hg z => Row.noLoop rg12 l3 rfl (by rw [← z]; exact hg))
          have rw12 := (HW8.out.onl (F := fun _ => False) (Onl.ofBelow b810) (fun _ _ q => q)).onl oN (fun g hg z => by have := HW8.out.lt g hg; omega)
          have rw13 := rw12.onl ob2 (fun g hg z => Row.noLoop rw12 l3 rfl (by rw [← z]; exact hg))
          have kn13 := kn12.onl ob2 (fun q => ob_loop kn12 l3 rfl q)
          have B10 : Below w5.heap.size w5 w10 := HB8.out.trans (b810.mono HB8.out.size)
          have s8 := HB8.out.size
          have B13 : Below w5.heap.size w5 W13 := Below.onl (Below.onl B10 oN (fun i q => by omega) (Nat.le_refl _)) ob2 (fun i q => by omega) (Nat.le_refl _)
          obtain ⟨ga, gc, hgv, rdG, _⟩ := rd_ecells rg13
          subst hgv
          rw [← hL] at rw13
          obtain ⟨wa, wc, hwv, rdW, _⟩ := rd_ecells rw13
          have hnk := HNK.out
          rw [← hL] at hnk
          rw [← hnk] at hwv
          injection hwv with ew1 _ ew3
          subst ew1 ew3
          have x0 := kx13.cell 0
          have n0 := kn13.cell 0
          simp only [List.getElem?_cons_zero] at x0 n0
          rw [← HN.out] at n0
          rw [← hnk] at x0
          have CSm : ∀ W, Below W13.heap.size W13 W → Calls Tryz.prog 18 #[.slice va nk vc, .slice ga nk gc] W fun e w' => e = .returned (.bool true) ∧ Below W.heap.size W w' := fun W b => by
            have := sameEn_any va vc (L.take m) ga gc (L.take m) W (rdW.below b) (rdG.below b) (by simp; omega)
            rw [decide_eq_true rfl, ← hnk] at this
            exact this
          have HCS := hide CSm
          have HED1 := hide ed1
          have HED2 := hide ed2
          have HKX13 := hide kx13
          have HKN13 := hide kn13
          have HB13 := hide B13
          have HC1 := hide (CSm W13 (Below.refl _ _))
          have hkk : ((k : Int) != (k : Int)) = false := by simp
          have H710 : Hid (w7.heap.size < w10.heap.size) := hide (by omega)
          have H5s : Hid (w5.heap.size ≤ w7.heap.size) := hide (by have := HBX.out; have := k7.lt; omega)
          clear hsz2 ob2 hW13 hnb h7s b810 hs10 ed2 e10 e12 ed1 hxl kx12 kx13 rg12 rg13 rw12 rw13 kn13 B10 s8 B13 rdG rdW CSm kn12 oN dd2 dl2 l3 r3 hnk
          gi_wp2_with fail
          refine ⟨trivial, (callsIn_wide.2 HC1.out).mono ?_⟩
          rintro e w14 ⟨rfl, b14⟩
          have n1 := (HKN13.out.old b14).cell 0
          have y1 := (HKX13.out.old b14).cell 0
          simp only [List.getElem?_cons_zero] at n1 y1
          rw [← HN.out] at n1
          have hnkL : nk = (L.take m).length := by have := HNK.out; rw [← hL] at this; exact this
          rw [← hnkL] at y1
          have HC2 := hide (HCS.out w14 b14)
          have HB14 := hide b14
          clear b14 hnkL
          by_cases hid2 : id ≤ 10000
          · have hdi : decide ((id : Int) ≤ 10000) = true := decide_eq_true (by omega)
            have hkk2 : ((k : Int) == (k : Int)) = true := by simp
            gi_wp2_with fail
            refine ⟨trivial, (callsIn_wide.2 HC2.out).mono ?_⟩
            rintro e w15 ⟨rfl, b15⟩
            have HB15 := hide (HB14.out.trans (b15.mono HB14.out.size))
            clear b15
            gi_wp2
            have e2 := (HB15.out.block _ (Array.getElem?_eq_some_iff.1 HED2.out).1).trans HED2.out
            have e1 := (HB15.out.block _ (Array.getElem?_eq_some_iff.1 HED1.out).1).trans HED1.out
            have bw := HB5.out.trans ((HB13.out.trans (HB15.out.mono HB13.out.size)).mono HB5.out.size)
            exact fin_rg e2 e1 H710.out rfl bw (by have := H5s.out; have := HB5.out.size; omega)
          · have hdi : decide ((id : Int) ≤ 10000) = false := decide_eq_false (by omega)
            have hTl : T5.length < id := by have := HT5.out; omega
            have hT16 : T5.length ≤ 16000 := by have := HT5.out; omega
            have ts : ∀ W, Below W13.heap.size W13 W → TSw w3 W s O5 T5 (1 + 23 * es.length) := fun W b => HP5.out.below (HB13.out.trans (b.mono HB13.out.size))
            have HTSX := hide ts
            have HC4 := hide (tlistnone_any (ts w14 HB14.out) hT16 HTX.out id hTl hid)
            have HTL := hide (And.intro hTl hT16)
            clear ts hTl hT16
            gi_wp2_with fail
            refine ⟨trivial, (callsIn_wide.2 HC4.out).mono ?_⟩
            rintro e w15 ⟨rfl, b15⟩
            have HB15 := hide (HB14.out.trans (b15.mono HB14.out.size))
            have HC5' := hide (tgetnone_any (HTSX.out w15 HB15.out) HTL.out.2 HTX.out id HTL.out.1 hid lo)
            clear b15 HC4
            gi_wp2_with fail
            refine ⟨trivial, (callsIn_wide.2 HC5'.out).mono ?_⟩
            rintro e w16 ⟨rfl, b16⟩
            have HB16 := hide (HB15.out.trans (b16.mono HB15.out.size))
            have HC6 := hide (tleavesnone_any (HTSX.out w16 HB16.out) HTL.out.2 HTX.out id HTL.out.1 hid)
            clear b16 HC5'
            gi_wp2_with fail
            refine ⟨trivial, (callsIn_wide.2 HC6.out).mono ?_⟩
            rintro e w17 ⟨rfl, b17⟩
            have HB17 := hide (HB16.out.trans (b17.mono HB16.out.size))
            have HC7 := hide (teditnone_any (HTSX.out w17 HB17.out) HTL.out.2 HTX.out id HTL.out.1 hid)
            clear b17 HC6
            gi_wp2_with fail
            refine ⟨trivial, (callsIn_wide.2 HC7.out).mono ?_⟩
            rintro e w18 ⟨rfl, b18⟩
            have HB18 := hide (HB17.out.trans (b18.mono HB17.out.size))
            clear b18 HC7
            gi_wp2
            have e2 := (HB18.out.block _ (Array.getElem?_eq_some_iff.1 HED2.out).1).trans HED2.out
            have e1 := (HB18.out.block _ (Array.getElem?_eq_some_iff.1 HED1.out).1).trans HED1.out
            have bw := HB5.out.trans ((HB13.out.trans (HB18.out.mono HB13.out.size)).mono HB5.out.size)
            exact fin_rg e2 e1 H710.out rfl bw (by have := H5s.out; have := HB5.out.size; omega)
      case stop =>
        rintro c W2 o ⟨rfl, ⟨r2, l2⟩, v2, kx2, rowG, oG⟩ dd dl
        have hsz := oG.size
        have oa : Onl (fun i => i = w7.heap.size + 1) W2 (W2.putObj (w7.heap.size + 1) o) := put_onl _
        obtain ⟨W8, hW8⟩ : ∃ W8, W8 = W2.putObj (w7.heap.size + 1) o := ⟨_, rfl⟩
        rw [← hW8] at oa ⊢
        have ed : W8.heap[w7.heap.size]? = some (.deferred (some [])) := (oa.block _ (by omega) (by omega)).trans dd
        have kx8 := kx2.onl oa (fun q => ob_loop kx2 l2 rfl q)
        have row8 := rowG.onl oa (fun g hg z => Row.noLoop rowG l2 rfl (by rw [← z]; exact hg))
        have rowW7 := HRr.out.onl (F := fun _ => False) (Onl.ofBelow bA) (fun _ _ q => q)
        have hwx : (Value.slice va nk vc).ownBlock ≠ some bx := rowW7.apartOb k7 (by decide)
        have rowW2 := rowW7.onl oG (fun g hg z => hwx (by rw [← z]; exact hg))
        have rowW8 := rowW2.onl oa (fun g hg z => Row.noLoop rowW2 l2 rfl (by rw [← z]; exact hg))
        have bwr := HB56.out.trans (HBr.out.mono (by have := HS6.out; omega))
        have bw7 := bwr.trans (bA.mono bwr.size)
        have b2 := Below.onl bw7 oG (fun i q => by have := HBX.out; omega) (Nat.le_refl _)
        have B8 : Below w5.heap.size w5 W8 := Below.onl b2 oa (fun i q => by have := bw7.size; omega) (Nat.le_refl _)
        obtain ⟨W9, hW9⟩ : ∃ W9, W9 = W8.alloc (.cells #[.int .i64 0] 3) := ⟨_, rfl⟩
        have b9 : Below W8.heap.size W8 W9 := by rw [hW9]; exact (Below.refl _ W8).alloc (Nat.le_refl _) _
        have kn9 : Ob W9 W8.heap.size 3 [.int .i64 0] := by rw [hW9]; exact Ob.new W8 [.int .i64 0] 3
        have B9 := B8.trans (b9.mono B8.size)
        obtain ⟨q1, q2, q3⟩ := HQ.out
        replace q2 : ls.flatMap (fun p => p.2) = es := q2
        have CA := tall_any (HP5.out.below B9) (by have := HT5.out; omega) HTX.out rt ls q1 q3 (by rw [q2]; have := HN.out; omega)
        rw [q2] at CA
        have HCA := hide CA
        obtain ⟨nb, hnb⟩ : ∃ nb, nb = W8.heap.size := ⟨_, rfl⟩
        have HNB := hide hnb
        have h7s : w7.heap.size < W8.heap.size := (Array.getElem?_eq_some_iff.1 ed).1
        rw [← hnb] at kn9
        have HED := hide ed
        have HKX := hide kx8
        have HR8 := hide row8
        have HW8 := hide rowW8
        have HB8 := hide B8
        have HB9 := hide b9
        have HKN := hide kn9
        have H7S := hide h7s
        have HTS9 := hide (HP5.out.below B9)
        clear hsz oa hW8 ed kx8 row8 rowW7 hwx rowW2 rowW8 bwr bw7 b2 B8 b9 kn9 B9 q1 q2 q3 CA kx2 rowG oG dd dl l2 r2 h7s HG HKr hnb
        gi_wp2_with fail
        rw [← hW9]
        clear hW9
        refine ⟨trivial, (callsIn_wide.2 HCA.out).mono ?_⟩
        rintro e w10 ⟨Bs2, v3, hBs2, rfl, kB2, rowA2, bA2⟩
        rw [← HNB.out]
        have kn10 := HKN.out.old bA2
        gi_wp2
        refine range_two (gf := 62) (lb := #[.pointer (some ⟨Bs2, 0, none⟩)]) rfl enter_all1 (fun W2 => (∃ r2, W2.heap[w10.heap.size + 1]? = some (.loop r2)) ∧ Ob W2 nb 3 [.int .i64 (es.length : Int)] ∧ Onl (fun i => i = nb) w10 W2) (fun _ _ => False) ?call2 ?done2 ?stop2
        case call2 =>
          intro fn r rd W1 hr' hrd lp1 b1 s1
          have ha := congrArg Loop.assign hr'
          have hb := congrArg Loop.body hr'
          have hpa := congrArg Loop.params hr'
          have htm := congrArg Loop.tmps hr'
          have H2 : TellsE es.length (fun k => es.getD k ⟨ByteArray.empty, ByteArray.empty⟩) (w10.heap.size + 1) (w10.heap.size + 2) (fun _ => False) (NcJ w10.heap.size r nb) (fun _ _ _ => False) := by
            refine ⟨fun k U A B hj hb => ⟨hj.lp.below hb, hj.ob.old hb, hj.u⟩, fun k U A hj i hi => (by have h1 := (hj.u i).1 hi; have h2 := hj.ob.lt; omega), fun k U A l o o' hj hl hA hc => hj.put hl hA hc, fun k U A l o o' hj hl hA hc => hj.elim, fun k U A hj hk nn => ?_⟩
            obtain ⟨rb, hrb⟩ : ∃ rb, rb = { r with state := .busy } := ⟨_, rfl⟩
            show YieldAt Fence.wide nn Tryz.prog (w10.heap.size + 1) _ A (fun e A' => (e = .returned (.bool true) ∧ GtR U (NcJ w10.heap.size r nb (k + 1)) U A A') ∨ (e = .returned (.bool false) ∧ GtR (fun i => U i ∨ False) (fun _ _ => False) U A A'))
            refine yield_two hrb hrd (by rw [hr']; rfl) (by rw [hr']; rfl) ha hb hpa htm hj.lp rfl ?_
            simp only [recL]
            obtain ⟨A2, hA2⟩ : ∃ A2, A2 = A.putObj (w10.heap.size + 1) (.loop rb) := ⟨_, rfl⟩
            have o1 : Onl (fun i => i = w10.heap.size + 1) A A2 := by rw [hA2]; exact put_onl _
            have k2 := hj.ob.onl o1 (fun q => ob_loop hj.ob hj.lp.1 rfl q)
            have z1 := k2.cell 0
            have z1f := k2.frozen 0
            simp only [List.getElem?_cons_zero] at z1
            have hk60 : k < 61 := by have := HN.out; omega
            have wk : IntKind.i64.wrap ((k : Int) + 1) = ((k + 1 : Nat) : Int) := by rw [IntKind.wrap_i64]; omega
            obtain ⟨A3, hA3⟩ : ∃ A3, A3 = A2.setCell ⟨nb, 0, none⟩ (.int .i64 ((k : Int) + 1)) := ⟨_, rfl⟩
            have o3 : Onl (fun i => i = nb) A2 A3 := by rw [hA3]; exact (Onl.refl (fun i => i = nb) A2).set (p := nb) (.inl rfl) _
            have k3 : Ob A3 nb 3 [.int .i64 ((k + 1 : Nat) : Int)] := by rw [hA3]; exact k2.set 0 _
            have HF := hide (fun a3 => nc_more (rd := rd) hj hA2 k3 o3 (GtR (fun i => U i ∨ False) (fun _ _ => False) U A) a3)
            have HLPA := hide hj.lp
            rw [hA3] at HF
            clear hj o1 k2 ha hb hpa htm hr' hrd hrb hA3 o3 k3
            gi_wp2
            rw [← hA2]
            refine ⟨HLPA.out, ?_⟩
            clear hA2
            gi_wp2
            exact HF.out _
          have hj1 : NcJ w10.heap.size r nb 0 (fun i => i = nb) W1 := ⟨lp1, kn10.old b1, fun i => Iff.rfl⟩
          have HX1 : ∀ i, v3.ownBlock = some i → ¬ (i = nb) := fun i hi q => by
            have := (rowA2.apartOb kn10 (by decide))
            rw [hi, q] at this
            exact this rfl
          have C := all1_in es (by have := HN.out; omega) H2 (fun i e h => by simp [List.getD_eq_getElem?_getD, h]) (1 - 1) W1 Bs2 v3 (fun i => i = nb) hj1 (kB2.old b1) ((rowA2.mono (fun _ _ => trivial)).onl (F := fun _ => False) (Onl.ofBelow b1) (fun _ _ q => q)) HX1
          refine C.mono ?_
          rintro e W2 ⟨hv, ⟨U', j2, o2, u2⟩ | ⟨k2, U', hk2, j2, o2, u2⟩⟩
          · exact ⟨hv, .inl ⟨j2.lp, ⟨_, j2.lp.1⟩, j2.ob, (Onl.ofBelow b1).trans o2⟩⟩
          · exact j2.elim
        case stop2 =>
          rintro c W2 o q
          exact q.elim
        case done2 =>
          rintro W12 o2 ⟨⟨r3, l3⟩, kn12, oN⟩ dd2 dl2
          have hsz2 := oN.size
          have ob2 : Onl (fun i => i = w10.heap.size + 1) W12 (W12.putObj (w10.heap.size + 1) o2) := put_onl _
          obtain ⟨W13, hW13⟩ : ∃ W13, W13 = W12.putObj (w10.heap.size + 1) o2 := ⟨_, rfl⟩
          rw [← hW13] at ob2 ⊢
          have hnb := HNB.out
          have h7s := H7S.out
          have b810 : Below W8.heap.size W8 w10 := HB9.out.trans (bA2.mono HB9.out.size)
          have hs10 := b810.size
          have ed2 : W13.heap[w10.heap.size]? = some (.deferred (some [])) := (ob2.block _ (by omega) (by omega)).trans dd2
          have e10 : w10.heap[w7.heap.size]? = some (.deferred (some [])) := (b810.block _ h7s).trans HED.out
          have e12 : W12.heap[w7.heap.size]? = some (.deferred (some [])) := (oN.block _ (by omega) (by omega)).trans e10
          have ed1 : W13.heap[w7.heap.size]? = some (.deferred (some [])) := (ob2.block _ (by omega) (by omega)).trans e12
          have hxl := HKX.out.lt
          have kx12 := (HKX.out.old b810).onl oN (by omega)
          have kx13 := kx12.onl ob2 (fun q => ob_loop kx12 l3 rfl q)
          have rg12 := (HR8.out.onl (F := fun _ => False) (Onl.ofBelow b810) (fun _ _ q => q)).onl oN (fun g hg z => by have := HR8.out.lt g hg; omega)
          have rg13 := rg12.onl ob2 (fun g hg z => Row.noLoop rg12 l3 rfl (by rw [← z]; exact hg))
          have rw12 := (HW8.out.onl (F := fun _ => False) (Onl.ofBelow b810) (fun _ _ q => q)).onl oN (fun g hg z => by have := HW8.out.lt g hg; omega)
          have rw13 := rw12.onl ob2 (fun g hg z => Row.noLoop rw12 l3 rfl (by rw [← z]; exact hg))
          have kn13 := kn12.onl ob2 (fun q => ob_loop kn12 l3 rfl q)
          have B10 : Below w5.heap.size w5 w10 := HB8.out.trans (b810.mono HB8.out.size)
          have s8 := HB8.out.size
          have B13 : Below w5.heap.size w5 W13 := Below.onl (Below.onl B10 oN (fun i q => by omega) (Nat.le_refl _)) ob2 (fun i q => by omega) (Nat.le_refl _)
          obtain ⟨ga, gc, hgv, rdG, _⟩ := rd_ecells rg13
          subst hgv
          rw [← hL] at rw13
          obtain ⟨wa, wc, hwv, rdW, _⟩ := rd_ecells rw13
          have hnk := HNK.out
          rw [← hL] at hnk
          rw [← hnk] at hwv
          injection hwv with ew1 _ ew3
          subst ew1 ew3
          have x0 := kx13.cell 0
          have n0 := kn13.cell 0
          simp only [List.getElem?_cons_zero] at x0 n0
          rw [← HN.out] at n0
          rw [← hnk] at x0
          have CSm : ∀ W, Below W13.heap.size W13 W → Calls Tryz.prog 18 #[.slice va nk vc, .slice ga nk gc] W fun e w' => e = .returned (.bool true) ∧ Below W.heap.size W w' := fun W b => by
            have := sameEn_any va vc (L.take m) ga gc (L.take m) W (rdW.below b) (rdG.below b) (by simp; omega)
            rw [decide_eq_true rfl, ← hnk] at this
            exact this
          have HCS := hide CSm
          have HED1 := hide ed1
          have HED2 := hide ed2
          have HKX13 := hide kx13
          have HKN13 := hide kn13
          have HB13 := hide B13
          have HC1 := hide (CSm W13 (Below.refl _ _))
          have hkk : ((k : Int) != (k : Int)) = false := by simp
          have H710 : Hid (w7.heap.size < w10.heap.size) := hide (by omega)
          have H5s : Hid (w5.heap.size ≤ w7.heap.size) := hide (by have := HBX.out; have := k7.lt; omega)
          clear hsz2 ob2 hW13 hnb h7s b810 hs10 ed2 e10 e12 ed1 hxl kx12 kx13 rg12 rg13 rw12 rw13 kn13 B10 s8 B13 rdG rdW CSm kn12 oN dd2 dl2 l3 r3 hnk
          gi_wp2_with fail
          refine ⟨trivial, (callsIn_wide.2 HC1.out).mono ?_⟩
          rintro e w14 ⟨rfl, b14⟩
          have n1 := (HKN13.out.old b14).cell 0
          have y1 := (HKX13.out.old b14).cell 0
          simp only [List.getElem?_cons_zero] at n1 y1
          rw [← HN.out] at n1
          have hnkL : nk = (L.take m).length := by have := HNK.out; rw [← hL] at this; exact this
          rw [← hnkL] at y1
          have HC2 := hide (HCS.out w14 b14)
          have HB14 := hide b14
          clear b14 hnkL
          by_cases hid2 : id ≤ 10000
          · have hdi : decide ((id : Int) ≤ 10000) = true := decide_eq_true (by omega)
            have hkk2 : ((k : Int) == (k : Int)) = true := by simp
            gi_wp2_with fail
            refine ⟨trivial, (callsIn_wide.2 HC2.out).mono ?_⟩
            rintro e w15 ⟨rfl, b15⟩
            have HB15 := hide (HB14.out.trans (b15.mono HB14.out.size))
            clear b15
            gi_wp2
            have e2 := (HB15.out.block _ (Array.getElem?_eq_some_iff.1 HED2.out).1).trans HED2.out
            have e1 := (HB15.out.block _ (Array.getElem?_eq_some_iff.1 HED1.out).1).trans HED1.out
            have bw := HB5.out.trans ((HB13.out.trans (HB15.out.mono HB13.out.size)).mono HB5.out.size)
            exact fin_rg e2 e1 H710.out rfl bw (by have := H5s.out; have := HB5.out.size; omega)
          · have hdi : decide ((id : Int) ≤ 10000) = false := decide_eq_false (by omega)
            have hTl : T5.length < id := by have := HT5.out; omega
            have hT16 : T5.length ≤ 16000 := by have := HT5.out; omega
            have ts : ∀ W, Below W13.heap.size W13 W → TSw w3 W s O5 T5 (1 + 23 * es.length) := fun W b => HP5.out.below (HB13.out.trans (b.mono HB13.out.size))
            have HTSX := hide ts
            have HC4 := hide (tlistnone_any (ts w14 HB14.out) hT16 HTX.out id hTl hid)
            have HTL := hide (And.intro hTl hT16)
            clear ts hTl hT16
            gi_wp2_with fail
            refine ⟨trivial, (callsIn_wide.2 HC4.out).mono ?_⟩
            rintro e w15 ⟨rfl, b15⟩
            have HB15 := hide (HB14.out.trans (b15.mono HB14.out.size))
            have HC5' := hide (tgetnone_any (HTSX.out w15 HB15.out) HTL.out.2 HTX.out id HTL.out.1 hid lo)
            clear b15 HC4
            gi_wp2_with fail
            refine ⟨trivial, (callsIn_wide.2 HC5'.out).mono ?_⟩
            rintro e w16 ⟨rfl, b16⟩
            have HB16 := hide (HB15.out.trans (b16.mono HB15.out.size))
            have HC6 := hide (tleavesnone_any (HTSX.out w16 HB16.out) HTL.out.2 HTX.out id HTL.out.1 hid)
            clear b16 HC5'
            gi_wp2_with fail
            refine ⟨trivial, (callsIn_wide.2 HC6.out).mono ?_⟩
            rintro e w17 ⟨rfl, b17⟩
            have HB17 := hide (HB16.out.trans (b17.mono HB16.out.size))
            have HC7 := hide (teditnone_any (HTSX.out w17 HB17.out) HTL.out.2 HTX.out id HTL.out.1 hid)
            clear b17 HC6
            gi_wp2_with fail
            refine ⟨trivial, (callsIn_wide.2 HC7.out).mono ?_⟩
            rintro e w18 ⟨rfl, b18⟩
            have HB18 := hide (HB17.out.trans (b18.mono HB17.out.size))
            clear b18 HC7
            gi_wp2
            have e2 := (HB18.out.block _ (Array.getElem?_eq_some_iff.1 HED2.out).1).trans HED2.out
            have e1 := (HB18.out.block _ (Array.getElem?_eq_some_iff.1 HED1.out).1).trans HED1.out
            have bw := HB5.out.trans ((HB13.out.trans (HB18.out.mono HB13.out.size)).mono HB5.out.size)
            exact fin_rg e2 e1 H710.out rfl bw (by have := H5s.out; have := HB5.out.size; omega)
end Go.Proofs.YtlghehidhgiilaaGreat
