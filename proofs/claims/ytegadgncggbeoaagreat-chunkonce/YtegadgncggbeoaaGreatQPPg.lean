/- The program's Pager in memory, and its small functions. Over the translation. -/
import Derived.Test.YtegadgncggbeoaaGreatQPWr
import Derived.Test.YtegadgncggbeoaaGreatQGEg
import Derived.Test.YtegadgncggbeoaaGreatQENw
namespace Apo
open Go Go.RowKit

/-- a pager as the program keeps it: the epoch, the root, what is free now, behind an Abort, behind a Commit -/
structure Cg where
  e : Nat
  r : Spn
  f : Fr
  w : Fr
  n : Fr
  ended : Bool
end Apo
namespace Go.Proofs.YtegadgncggbeoaaGreat
open Go.RowKit Apo

/-- what a pager has ahead of begin: its device, what is free -/
structure CPb (Od Of : Nat → Prop) (w : World) (p d pf : Nat) (pw pn : Option Addr) (e : Nat) (r : Spn) (f : Fr) (ended : Bool) (st : Sd) : Prop where
  ob : Ob w p 125 [.pointer (some ⟨d, 0, none⟩), .int .u64 e, .int .i64 r.a, .int .i64 r.k, .pointer (some ⟨pf, 0, none⟩), .pointer pw, .pointer pn, .bool ended]
  dv : CDev Od w d st
  fr : CFr Of w pf f
  a1 : ∀ i, Od i → ¬ Of i ∧ i ≠ p
  a2 : ∀ i, Of i → i ≠ p
  l1 : ∀ i, Od i → i < w.heap.size
  l2 : ∀ i, Of i → i < w.heap.size
  rok : Spn.Ok r
/-- the whole of it -/
structure CPd (Od Of Ow On : Nat → Prop) (w : World) (p d pf pw pn : Nat) (c : Cg) (st : Sd) : Prop where
  b : CPb Od Of w p d pf (some ⟨pw, 0, none⟩) (some ⟨pn, 0, none⟩) c.e c.r c.f c.ended st
  wr : CFr Ow w pw c.w
  nr : CFr On w pn c.n
  a3 : ∀ i, Ow i → ¬ Od i ∧ ¬ Of i ∧ i ≠ p
  a4 : ∀ i, On i → ¬ Od i ∧ ¬ Of i ∧ ¬ Ow i ∧ i ≠ p
  l3 : ∀ i, Ow i → i < w.heap.size
  l4 : ∀ i, On i → i < w.heap.size
/-- all its blocks are U's -/
def CPx (U : Nat → Prop) (w : World) (p d : Nat) (c : Cg) (st : Sd) : Prop := ∃ Od Of Ow On pf pw pn, CPd Od Of Ow On w p d pf pw pn c st ∧ ∀ i, Od i ∨ Of i ∨ Ow i ∨ On i ∨ i = p → U i
section
variable {Od Of Ow On F U : Nat → Prop} {w w' : World} {p d pf : Nat} {e : Nat} {r : Spn} {f : Fr} {ended : Bool} {st : Sd} {c : Cg}
theorem CPb.onl {pw pn : Option Addr} (h : CPb Od Of w p d pf pw pn e r f ended st) (o : Onl F w w') (h1 : ∀ i, Od i → ¬ F i) (h2 : ∀ i, Of i → ¬ F i) (h3 : ¬ F p) : CPb Od Of w' p d pf pw pn e r f ended st :=
  ⟨h.ob.onl o h3, h.dv.onl o h1, h.fr.onl o h2, h.a1, h.a2, fun i q => Nat.lt_of_lt_of_le (h.l1 i q) o.size, fun i q => Nat.lt_of_lt_of_le (h.l2 i q) o.size, h.rok⟩
theorem CPb.below {pw pn : Option Addr} (h : CPb Od Of w p d pf pw pn e r f ended st) (b : Below w.heap.size w w') : CPb Od Of w' p d pf pw pn e r f ended st :=
  h.onl (F := fun _ => False) (Onl.ofBelow b) (fun _ _ q => q) (fun _ _ q => q) id
theorem CPd.onl {pw pn : Nat} (h : CPd Od Of Ow On w p d pf pw pn c st) (o : Onl F w w') (h1 : ∀ i, Od i ∨ Of i ∨ Ow i ∨ On i ∨ i = p → ¬ F i) : CPd Od Of Ow On w' p d pf pw pn c st :=
  ⟨h.b.onl o (fun i q => h1 i (.inl q)) (fun i q => h1 i (.inr (.inl q))) (h1 p (.inr (.inr (.inr (.inr rfl))))), h.wr.onl o (fun i q => h1 i (.inr (.inr (.inl q)))), h.nr.onl o (fun i q => h1 i (.inr (.inr (.inr (.inl q))))), h.a3, h.a4, fun i q => Nat.lt_of_lt_of_le (h.l3 i q) o.size, fun i q => Nat.lt_of_lt_of_le (h.l4 i q) o.size⟩
theorem CPd.below {pw pn : Nat} (h : CPd Od Of Ow On w p d pf pw pn c st) (b : Below w.heap.size w w') : CPd Od Of Ow On w' p d pf pw pn c st := h.onl (F := fun _ => False) (Onl.ofBelow b) (fun _ _ q => q)
theorem CPd.lt {pw pn : Nat} (h : CPd Od Of Ow On w p d pf pw pn c st) : ∀ i, Od i ∨ Of i ∨ Ow i ∨ On i ∨ i = p → i < w.heap.size := by
  rintro i (q | q | q | q | q)
  · exact h.b.l1 i q
  · exact h.b.l2 i q
  · exact h.l3 i q
  · exact h.l4 i q
  · rw [q]; exact h.b.ob.lt
theorem CPd.x {pw pn : Nat} (h : CPd Od Of Ow On w p d pf pw pn c st) (hU : ∀ i, Od i ∨ Of i ∨ Ow i ∨ On i ∨ i = p → U i) : CPx U w p d c st := ⟨_, _, _, _, _, _, _, h, hU⟩
theorem CPx.below (h : CPx U w p d c st) (b : Below w.heap.size w w') : CPx U w' p d c st := by
  obtain ⟨_, _, _, _, _, _, _, h, hU⟩ := h
  exact ⟨_, _, _, _, _, _, _, h.below b, hU⟩
theorem CPx.mono {U' : Nat → Prop} (h : CPx U w p d c st) (hU : ∀ i, U i → U' i) : CPx U' w p d c st := by
  obtain ⟨_, _, _, _, _, _, _, h, h1⟩ := h
  exact ⟨_, _, _, _, _, _, _, h, fun i q => hU i (h1 i q)⟩
end

set_option maxRecDepth 100000 in
theorem cpages_any {O : Nat → Prop} {w : World} {p : Nat} {st : Sd} (h : CDev O w p st) :
    Calls Tryz.prog 63 #[.pointer (some ⟨p, 0, none⟩)] w fun e w' => e = .returned (.int .i64 ((st.S.length / 4 : Nat) : Int)) ∧ w = w' := by
  have hs := h.ok.size
  have C := csize_any h
  clear h
  generalize st.S.length = n at *
  go_enter Tryz.func63, Tryz.ntmps63
  go_wp2_with fail
  refine C.mono ?_
  rintro e wx ⟨rfl, rfl⟩
  go_wp2
  go_ret
  refine ⟨?_, rfl⟩
  show Ending.returned (.int .i64 ((n : Int) / 4)) = _
  simp

set_option maxRecDepth 100000 in
theorem cgoes_ob {w : World} {p d : Nat} {cs : List Value} {b : Bool} (h : Ob w p 125 cs) (h0 : cs[0]? = some (.pointer (some ⟨d, 0, none⟩))) (h7 : cs[7]? = some (.bool b)) :
    Calls Tryz.prog 71 #[.pointer (some ⟨p, 0, none⟩)] w fun e w' => e = .returned (.bool (!b)) ∧ w = w' := by
  have c0 := (h.cell 0).trans h0
  have c7 := (h.cell 7).trans h7
  clear h h0 h7
  go_enter Tryz.func71, Tryz.ntmps71
  go_wp2
  go_ret
  exact ⟨rfl, rfl⟩
set_option maxRecDepth 100000 in
theorem cends_ob {w : World} {p : Nat} {cs : List Value} (h : Ob w p 125 cs) (hl : 7 < cs.length) (er : Int) :
    Calls Tryz.prog 75 #[.pointer (some ⟨p, 0, none⟩), .int .i64 er] w fun e w' => e = .returned (.int .i64 er) ∧ w' = w.setCell ⟨p, 7, none⟩ (.bool (er != 0)) := by
  have c7 := h.cell 7
  have f7 := h.frozen 7
  rw [List.getElem?_eq_getElem hl] at c7
  generalize cs[7] = u at c7
  clear h
  go_enter Tryz.func75, Tryz.ntmps75
  go_wp2
  go_ret
  exact ⟨rfl, rfl⟩

set_option maxRecDepth 100000 in
set_option maxHeartbeats 2000000 in
theorem cbegin_any {Od Of : Nat → Prop} {w : World} {p d pf : Nat} {pw pn : Option Addr} {e : Nat} {r : Spn} {f : Fr} {ended : Bool} {st : Sd} (h : CPb Od Of w p d pf pw pn e r f ended st) :
    Calls Tryz.prog 65 #[.pointer (some ⟨p, 0, none⟩)] w fun en w' => en = .returned (.tuple #[]) ∧ (∃ Ow On pw pn, CPd Od Of Ow On w' p d pf pw pn ⟨e, r, f, f, (f.give r).2, ended⟩ st ∧ (∀ i, Ow i ∨ On i → w.heap.size ≤ i)) ∧ Onl (fun i => i = p) w w' := by
  have hp := h.ob.lt
  have C1 := xcopy_any (h.below ((Below.refl _ w).drew)).fr
  have c2 := h.ob.cell 2
  have c3 := h.ob.cell 3
  have c4 := h.ob.cell 4
  have c5 := h.ob.cell 5
  have c6 := h.ob.cell 6
  have f5 := h.ob.frozen 5
  have f6 := h.ob.frozen 6
  simp only [List.getElem?_cons_zero, List.getElem?_cons_succ] at c2 c3 c4 c5 c6
  have H := hide h
  have HC1 := hide C1
  clear h C1
  go_enter Tryz.func65, Tryz.ntmps65
  go_wp2
  go_region_held3 (fun W' => W'.cell? ⟨p, 4, none⟩ = some (.pointer (some ⟨pf, 0, none⟩))) (go_keep) (first
    | (go_at_call 92; refine HC1.out.mono ?_; rintro en w1 ⟨q1, rfl, k1, b1⟩; have T1 := H.out.below ((Below.refl _ w).drew.trans b1); have C2 := xcopy_any T1.fr; have y4 := T1.ob.cell 4; have y5 := T1.ob.cell 5; have y6 := T1.ob.cell 6; have g5 := T1.ob.frozen 5; have g6 := T1.ob.frozen 6; simp only [List.getElem?_cons_zero, List.getElem?_cons_succ] at y4 y5 y6; have HC2 := hide C2; have HT1 := hide T1; have HK1 := hide k1; have HB1 := hide b1; clear C2 T1 k1 b1)
    | (go_at_call 92; refine HC2.out.mono ?_; rintro en w2 ⟨q2, rfl, k2, b2⟩; have T2 := HT1.out.below b2; have x4 := T2.ob.cell 4; have x5 := T2.ob.cell 5; have x6 := T2.ob.cell 6; have e5 := T2.ob.frozen 5; have e6 := T2.ob.frozen 6; simp only [List.getElem?_cons_zero, List.getElem?_cons_succ] at x4 x5 x6; have s5 := (T2.ob.set 5 (.pointer (some ⟨q1, 0, none⟩))).cell 4; have s6 := ((T2.ob.set 5 (.pointer (some ⟨q1, 0, none⟩))).set 6 (.pointer (some ⟨q2, 0, none⟩))).cell 4; have s7 := (T2.ob.set 6 (.pointer (some ⟨q2, 0, none⟩))).cell 4; simp only [List.set_cons_succ, List.set_cons_zero, List.getElem?_cons_zero, List.getElem?_cons_succ] at s5 s6 s7; have HT2 := hide T2; have HK2 := hide k2; have HB2 := hide b2; clear T2 k2 b2))
  have k3 : Ob ((w2.setCell ⟨p, 5, none⟩ (.pointer (some ⟨q1, 0, none⟩))).setCell ⟨p, 6, none⟩ (.pointer (some ⟨q2, 0, none⟩))) p 125 [.pointer (some ⟨d, 0, none⟩), .int .u64 e, .int .i64 r.a, .int .i64 r.k, .pointer (some ⟨pf, 0, none⟩), .pointer (some ⟨q1, 0, none⟩), .pointer (some ⟨q2, 0, none⟩), .bool ended] := (HT2.out.ob.set 5 (.pointer (some ⟨q1, 0, none⟩))).set 6 (.pointer (some ⟨q2, 0, none⟩))
  have o3 : Onl (fun i => i = p) w2 ((w2.setCell ⟨p, 5, none⟩ (.pointer (some ⟨q1, 0, none⟩))).setCell ⟨p, 6, none⟩ (.pointer (some ⟨q2, 0, none⟩))) := ((Onl.refl (fun i => i = p) w2).set (p := p) (.inl rfl) _).set (p := p) (.inl rfl) _
  have s2 : w.heap.size ≤ w1.heap.size := HB1.out.size
  have s3 : w1.heap.size ≤ w2.heap.size := HB2.out.size
  have s4 : ((w2.setCell ⟨p, 5, none⟩ (.pointer (some ⟨q1, 0, none⟩))).setCell ⟨p, 6, none⟩ (.pointer (some ⟨q2, 0, none⟩))).heap.size = w2.heap.size := by simp [World.setCell]
  have O3 : Onl (fun i => i = p) w ((w2.setCell ⟨p, 5, none⟩ (.pointer (some ⟨q1, 0, none⟩))).setCell ⟨p, 6, none⟩ (.pointer (some ⟨q2, 0, none⟩))) := (((Onl.refl _ w).drew.trans (Onl.ofBelow HB1.out)).trans (Onl.ofBelow HB2.out)).trans o3
  have d3 := HT2.out.dv.onl o3 (fun i q => (HT2.out.a1 i q).2)
  have r3 := HT2.out.fr.onl o3 (fun i q => HT2.out.a2 i q)
  have u1 := (HK1.out.below HB2.out).onl o3 (fun i (q : w.drew.heap.size ≤ i ∧ i < w1.heap.size) (z : i = p) => by have h1 : w.drew.heap.size = w.heap.size := rfl; omega)
  have u2 := HK2.out.onl o3 (fun i (q : w1.heap.size ≤ i ∧ i < w2.heap.size) (z : i = p) => by omega)
  generalize (w2.setCell ⟨p, 5, none⟩ (.pointer (some ⟨q1, 0, none⟩))).setCell ⟨p, 6, none⟩ (.pointer (some ⟨q2, 0, none⟩)) = W3 at *
  have C4 := cgive_any (w := W3.drew) (u2.below ((Below.refl _ W3).drew)) (fun i (q : w1.heap.size ≤ i ∧ i < w2.heap.size) => by show i < W3.heap.size; omega) r H.out.rok
  have v2 := k3.cell 2
  have v3 := k3.cell 3
  have v6 := k3.cell 6
  simp only [List.getElem?_cons_zero, List.getElem?_cons_succ] at v2 v3 v6
  have HC4 := hide C4
  have HK3 := hide k3
  have HD3 := hide d3
  have HR3 := hide r3
  have HU1 := hide u1
  have HO3 := hide O3
  clear C4 k3 o3 O3 d3 r3 u1 u2 x4 x5 x6 y4 y5 y6 g5 g6 e5 e6 s5 s6 s7 c2 c3 c4 c5 c6 f5 f6 HC1 HC2
  go_wp2
  go_region_held3 (fun W' => W'.cell? ⟨p, 2, none⟩ = some (.int .i64 r.a) ∧ W'.cell? ⟨p, 3, none⟩ = some (.int .i64 r.k) ∧ W'.cell? ⟨p, 6, none⟩ = some (.pointer (some ⟨q2, 0, none⟩))) (go_keep) (first
    | (go_at_call 97; refine HC4.out.mono ?_; rintro en w4 ⟨rfl, k4, o4⟩; have m4 : Ob w4 p 125 _ := Ob.onl (w := W3.drew) HK3.out o4 (fun q => by omega); have n2 := m4.cell 2; have n3 := m4.cell 3; have n6 := m4.cell 6; simp only [List.getElem?_cons_zero, List.getElem?_cons_succ] at n2 n3 n6; have HM4 := hide m4; have HK4 := hide k4; have HO4 := hide o4; clear m4 k4 o4))
  have z4 : W3.heap.size ≤ w4.heap.size := HO4.out.size
  have OO : Onl (fun i => w1.heap.size ≤ i ∧ i < w2.heap.size) W3 w4 := (Onl.refl _ W3).drew.trans HO4.out
  have l1 := H.out.l1
  have l2 := H.out.l2
  have HA : Hid ((∃ Ow On pw pn, CPd Od Of Ow On w4 p d pf pw pn ⟨e, r, f, f, (f.give r).2, ended⟩ st ∧ (∀ i, Ow i ∨ On i → w.heap.size ≤ i)) ∧ Onl (fun i => i = p) w w4) := by
    refine hide ⟨⟨_, _, q1, q2, ⟨⟨HM4.out, HD3.out.onl OO (fun i q z => by have := l1 i q; omega), HR3.out.onl OO (fun i q z => by have := l2 i q; omega), H.out.a1, H.out.a2, fun i q => by have := l1 i q; omega, fun i q => by have := l2 i q; omega, H.out.rok⟩, HU1.out.onl OO (fun i q z => by have := q.2; omega), HK4.out, ?_, ?_, ?_, ?_⟩, ?_⟩, ?_⟩
    · intro i q
      have q1 : w.heap.size ≤ i := q.1
      exact ⟨fun z => by have := l1 i z; omega, fun z => by have := l2 i z; omega, by omega⟩
    · intro i q
      have q1 : w1.heap.size ≤ i := q.elim (fun z => z.1) (fun z => by have z1 : W3.heap.size ≤ i := z.1; omega)
      exact ⟨fun z => by have := l1 i z; omega, fun z => by have := l2 i z; omega, fun z => by have := z.2; omega, by omega⟩
    · intro i q
      have := q.2
      omega
    · intro i q
      exact q.elim (fun z => by omega) (fun z => z.2)
    · rintro i (q | q)
      · exact q.1
      · exact q.elim (fun z => by omega) (fun z => by have z1 : W3.heap.size ≤ i := z.1; omega)
    · exact HO3.out.more OO (fun i q => .inr (by omega))
  go_wp2
  go_end0
  exact ⟨rfl, HA.out⟩
end Go.Proofs.YtegadgncggbeoaaGreat
