/- What PagerKeeps meets, as it is meant, and its frames. Over the translation. -/
import Derived.Test.YtcmblfhghebjjaaPLw
import Derived.Test.YtcmblfhghebjjaaPIn
import Derived.Deep.AppendLies
namespace Apo
open Go Go.RowKit

theorem need_small {n : Nat} (h : n ≤ 500) : needP (n : Int) ≠ 0 ∧ needP (n : Int) ≤ 5 := by
  unfold needP
  rw [if_neg (by omega)]
  split <;> omega
/-- the transaction behind a first Commit -/
theorem second_tx {b : List Int} {n : Int} (h8 : 8 ≤ lenOf n) (hb : ∀ z ∈ b, 0 ≤ z ∧ z ≤ 255) (hn : needP b.length ≠ 0) (hr : 1 + needP b.length ≤ lenOf n / 4) (c : Cg) (hc : c = ⟨1, ⟨0, 0⟩, freeOf (newSd n).format.2, freeOf (newSd n).format.2, ((freeOf (newSd n).format.2).give ⟨0, 0⟩).2, false⟩) :
    (c.commit (newSd n).format.2 b).1 = 0 ∧ Tx (c.commit (newSd n).format.2 b).2.2 (nextS ⟨1, 0, 0, 0⟩ 1 b) (c.commit (newSd n).format.2 b).2.1 (1 + needP b.length) (lenOf n / 4) [] ∧ rootText (c.commit (newSd n).format.2 b).2.2.S (nextS ⟨1, 0, 0, 0⟩ 1 b) = b ∧ (c.commit (newSd n).format.2 b).2.2.C = [] := by
  subst hc
  have T := first_tx h8
  obtain ⟨d1, d2, d3, d4, d5, d6, d7⟩ := T.done (b := b) (by decide) (alive_format h8) hb hn hr
  refine ⟨d1, ⟨d2, by rw [d7]; rfl, by rw [d7], ?_, by rw [d6]; exact T.hN, Nat.le_refl _, hr, by simp, List.Pairwise.nil⟩, d5, d3.2.1⟩
  rw [d7]
  show Suf ((((freeOf (newSd n).format.2).give ⟨0, 0⟩).2).claim ⟨(1 : Nat), needP b.length⟩).2 _ _
  rw [give_zero]
  unfold Fr.claim
  rw [if_pos (T.suf.all (by omega) hr)]
  exact T.suf.put hr
theorem Tx.armed {st : Sd} {s : Sup} {c : Cg} {m N : Nat} {xs : List (Spn × List Int)} (h : Tx st s c m N xs) {k : Int} (hk : k ≤ 9223372036854775807) : Tx (st.armed k) s c m N xs := ⟨h.du.armed hk, h.e, h.en, h.suf, h.hN, h.rt, h.hm, h.tx, h.ap⟩
/-- where the law stands amid the texts: j of them were put (spans R), or the device has died -/
def Mid (st : Sd) (s : Sup) (c : Cg) (a : List Int) (bs : List (List Int)) (R : List (Nat × Nat)) : Prop :=
  rootText st.S s = a ∧ Du st s ∧ c.e = s.e ∧ st.S.length = 400 ∧
  ((∃ m xs, Tx st s c m 100 xs ∧ xs.map (fun y => y.2) = bs ∧ xs.map (fun y => y.1) = R.map (fun x => (⟨(x.1 : Int), (x.2 : Int)⟩ : Spn)) ∧ m ≤ 6 + 5 * bs.length) ∨ c.ended = true)
theorem Mid.put {st : Sd} {s : Sup} {c : Cg} {a : List Int} {bs : List (List Int)} {R : List (Nat × Nat)} {b : List Int} (h : Mid st s c a bs R) (hb : ∀ z ∈ b, 0 ≤ z ∧ z ≤ 255) (hl : b.length ≤ 500) (hk : bs.length ≤ 4) :
    ∃ x : Nat × Nat, (c.put st b).1.1 = ⟨(x.1 : Int), (x.2 : Int)⟩ ∧ Mid (c.put st b).2.2 s (c.put st b).2.1 a (bs ++ [b]) (R ++ [x]) := by
  obtain ⟨h1, h2, h3, h4, h5⟩ := h
  obtain ⟨nd1, nd2⟩ := need_small hl
  rcases h5 with ⟨m, xs, T, e1, e2, hm⟩ | h5
  · rcases T.put hb nd1 (by omega) with ⟨p1, p2, p3, p4, p5, p6⟩ | ⟨p1, p2, p3, p4, p5⟩
    · refine ⟨(m, needP b.length), by rw [p1], by rw [p5]; exact h1, p2.du, p2.e, by rw [p5]; exact h4, .inl ⟨_, _, p2, by simp [e1], by simp [e2], by simp; omega⟩⟩
    · have hq : (c.put st b).1.1 = ⟨0, 0⟩ := by
        rw [T.put_is nd1 (by omega)] at p1 ⊢
        split
        · next q => rw [if_pos q] at p1; exact absurd rfl p1
        · rfl
      exact ⟨(0, 0), by rw [hq]; rfl, by rw [p4]; exact h1, p3, by rw [p5]; exact h3, by rw [p4]; exact h4, .inr p2⟩
  · rw [put_ended h5]
    exact ⟨(0, 0), rfl, h1, h2, h3, h4, .inr h5⟩
/-- what an opening behind the crash finds -/
def Fin (stc : Sd) (E : Int) (a b : List Int) (bs : List (List Int)) (R : List (Nat × Nat)) (sX : Sup) (t : List Int) : Prop :=
  Du stc sX ∧ sX.st ≠ 0 ∧ rootText stc.S sX = t ∧ ((sX.e = 2 ∧ E ≠ 0 ∧ t = a) ∨ (sX.e = 3 ∧ t = b ∧ ∃ xs : List (Spn × List Int), xs.map (fun y => y.2) = bs ∧ xs.map (fun y => y.1) = R.map (fun x => (⟨(x.1 : Int), (x.2 : Int)⟩ : Spn)) ∧ xs.Pairwise (fun y z => y.1.a + y.1.k ≤ z.1.a) ∧ ∀ y ∈ xs, TxY stc.S 1 sX.st y))
theorem Mid.fin {st : Sd} {s : Sup} {c : Cg} {a : List Int} {bs : List (List Int)} {R : List (Nat × Nat)} {b : List Int} (h : Mid st s c a bs R) (hs : s.e = 2) (hs1 : s.st ≠ 0) (hb : ∀ z ∈ b, 0 ≤ z ∧ z ≤ 255) (hl : b.length ≤ 500) (hk : bs.length ≤ 4) (f : Fat) :
    ∃ sX t, Fin ((c.commit st b).2.2.crashed f) (c.commit st b).1 a b bs R sX t := by
  obtain ⟨h1, h2, h3, h4, h5⟩ := h
  obtain ⟨nd1, nd2⟩ := need_small hl
  rcases h5 with ⟨m, xs, T, e1, e2, hm⟩ | h5
  · rcases T.crash (b := b) (by omega) hb nd1 (by omega) f with ⟨q1, q2, q3⟩ | ⟨q1, q2⟩
    · exact ⟨s, a, q1, hs1, q3.trans h1, .inl ⟨hs, q2, rfl⟩⟩
    · have hm1 := T.suf.m1
      have ht : rootText ((c.commit st b).2.2.crashed f).S (nextS s m b) = b := by
        obtain ⟨A, k, g1, g2, g3, g4, g5, g6, g7, g8⟩ := q2 (⟨m, needP b.length⟩, b) (by simp)
        simp only [Spn.mk.injEq] at g1
        have hA : (A : Int) = m := g1.1.symm
        have hk : (k : Int) = needP b.length := g1.2.symm
        have hk' : k = needP b.length := by omega
        unfold rootText
        rw [if_neg (by show ¬ (m = 0 ∧ _); omega)]
        show (rdTo (plainS _) (m : Int) (needP b.length)).1.take b.length = b
        rw [← hA, ← hk']
        exact g8
      refine ⟨nextS s m b, b, q1, by show m ≠ 0; omega, ht, .inr ⟨by show s.e + 1 = 3; omega, rfl, xs, e1, e2, T.ap, fun y hy => ?_⟩⟩
      obtain ⟨A, k, g1, g2, g3, g4, g5, g6, g7⟩ := q2 y (by simp [hy])
      obtain ⟨A', k', g1', g2', _, _, _, g6', _⟩ := T.tx y hy
      rw [g1] at g1'
      simp only [Spn.mk.injEq] at g1'
      exact ⟨A, k, g1, g2, g3, g5, g5, by show A + k ≤ m; omega, g7⟩
  · rw [commit_ended h5]
    exact ⟨s, a, h2.crash f, hs1, by rw [rootText_crash h2 f]; exact h1, .inl ⟨hs, (by show (40 : Int) ≠ 0; decide), rfl⟩⟩
/-- spans that may be claimed, one behind the other -/
def Fol (c : Cg) (ys : List (Spn × List Int)) : Prop := c.ended = false ∧ ∀ y ∈ ys, c.f.all y.1 true = true ∧ c.w.all y.1 true = true ∧ c.n.all y.1 true = true
theorem all_put {f : Fr} {y z : Spn} (h : f.all z true = true) (hy : 0 ≤ y.a) (hyz : y.a + y.k ≤ z.a) (_ : 0 ≤ y.k) : (f.put y false).all z true = true := by
  obtain ⟨h1, h2, h3, h4⟩ := all_iff.1 h
  refine all_iff.2 ⟨h1, h2, by rw [Fr.put_len]; exact h3, fun i q1 q2 => ?_⟩
  rw [put_at, if_neg (by omega)]
  exact h4 i q1 q2
theorem claim_yes {f : Fr} {y : Spn} (h : f.all y true = true) : f.claim y = (true, f.put y false) := by unfold Fr.claim; rw [if_pos h]
theorem Fol.claim {c : Cg} {y : Spn × List Int} {ys : List (Spn × List Int)} (h : Fol c (y :: ys)) (hp : (y :: ys).Pairwise (fun y z => y.1.a + y.1.k ≤ z.1.a)) (h0 : 0 ≤ y.1.a) (hk : 0 ≤ y.1.k) :
    (c.f.claim y.1).1 = true ∧ (c.w.claim y.1).1 = true ∧ (c.n.claim y.1).1 = true ∧ Fol { c with f := (c.f.claim y.1).2, w := (c.w.claim y.1).2, n := (c.n.claim y.1).2 } ys := by
  obtain ⟨a1, a2, a3⟩ := h.2 y (by simp)
  rw [claim_yes a1, claim_yes a2, claim_yes a3]
  refine ⟨rfl, rfl, rfl, h.1, fun z hz => ?_⟩
  have hyz := (List.pairwise_cons.1 hp).1 z hz
  obtain ⟨b1, b2, b3⟩ := h.2 z (by simp [hz])
  exact ⟨all_put b1 h0 hyz hk, all_put b2 h0 hyz hk, all_put b3 h0 hyz hk⟩
/-- what was just opened -/
theorem opened_fol {st : Sd} {s : Sup} (hd : Du st s) (h1 : s.st ≠ 0) {xs : List (Spn × List Int)} (hx : ∀ y ∈ xs, TxY st.S 1 s.st y) :
    Fol ⟨s.e, ⟨s.st, s.pg⟩, ((freeOf st).claim ⟨s.st, s.pg⟩).2, ((freeOf st).claim ⟨s.st, s.pg⟩).2, (((freeOf st).claim ⟨s.st, s.pg⟩).2.give ⟨s.st, s.pg⟩).2, false⟩ xs := by
  have hsz := hd.ok.size
  have hs := freeOf_suf st hsz
  rcases hd.root with ⟨r1, _⟩ | ⟨r1, r2, r3, r4, r5⟩
  · exact absurd r1 h1
  · refine ⟨rfl, fun y hy => ?_⟩
    obtain ⟨A, n, g1, g2, g3, g4, g5, g6, _⟩ := hx y hy
    have key : ∀ f : Fr, f.lo = 1 → f.L.length = st.S.length / 4 → (∀ i, i < s.st → f.L[i]? = (freeOf st).L[i]?) → f.all y.1 true = true := by
      intro f f1 f2 f3
      rw [g1]
      refine all_iff.2 ⟨by simp only; omega, by simp only [f1]; omega, by simp only [f2]; omega, fun i q1 q2 => ?_⟩
      simp only [Int.toNat_natCast] at q1 q2
      rw [f3 i (by omega)]
      exact (hs.at' i).2 ⟨by omega, by omega⟩
    have kcl : ∀ i, i < s.st → ((freeOf st).claim ⟨s.st, s.pg⟩).2.L[i]? = (freeOf st).L[i]? := by
      intro i hi
      unfold Fr.claim
      split
      · rw [put_at, if_neg (by simp only [Int.toNat_natCast]; omega)]
      · rfl
    have llo : ((freeOf st).claim ⟨s.st, s.pg⟩).2.lo = 1 := by unfold Fr.claim; split <;> rfl
    have lle : ((freeOf st).claim ⟨s.st, s.pg⟩).2.L.length = st.S.length / 4 := by
      unfold Fr.claim
      split
      · rw [Fr.put_len]; exact hs.len
      · exact hs.len
    refine ⟨key _ llo lle kcl, key _ llo lle kcl, key _ ?_ ?_ ?_⟩
    · rw [(give_len _ _).2]; exact llo
    · rw [(give_len _ _).1]; exact lle
    · intro i hi
      unfold Fr.give
      split
      · rw [put_at, if_neg (by simp only [Int.toNat_natCast]; omega)]
        exact kcl i hi
      · exact kcl i hi
/-- a text that is there is told -/
theorem text_told {st : Sd} (ok : OkS st) (hr : Rest st) {m : Nat} {y : Spn × List Int} (h : TxY st.S 1 m y) (hm : m ≤ st.S.length / 4) : st.rdText2 (firstP y.1.a) y.2.length = (y.2, 0) ∧ y.1.k = needP y.2.length ∧ 0 ≤ y.1.a := by
  obtain ⟨A, n, g1, g2, g3, g4, g5, g6, g7, g8⟩ := h
  have hsz := ok.size
  have hro := rdTo_rest hr (a := A) (n := n) (by omega) hsz
  rw [g1]
  refine ⟨?_, by rw [g2], by simp only; omega⟩
  have := rdText2_of ok (s := A) (n := n) (size := y.2.length) (by omega) g2 g3 (by rw [hro]; exact g7)
  rw [this, hro, g8]
end Apo
namespace Go.Proofs.Ytcmblfhghebjjaa
open Go.RowKit Apo Go.Deep
theorem own_onl {W W' : World} {F : Nat → Prop} {base e size n : Nat} {v : Value} {xs : List Value} (h : W.ownsRow base e size v n xs) (ho : Onl F W W') (hv : ∀ g, v.ownBlock = some g → ¬ F g) : W'.ownsRow base e size v n xs := by
  refine ⟨h.1, ?_⟩
  rcases h.2 with q | ⟨g, cap, cur, rfl, h1, h2, h3⟩
  · exact .inl q
  · exact .inr ⟨g, cap, cur, rfl, h1, (ho.block g (Array.getElem?_eq_some_iff.1 h2).1 (hv g rfl)).trans h2, h3⟩
theorem CPx.onl {U F : Nat → Prop} {w w' : World} {p d : Nat} {c : Cg} {st : Sd} (h : CPx U w p d c st) (o : Onl F w w') (hF : ∀ i, U i → ¬ F i) : CPx U w' p d c st := by
  obtain ⟨Od, Of, Ow, On, pf, pw, pn, h, h1⟩ := h
  exact ⟨Od, Of, Ow, On, pf, pw, pn, h.onl o (fun i q => hF i (h1 i q)), h1⟩
/-- a pager, and a row of spans that is the law's own -/
structure LwR (w W : World) (p d : Nat) (c : Cg) (st : Sd) (U : Nat → Prop) (v : Value) (R : List (Nat × Nat)) : Prop where
  l : LwP w W p d c st U
  r : W.ownsRow w.heap.size 39 2 v R.length (rcells R)
  a : ∀ g, v.ownBlock = some g → ¬ U g
section
variable {w W W' : World} {p d : Nat} {c c' : Cg} {st st' : Sd} {U : Nat → Prop} {v : Value} {R : List (Nat × Nat)}
theorem LwR.below (h : LwR w W p d c st U v R) (b : Below W.heap.size W W') : LwR w W' p d c st U v R := ⟨h.l.below b, own_old8 h.r b, h.a⟩
theorem LwR.turn (h : LwR w W p d c st U v R) (k : CPx (Gro U W W') W' p d c' st') (o : Onl U W W') : LwR w W' p d c' st' (Gro U W W') v R :=
  ⟨h.l.turn k o, own_onl h.r o h.a, fun g q z => z.elim (h.a g q) (fun z => by have := (h.r.lt g q).2; omega)⟩
end
/-- one span more -/
theorem LwR.more {w W : World} {p d : Nat} {c : Cg} {st : Sd} {U : Nat → Prop} {va : Option Addr} {vc : Nat} {R : List (Nat × Nat)} (h : LwR w W p d c st U (.slice va R.length vc) R) (x : Nat × Nat) (hR : R.length ≤ 100) :
    ∃ a' c' W', (Builtin.append_ #[37, 37] 37 #[.slice va R.length vc, .slice (some ⟨W.heap.size, 0, none⟩) 1 1]).run Try.prog (W.alloc (.cells #[.int .i64 x.1, .int .i64 x.2] 39)) = .ok (.slice a' (R ++ [x]).length c') W' ∧ LwR w W' p d c st U (.slice a' (R ++ [x]).length c') (R ++ [x]) := by
  have h1 := h.below ((Below.refl _ W).alloc (Nat.le_refl _) (.cells #[.int .i64 x.1, .int .i64 x.2] 39))
  obtain ⟨i0, hi, hz0', hz1, hz2⟩ := info_parts info_span
  obtain ⟨g5, c5, w5, RR, r5, gg5, hg5, hl5⟩ := run_append_lies (P := Try.prog) (w := W.alloc (.cells #[.int .i64 x.1, .int .i64 x.2] 39)) 37 37 w.heap.size 39 i0 _ 2 16 Try.underlying37 hi hz0' hz1 hz2 rfl (by decide) (.slice va R.length vc) _ _ h1.r ⟨W.heap.size, 0, none⟩ 1 1 [.int .i64 x.1, .int .i64 x.2] rfl (lit2_news W 39 _ _) (by simp [Value.oneCell']) (by decide) (by unfold maxLen; omega) (by omega) (by have := h1.l.bel.size; omega) _ rfl
  have e : rcells R ++ [.int .i64 x.1, .int .i64 x.2] = rcells (R ++ [x]) := by rw [rcells_app]; simp [rcells]
  rw [e] at r5
  have el : R.length + 1 = (R ++ [x]).length := by simp
  rw [el] at RR r5
  have o5 : Onl (fun i => (Value.slice va R.length vc).ownBlock = some i) (W.alloc (.cells #[.int .i64 x.1, .int .i64 x.2] 39)) w5 := (Onl.refl _ _).grown gg5 (fun k hk => .inl hk)
  refine ⟨some ⟨g5, 0, none⟩, c5, w5, RR, ⟨h1.l.c.onl o5 (fun i q z => h1.a i z q), h1.l.lo, fun i q => Nat.lt_of_lt_of_le (h1.l.hi i q) o5.size, Below.onl h1.l.bel o5 (fun i q => (h1.r.lt i q).1) (Nat.le_refl _)⟩, r5, ?_⟩
  intro g q z
  simp only [Value.ownBlock, Option.some.injEq] at q
  subst q
  rcases hg5 with q | q
  · exact h1.a _ q z
  · have := h1.l.hi _ z
    omega
/-- the device alone, the row of spans beside it -/
theorem LwR.dev {w W : World} {p d : Nat} {c : Cg} {st : Sd} {U : Nat → Prop} {v : Value} {R : List (Nat × Nat)} (h : LwR w W p d c st U v R) : ∃ Od, LwD w W d st Od ∧ ∀ g, v.ownBlock = some g → ¬ Od g := by
  obtain ⟨Od, h1, h2, h3⟩ := h.l.c.dev
  exact ⟨Od, ⟨h1, fun i q => h.l.lo i (h2 i q).1, fun i q => (h2 i q).2, h.l.bel⟩, fun g q z => h.a g q (h2 g z).1⟩
end Go.Proofs.Ytcmblfhghebjjaa
