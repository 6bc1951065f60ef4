/- A transaction of the program's pager, as it is meant: what is there behind any crash. No Go text is named here. -/
import Derived.Test.YtcmblfhghebjjaaPgP
namespace Apo
open Go Go.RowKit

/-- a text that lies in sectors, in pages from lo up to m -/
def TxY (S : List (List Int)) (lo m : Nat) (y : Spn × List Int) : Prop := ∃ A n : Nat, y.1 = ⟨A, n⟩ ∧ n = needP y.2.length ∧ n ≠ 0 ∧ lo ≤ A ∧ 1 ≤ A ∧ A + n ≤ m ∧ (rdTo (plainS S) A n).2 = 0 ∧ (rdTo (plainS S) A n).1.take y.2.length = y.2
theorem TxY.kept {S S' : List (List Int)} {lo m : Nat} {y : Spn × List Int} (h : TxY S lo m y) (hl : S'.length = S.length) (hs : S.length ≤ 65536) (hm : m ≤ S.length / 4) (hk : ∀ x, 4 ≤ x → x < m * 4 → S'[x]? = S[x]?) : TxY S' lo m y := by
  obtain ⟨A, n, h1, h2, h3, h4, h5, h6, h7, h8⟩ := h
  have e := rdTo_kept (S := S) (S' := S') (a := A) (n := n) hl hs (by omega) (fun x q1 q2 => hk x (by omega) (by omega))
  exact ⟨A, n, h1, h2, h3, h4, h5, h6, by rw [e]; exact h7, by rw [e]; exact h8⟩
theorem TxY.more {S : List (List Int)} {lo m m' : Nat} {y : Spn × List Int} (h : TxY S lo m y) (hm : m ≤ m') : TxY S lo m' y := by
  obtain ⟨A, n, h1, h2, h3, h4, h5, h6, h7⟩ := h
  exact ⟨A, n, h1, h2, h3, h4, h5, by omega, h7⟩
/-- a transaction: the super that is there, texts that were put -/
structure Tx (st : Sd) (s : Sup) (c : Cg) (m N : Nat) (xs : List (Spn × List Int)) : Prop where
  du : Du st s
  e : c.e = s.e
  en : c.ended = false
  suf : Suf c.f m N
  hN : N = st.S.length / 4
  rt : s.st + s.pg ≤ m
  hm : m ≤ N
  tx : ∀ y ∈ xs, TxY (putAll st.C st.S) (s.st + s.pg) m y
  ap : xs.Pairwise (fun y z => y.1.a + y.1.k ≤ z.1.a)
theorem put_ended {c : Cg} {st : Sd} {b : List Int} (h : c.ended = true) : c.put st b = ((⟨0, 0⟩, 40), c, st) := by unfold Cg.put; rw [if_pos h]
section
variable {st : Sd} {s : Sup} {c : Cg} {m N : Nat} {xs : List (Spn × List Int)} {b : List Int}
theorem Tx.size (h : Tx st s c m N xs) : N ≤ 16384 := by have := h.du.ok.size; have := h.hN; omega
theorem Tx.put_full (h : Tx st s c m N xs) (hn : needP b.length ≠ 0) (hr : N < m + needP b.length) : c.put st b = ((⟨0, 0⟩, 70), c, st) := by
  unfold Cg.put
  rw [if_neg (by rw [h.en]; simp), if_neg hn, h.suf.full (by omega) hr, if_pos rfl]
theorem Tx.put_is (h : Tx st s c m N xs) (hn : needP b.length ≠ 0) (hr : m + needP b.length ≤ N) :
    c.put st b = if (wrTo st m b (needP b.length)).1 = 0 then ((⟨m, needP b.length⟩, 0), { c with f := c.f.put ⟨m, needP b.length⟩ false, n := (c.n.claim ⟨m, needP b.length⟩).2, ended := false }, (wrTo st m b (needP b.length)).2)
      else ((⟨0, 0⟩, (wrTo st m b (needP b.length)).1), { c with f := c.f.put ⟨m, needP b.length⟩ false, n := (c.n.claim ⟨m, needP b.length⟩).2, ended := true }, (wrTo st m b (needP b.length)).2) := by
  have hz := h.size
  have hm : m < 16384 := by omega
  unfold Cg.put
  rw [if_neg (by rw [h.en]; simp), if_neg hn, h.suf.take (by omega) hr]
  simp only [Bool.true_eq_false, if_false]
  rw [firstP_nat hm, wrText2_eq hm]
  unfold Sd.wrText
  rw [if_neg hn]
/-- the sectors of pages that are taken are nobody's -/
theorem Tx.safe (h : Tx st s c m N xs) {n : Nat} : ∀ i k, i < n → k < 4 → Safe s ((m + i) * 4 + k) := fun i k _ _ => ⟨by have := h.suf.m1; omega, fun _ => by have := h.rt; omega⟩
theorem Tx.put (h : Tx st s c m N xs) (hb : ∀ z ∈ b, 0 ≤ z ∧ z ≤ 255) (hn : needP b.length ≠ 0) (hr : m + needP b.length ≤ N) :
    ((c.put st b).1 = (⟨m, needP b.length⟩, 0) ∧ Tx (c.put st b).2.2 s (c.put st b).2.1 (m + needP b.length) N (xs ++ [(⟨m, needP b.length⟩, b)]) ∧ (c.put st b).2.1.n = (c.n.claim ⟨m, needP b.length⟩).2 ∧ (c.put st b).2.1.f = c.f.put ⟨m, needP b.length⟩ false ∧ (c.put st b).2.2.S = st.S ∧ (c.put st b).2.1.r = c.r) ∨
    ((c.put st b).1.2 ≠ 0 ∧ (c.put st b).2.1.ended = true ∧ Du (c.put st b).2.2 s ∧ (c.put st b).2.2.S = st.S ∧ (c.put st b).2.1.e = c.e) := by
  have hsz := h.du.ok.size
  have hN := h.hN
  have hd2 := h.du.wrTo (a := m) hb (needP b.length) (by omega) (h.safe)
  have hS := wrTo_S st m b (needP b.length)
  rw [h.put_is hn hr]
  by_cases hw : (wrTo st m b (needP b.length)).1 = 0
  · rw [if_pos hw]
    left
    refine ⟨rfl, ⟨hd2, h.e, rfl, h.suf.put hr, by simp only; rw [hS]; exact hN, by have := h.rt; omega, hr, ?_, ?_⟩, rfl, rfl, hS, rfl⟩
    · intro y hy
      have G := wrTo_ok (st := st) (a := m) (b := b) (needP b.length) (by omega) hw
      have eC : putAll (wrTo st m b (needP b.length)).2.C (wrTo st m b (needP b.length)).2.S = putAll (wl m b (needP b.length)) (putAll st.C st.S) := by rw [G.C, G.S, put_app]
      rcases List.mem_append.1 hy with hy | hy
      · refine ((h.tx y hy).kept (S' := putAll (wrTo st m b (needP b.length)).2.C (wrTo st m b (needP b.length)).2.S) (by rw [putAll_len, putAll_len, hS]) (by rw [putAll_len]; exact hsz) (by rw [putAll_len, ← hN]; exact h.hm) (fun x _ hx => ?_)).more (by omega)
        rw [eC]
        exact put_none (fun z hz e => by have := (wl_len_lt _ z hz).1; omega)
      · rw [List.mem_singleton] at hy
        subst hy
        have ht := text_there h.du.ok (a := m) (b := b) rfl hn (by omega) hw
        exact ⟨m, needP b.length, rfl, rfl, hn, h.rt, h.suf.m1, Nat.le_refl _, ht.1, ht.2⟩
    · rw [List.pairwise_append]
      refine ⟨h.ap, by simp, fun y hy z hz => ?_⟩
      rw [List.mem_singleton] at hz
      subst hz
      obtain ⟨A, n, h1, _, _, _, _, h6, _⟩ := h.tx y hy
      rw [h1]
      simp only
      omega
  · rw [if_neg hw]
    exact .inr ⟨hw, rfl, hd2, hS, rfl⟩
theorem Tx.put_alive (h : Tx st s c m N xs) (ha : Alive st) (hn : needP b.length ≠ 0) (hr : m + needP b.length ≤ N) : (c.put st b).1.2 = 0 ∧ Alive (c.put st b).2.2 := by
  have hsz := h.du.ok.size
  have hN := h.hN
  obtain ⟨h1, h2, _⟩ := alive_text ha (a := m) (b := b) hsz (needP b.length) (by omega)
  rw [h.put_is hn hr, if_pos h1]
  exact ⟨rfl, h2⟩
/-- a root of its own -/
def nextS (s : Sup) (m : Nat) (b : List Int) : Sup := ⟨s.e + 1, m, needP b.length, b.length⟩
theorem Tx.root (h : Tx st s c m N xs) (hs : s.e ≤ 254) (hn : needP b.length ≠ 0) (hr : m + needP b.length ≤ N) : (nextS s m b).Ok ∧ (nextS s m b).e ≤ 255 := by
  have hz := h.size
  have hroom := needP_room (size := (b.length : Int)) hn
  exact ⟨sup_new (by omega) (by omega) (by omega) (by omega), by show s.e + 1 ≤ 255; omega⟩
/-- how a Commit may go -/
theorem Tx.commit (h : Tx st s c m N xs) (hs : s.e ≤ 254) (hb : ∀ z ∈ b, 0 ≤ z ∧ z ≤ 255) (hn : needP b.length ≠ 0) (hr : m + needP b.length ≤ N) :
    ((c.commit st b).1 = 0 ∧ Du (c.commit st b).2.2 (nextS s m b) ∧ (c.commit st b).2.2.C = [] ∧ (c.commit st b).2.2.S = (putAll (c.put st b).2.2.C st.S).set ((s.e + 1) % 2) (superB (nextS s m b)) ∧ (∀ y ∈ xs ++ [(⟨m, needP b.length⟩, b)], TxY (putAll (c.put st b).2.2.C st.S) (s.st + s.pg) (m + needP b.length) y) ∧
      (c.commit st b).2.1 = ⟨s.e + 1, ⟨m, needP b.length⟩, (c.n.claim ⟨m, needP b.length⟩).2, (c.n.claim ⟨m, needP b.length⟩).2, ((c.n.claim ⟨m, needP b.length⟩).2.give ⟨m, needP b.length⟩).2, false⟩) ∨
    ((c.commit st b).1 ≠ 0 ∧ Du (c.commit st b).2.2 s ∧ rootText (c.commit st b).2.2.S s = rootText st.S s) ∨
    ((c.commit st b).1 ≠ 0 ∧ Pend (c.commit st b).2.2 s (nextS s m b) ∧ (c.commit st b).2.2.S = putAll (c.put st b).2.2.C st.S ∧ rootText (c.commit st b).2.2.S s = rootText st.S s ∧ (∀ y ∈ xs ++ [(⟨m, needP b.length⟩, b)], TxY (putAll (c.put st b).2.2.C st.S) (s.st + s.pg) (m + needP b.length) y)) := by
  rcases h.put hb hn hr with ⟨p1, p2, p3, p4, p5, p6⟩ | ⟨p1, p2, p3, p4, p5⟩
  · obtain ⟨sok, s255⟩ := h.root hs hn hr
    have e0 : (c.put st b).1.2 = 0 := by rw [p1]
    have es : (⟨c.e + 1, (c.put st b).1.1.a.toNat, (c.put st b).1.1.k.toNat, b.length⟩ : Sup) = nextS s m b := by rw [p1, h.e]; simp [nextS]
    have ec : c.commit st b = if ((c.put st b).2.2.save (nextS s m b)).1 = 0 then (0, ⟨s.e + 1, ⟨m, needP b.length⟩, (c.n.claim ⟨m, needP b.length⟩).2, (c.n.claim ⟨m, needP b.length⟩).2, ((c.n.claim ⟨m, needP b.length⟩).2.give ⟨m, needP b.length⟩).2, false⟩, ((c.put st b).2.2.save (nextS s m b)).2) else (((c.put st b).2.2.save (nextS s m b)).1, { (c.put st b).2.1 with ended := true }, ((c.put st b).2.2.save (nextS s m b)).2) := by
      unfold Cg.commit
      rw [if_neg (by rw [e0]; simp), es, p3, p1, h.e]
    have hY := p2.tx
    rw [p5] at hY
    have hrt : Rt (putAll (c.put st b).2.2.C (c.put st b).2.2.S) (nextS s m b) := by
      obtain ⟨A, n, h1, h2, h3, h4, h5, h6, h7, h8⟩ := p2.tx (⟨m, needP b.length⟩, b) (by simp)
      have hroom := needP_room (size := (b.length : Int)) hn
      simp only [Spn.mk.injEq] at h1
      have hA : A = m := by omega
      have hnn : n = needP b.length := by omega
      subst hA
      subst hnn
      exact .inr ⟨by show b.length ≤ _; omega, rfl, by show 1 ≤ A; omega, by show A + needP b.length ≤ _; rw [putAll_len, p5, ← h.hN]; exact hr, h7⟩
    have hsv := p2.du.save sok rfl s255 hrt
    have hpd := fun q1 q2 => save_pend (s' := nextS s m b) p2.du q1 q2
    have hds := fun q => save_du_S (s' := nextS s m b) p2.du q
    have hrp := rootText_put p2.du
    rw [p5] at hsv hpd hds hrp
    rw [ec]
    rcases hsv with ⟨v1, v2, v3, v4⟩ | ⟨v1, v2, v3⟩
    · rw [if_pos v1]
      exact .inl ⟨rfl, v2, v3, v4, hY, rfl⟩
    · rw [if_neg v1]
      have hrs : rootText ((c.put st b).2.2.save (nextS s m b)).2.S s = rootText st.S s := by
        rcases hds v1 with q | q
        · rw [q]
        · rw [q, hrp]
      rcases v3 with v3 | v3
      · exact .inr (.inl ⟨v1, v3, hrs⟩)
      · exact .inr (.inr ⟨v1, v3, hpd v3 v1, hrs, hY⟩)
  · have ec : c.commit st b = ((c.put st b).1.2, (c.put st b).2) := by unfold Cg.commit; rw [if_pos p1]
    rw [ec]
    exact .inr (.inl ⟨p1, p3, by rw [p4]⟩)
theorem Tx.commit_alive (h : Tx st s c m N xs) (ha : Alive st) (hb : ∀ z ∈ b, 0 ≤ z ∧ z ≤ 255) (hn : needP b.length ≠ 0) (hr : m + needP b.length ≤ N) : (c.commit st b).1 = 0 ∧ Alive (c.commit st b).2.2 := by
  obtain ⟨h1, h2⟩ := h.put_alive ha hn hr
  have h3 := h.du.size
  have hS : (c.put st b).2.2.S = st.S := by
    rcases h.put hb hn hr with p | p
    · exact p.2.2.2.2.1
    · exact absurd h1 p.1
  obtain ⟨q1, q2⟩ := alive_save h2 (by rw [hS]; omega) ⟨c.e + 1, (c.put st b).1.1.a.toNat, (c.put st b).1.1.k.toNat, b.length⟩
  unfold Cg.commit
  rw [if_neg (by rw [h1]; simp), if_pos q1]
  exact ⟨rfl, q2⟩
theorem Tx.commit_full (h : Tx st s c m N xs) (hn : needP b.length ≠ 0) (hr : N < m + needP b.length) : c.commit st b = (70, c, st) := by
  unfold Cg.commit
  rw [h.put_full hn hr]
  rfl
theorem commit_ended (h : c.ended = true) : c.commit st b = (40, c, st) := by
  unfold Cg.commit
  rw [put_ended h]
  rfl
end
/-- what is there behind a crash -/
theorem rest_S {st : Sd} (h : st.C = []) (f : Fat) : (st.crashed f).S = st.S := by
  unfold Sd.crashed
  rw [h]
  rfl
theorem Tx.crash {st : Sd} {s : Sup} {c : Cg} {m N : Nat} {xs : List (Spn × List Int)} {b : List Int} (h : Tx st s c m N xs) (hs : s.e ≤ 254) (hb : ∀ z ∈ b, 0 ≤ z ∧ z ≤ 255) (hn : needP b.length ≠ 0) (hr : m + needP b.length ≤ N) (f : Fat) :
    (Du ((c.commit st b).2.2.crashed f) s ∧ (c.commit st b).1 ≠ 0 ∧ rootText ((c.commit st b).2.2.crashed f).S s = rootText st.S s) ∨
    (Du ((c.commit st b).2.2.crashed f) (nextS s m b) ∧ (∀ y ∈ xs ++ [(⟨m, needP b.length⟩, b)], TxY ((c.commit st b).2.2.crashed f).S (s.st + s.pg) (m + needP b.length) y)) := by
  have hsz := h.du.ok.size
  have hN := h.hN
  have hl : (putAll (c.put st b).2.2.C st.S).length = st.S.length := putAll_len _ _
  rcases h.commit hs hb hn hr with ⟨c1, c2, c3, c4, c5, _⟩ | ⟨c1, c2, c3⟩ | ⟨c1, c2, c3, c4, c5⟩
  · right
    refine ⟨c2.crash f, fun y hy => (c5 y hy).kept (by rw [rest_S c3, c4]; simp) (by rw [hl]; exact hsz) (by rw [hl, ← hN]; exact hr) (fun x hx _ => ?_)⟩
    rw [rest_S c3, c4, List.getElem?_set_ne (by omega)]
  · left
    exact ⟨c2.crash f, c1, by rw [rootText_crash c2 f, c3]⟩
  · have hcn : ∀ x, 4 ≤ x → ((c.commit st b).2.2.crashed f).S[x]? = (c.commit st b).2.2.S[x]? := fun x hx => crash_none (i := x) (fun y hy e => by rw [c2.one] at hy; simp at hy; rw [hy] at e; simp only at e; have : (nextS s m b).e % 2 < 2 := Nat.mod_lt _ (by decide); omega) _
    have hcl : ((c.commit st b).2.2.crashed f).S.length = (c.commit st b).2.2.S.length := (crashK_ok c2.okS.secs c2.okS.cach _).1
    rcases c2.crash f with q | q
    · left
      refine ⟨q, c1, ?_⟩
      rw [← c4]
      exact rootText_kept c2.du.root hcl (by rw [c3, hl]; exact hsz) (fun x hx _ => hcn x hx)
    · right
      refine ⟨q, fun y hy => (c5 y hy).kept (by rw [hcl, c3]) (by rw [hl]; exact hsz) (by rw [hl, ← hN]; exact hr) (fun x hx _ => ?_)⟩
      rw [hcn x hx, c3]
end Apo
