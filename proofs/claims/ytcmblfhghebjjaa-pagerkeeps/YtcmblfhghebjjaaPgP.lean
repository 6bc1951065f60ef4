/- What the program's pager does, as it is meant: texts are there, rows of pages are taken in turn. No Go text is named here. -/
import Derived.Test.YtcmblfhghebjjaaPCm
import Derived.Test.YtcmblfhghebjjaaPRd
namespace Apo
open Go Go.RowKit

/-! what is read, sectors first, is what is read page by page, where that goes well -/
theorem told_at {s i j : Nat} (h : (s + i) * 4 + j ≤ 131072) : ((s : Int) * 4 + ((4 * i + j : Nat) : Int)) = sAt s i j := by
  rw [sAt_nat (by omega)]
  omega
theorem gat_page {st : Sd} {s i : Nat} (hb : (s + i) * 4 + 4 ≤ 131072) (h0 : (gat st ((s : Int) * 4) (4 * i)).2 = 0) : ∀ j, j ≤ 4 → (rdPage st s i j).2 = 0 → gat st ((s : Int) * 4) (4 * i + j) = ((gat st ((s : Int) * 4) (4 * i)).1 ++ (rdPage st s i j).1, 0)
  | 0, _, _ => by
    show gat st _ (4 * i) = _
    simp [rdPage]
    exact Prod.ext rfl h0
  | j + 1, hj, h => by
    simp only [rdPage] at h
    by_cases h1 : (rdPage st s i j).2 = 0
    · rw [if_pos h1] at h
      by_cases h2 : (st.told (sAt s i j)).2 = 0
      · have ih := gat_page hb h0 j (by omega) h1
        show gat st _ (4 * i + j + 1) = _
        simp only [gat, rdPage]
        rw [ih, told_at (by omega), if_pos rfl, if_pos h2, if_pos h1, if_pos h2]
        simp
      · rw [if_neg h2] at h
        exact absurd h h2
    · rw [if_neg h1] at h
      exact absurd h h1
theorem rdPage_bad {st : Sd} {s : Int} {i : Nat} {k : Nat} (h : (rdPage st s i k).2 ≠ 0) : ∀ m, (rdPage st s i (k + m)).2 ≠ 0
  | 0 => h
  | m + 1 => by
    have ih := rdPage_bad h m
    show (rdPage st s i (k + m + 1)).2 ≠ 0
    simp only [rdPage]
    rw [if_neg ih]
    exact ih
theorem pgOf_app {raw P : List Int} {n k : Nat} (h : raw.length = 128 * n) (hk : k < n) : pgOf (raw ++ P) k = pgOf raw k := by
  unfold pgOf
  rw [List.drop_append_of_le_length (by omega), List.take_append_of_le_length (by rw [List.length_drop]; omega)]
theorem pgOf_last {raw P : List Int} {n : Nat} (h : raw.length = 128 * n) (hp : P.length = 128) : pgOf (raw ++ P) n = P := by
  unfold pgOf
  rw [List.drop_left' h, List.take_of_length_le (by omega)]
theorem sm_page {P : List Int} (h : P.length = 128) (hp : pageB (P.drop 4) = P) : P.take 4 = sum4 (P.drop 4) := by
  have hl : (P.drop 4).length = 124 := by rw [List.length_drop, h]
  have e : pageB (P.drop 4) = sum4 (padded (P.drop 4)) ++ padded (P.drop 4) := rfl
  have ep : padded (P.drop 4) = P.drop 4 := by unfold padded; rw [hl]; simp
  rw [ep] at e
  rw [← hp, e, List.take_left' (sum4_len _), List.drop_left' (sum4_len _)]
theorem flat_same {α β : Type} {f g : α → List β} : ∀ {l : List α}, (∀ x ∈ l, f x = g x) → l.flatMap f = l.flatMap g
  | [], _ => rfl
  | x :: l, h => by
    rw [List.flatMap_cons, List.flatMap_cons, h x (by simp), flat_same (fun y hy => h y (by simp [hy]))]
theorem rd_both {st : Sd} (ok : OkS st) {s : Nat} : ∀ i, (s + i) * 4 ≤ 131072 → (rdTo st s i).2 = 0 →
    (gat st ((s : Int) * 4) (4 * i)).2 = 0 ∧ (∀ k, k < i → smOf (gat st ((s : Int) * 4) (4 * i)).1 k = true) ∧ (List.range i).flatMap (txOf (gat st ((s : Int) * 4) (4 * i)).1) = (rdTo st s i).1
  | 0, _, _ => ⟨rfl, fun k hk => by omega, rfl⟩
  | i + 1, hb, h => by
    simp only [rdTo] at h
    by_cases h1 : (rdTo st s i).2 = 0
    · rw [if_pos h1] at h
      by_cases h2 : (rdPage st s i 4).2 = 0
      · rw [if_pos h2] at h
        by_cases h3 : pageB ((rdPage st s i 4).1.drop 4) = (rdPage st s i 4).1
        · obtain ⟨g1, g2, g3⟩ := rd_both ok i (by omega) h1
          have hg := gat_page (by omega) g1 4 (Nat.le_refl _) h2
          have hl := gat_len ok ((s : Int) * 4) (4 * i) g1
          have hl' : (gat st ((s : Int) * 4) (4 * i)).1.length = 128 * i := by rw [hl]; omega
          have hP := rdPage_len ok (s : Int) i 4 h2
          have hP' : (rdPage st s i 4).1.length = 128 := by rw [hP]
          rw [show 4 * (i + 1) = 4 * i + 4 by omega, hg]
          refine ⟨rfl, fun k hk => ?_, ?_⟩
          · by_cases hki : k < i
            · have := g2 k hki
              unfold smOf txOf at this ⊢
              simp only [pgOf_app hl' hki]
              exact this
            · have : k = i := by omega
              subst this
              unfold smOf txOf
              simp only [pgOf_last hl' hP']
              exact decide_eq_true (sm_page hP' h3)
          · rw [List.range_succ, List.flatMap_append]
            simp only [rdTo]
            rw [if_pos h1, if_pos h2, if_pos h3]
            have e1 : (List.range i).flatMap (txOf ((gat st ((s : Int) * 4) (4 * i)).1 ++ (rdPage st s i 4).1)) = (List.range i).flatMap (txOf (gat st ((s : Int) * 4) (4 * i)).1) := flat_same (fun k hk => by
              unfold txOf
              rw [pgOf_app hl' (List.mem_range.1 hk)])
            rw [e1, g3]
            simp only [List.flatMap_cons, List.flatMap_nil, List.append_nil]
            unfold txOf
            rw [pgOf_last hl' hP']
        · rw [if_neg h3] at h
          simp at h
      · rw [if_neg h2] at h
        exact absurd h h2
    · rw [if_neg h1] at h
      exact absurd h h1
theorem firstP_nat {s : Nat} (h : s < 16384) : firstP (s : Int) = (s : Int) * 4 := by unfold firstP; rw [if_neg (by omega)]
theorem rdText2_of {st : Sd} (ok : OkS st) {s n : Nat} {size : Nat} (hs : s < 16384) (hn : n = needP size) (h0 : n ≠ 0) (h : (rdTo st s n).2 = 0) : st.rdText2 (firstP s) size = ((rdTo st s n).1.take size, 0) := by
  have hl := needP_le (size : Int)
  obtain ⟨g1, g2, g3⟩ := rd_both ok n (by omega) h
  unfold Sd.rdText2
  rw [firstP_nat hs, ← hn, if_neg h0, if_pos g1, if_pos (by rw [List.all_eq_true]; exact fun k hk => g2 k (List.mem_range.1 hk)), g3]
  simp

/-! rows of pages that are taken in turn -/
structure Suf (f : Fr) (m N : Nat) : Prop where
  lo : f.lo = 1
  len : f.L.length = N
  at' : ∀ i, f.L[i]? = some true ↔ (m ≤ i ∧ i < N)
  m1 : 1 ≤ m
theorem Suf.ok {f : Fr} {m N : Nat} (h : Suf f m N) (hN : N ≤ 16384) : OkFr f := by
  refine ⟨by rw [h.len]; exact hN, fun i hi => ?_⟩
  rw [h.lo] at hi
  have h1 := h.m1
  rw [List.getD_eq_getElem?_getD]
  cases hq : f.L[i]? with
  | none => rfl
  | some b =>
    cases b with
    | false => rfl
    | true => have := (h.at' i).1 hq; omega
theorem Suf.first {f : Fr} {m N n : Nat} (h : Suf f m N) (hn : 1 ≤ n) (hr : m + n ≤ N) : f.first n = some m := by
  unfold Fr.first
  rw [List.find?_range_eq_some]
  refine ⟨?_, by simp [h.len]; omega, fun j hj => ?_⟩
  · refine all_iff.2 ⟨by simp only; omega, by simp only [h.lo]; have := h.m1; omega, by simp only [h.len]; omega, fun i h1 h2 => (h.at' i).2 ?_⟩
    simp only [Int.toNat_natCast] at h1 h2
    omega
  · simp only [Bool.not_eq_true', ← Bool.not_eq_true]
    intro q
    have := (all_iff.1 q).2.2.2 j (by simp) (by simp; omega)
    have := (h.at' j).1 this
    omega
theorem Suf.none {f : Fr} {m N n : Nat} (h : Suf f m N) (hn : 1 ≤ n) (hr : N < m + n) : f.first n = none := by
  unfold Fr.first
  rw [List.find?_eq_none]
  intro j hj q
  obtain ⟨_, _, q3, q4⟩ := all_iff.1 q
  simp only [Int.toNat_natCast, h.len] at q3 q4
  have := (h.at' j).1 (q4 j (Nat.le_refl _) (by omega))
  omega
theorem Suf.put {f : Fr} {m N n : Nat} (h : Suf f m N) (_ : m + n ≤ N) : Suf (f.put ⟨m, n⟩ false) (m + n) N := by
  refine ⟨h.lo, by rw [Fr.put_len]; exact h.len, fun i => ?_, by have := h.m1; omega⟩
  rw [put_at]
  simp only [Int.toNat_natCast]
  by_cases q : m ≤ i ∧ i < m + n ∧ i < f.L.length
  · rw [if_pos q]
    exact ⟨fun z => (by cases z), fun z => by omega⟩
  · rw [if_neg q, h.at']
    have := h.len
    constructor
    · intro z; omega
    · intro z; omega
theorem Suf.all {f : Fr} {m N n : Nat} (h : Suf f m N) (hn : 1 ≤ n) (hr : m + n ≤ N) : f.all ⟨m, n⟩ true = true :=
  all_iff.2 ⟨by simp only; omega, by simp only [h.lo]; have := h.m1; omega, by simp only [h.len]; omega, fun i h1 h2 => (h.at' i).2 (by simp only [Int.toNat_natCast] at h1 h2; omega)⟩
theorem Suf.take {f : Fr} {m N n : Nat} (h : Suf f m N) (hn : 1 ≤ n) (hr : m + n ≤ N) : f.take n = (((m : Int), true), f.put ⟨m, n⟩ false) := by
  unfold Fr.take
  rw [h.first hn hr]
theorem Suf.full {f : Fr} {m N n : Nat} (h : Suf f m N) (hn : 1 ≤ n) (hr : N < m + n) : f.take n = ((0, false), f) := by
  unfold Fr.take
  rw [h.none hn hr]
theorem Suf.count {f : Fr} {m N : Nat} (h : Suf f m N) : sumP f.rows = N - m := by
  by_cases hq : m < N
  · have e : [(m, N - m)] = f.rows := rows_unique (R := [(m, N - m)]) ⟨by simp, fun x hx => by simp at hx; subst hx; simp only; omega⟩ (fun i => by
      rw [h.at']
      constructor
      · rintro ⟨x, hx, h1, h2⟩
        simp at hx
        subst hx
        simp only at h1 h2
        omega
      · intro z
        exact ⟨(m, N - m), by simp, by simp only; omega, by simp only; omega⟩)
    rw [← e]
    simp [sumP]
  · have e : [] = f.rows := rows_unique (R := []) ⟨by simp, fun x hx => by simp at hx⟩ (fun i => by
      rw [h.at']
      constructor
      · rintro ⟨x, hx, _⟩
        simp at hx
      · intro z; omega)
    rw [← e]
    simp [sumP]
    omega
theorem freeOf_suf (st : Sd) (hs : st.S.length ≤ 65536) : Suf (freeOf st) 1 (st.S.length / 4) := by
  refine ⟨rfl, freeOf_len st hs, fun i => ⟨fun q => ?_, fun q => freeOf_at st hs q.1 q.2⟩, Nat.le_refl _⟩
  have hlt := (List.getElem?_eq_some_iff.1 q).1
  rw [freeOf_len st hs] at hlt
  refine ⟨?_, hlt⟩
  rcases Nat.eq_zero_or_pos i with e | e
  · subst e
    have := (newFr_ok 1 ((st.S.length / 4 : Nat) : Int)).low 0 (by simp [newFr])
    rw [List.getD_eq_getElem?_getD, show (newFr 1 ((st.S.length / 4 : Nat) : Int)).L[0]? = some true from q] at this
    cases this
  · exact e

/-! a device that is not armed -/
def Alive (st : Sd) : Prop := st.dead = false ∧ st.left = -1
theorem alive_wrote {st : Sd} (h : Alive st) {a : Nat} (ha : a < st.S.length) {b : List Int} (hb : b.length = 32) : (st.wrote (a : Int) b).1 = 0 ∧ Alive (st.wrote (a : Int) b).2 ∧ (st.wrote (a : Int) b).2.S = st.S := by
  rw [live_wrote h.1 h.2 ha hb]
  exact ⟨rfl, ⟨h.1, h.2⟩, rfl⟩
theorem alive_page {st : Sd} (h : Alive st) {a i : Nat} {p : List Int} (hp : p.length = 128) (hb : (a + i) * 4 + 4 ≤ st.S.length) (hs : st.S.length ≤ 65536) : ∀ k, k ≤ 4 → (wrPage st a i p k).1 = 0 ∧ Alive (wrPage st a i p k).2 ∧ (wrPage st a i p k).2.S = st.S
  | 0, _ => ⟨rfl, h, rfl⟩
  | k + 1, hk => by
    obtain ⟨h1, h2, h3⟩ := alive_page h hp hb hs k (by omega)
    have h4 := alive_wrote h2 (a := (a + i) * 4 + k) (by rw [h3]; omega) (b := cutS p k) (cutS_len hp (by omega))
    simp only [wrPage]
    rw [if_pos h1, sAt_nat (by omega)]
    exact ⟨h4.1, h4.2.1, h4.2.2.trans h3⟩
theorem alive_text {st : Sd} (h : Alive st) {a : Nat} {b : List Int} (hs : st.S.length ≤ 65536) : ∀ n, (a + n) * 4 ≤ st.S.length → (wrTo st a b n).1 = 0 ∧ Alive (wrTo st a b n).2 ∧ (wrTo st a b n).2.S = st.S
  | 0, _ => ⟨rfl, h, rfl⟩
  | n + 1, hn => by
    obtain ⟨h1, h2, h3⟩ := alive_text h (a := a) (b := b) hs n (by omega)
    have h4 := alive_page h2 (a := a) (i := n) (p := pageB (chunkB b n)) (pageB_len (chunkB_len b n)) (by rw [h3]; omega) (by rw [h3]; exact hs) 4 (Nat.le_refl _)
    simp only [wrTo]
    rw [if_pos h1]
    exact ⟨h4.1, h4.2.1, h4.2.2.trans h3⟩
theorem alive_save {st : Sd} (h : Alive st) (hs : 2 ≤ st.S.length) (s : Sup) : (st.save s).1 = 0 ∧ Alive (st.save s).2 := by
  have f1 := live_flushed h.1 h.2
  have hm : (s.e : Int) % 2 = ((s.e % 2 : Nat) : Int) := by omega
  have w1 := live_wrote (st := { st with S := putAll st.C st.S, C := [] }) h.1 h.2 (a := s.e % 2) (b := superB s) (by show _ < (putAll st.C st.S).length; rw [putAll_len]; omega) (superB_len _)
  unfold Sd.save
  rw [f1]
  simp only [if_true]
  rw [hm, w1]
  simp only [if_true]
  have f2 := live_flushed (st := ⟨putAll st.C st.S, [] ++ [(s.e % 2, superB s)], st.bad, st.left, st.dead⟩) h.1 h.2
  rw [f2]
  exact ⟨rfl, h.1, h.2⟩

/-! what a Save leaves -/
theorem save_pend {st : Sd} {s s' : Sup} (h : Du st s) (hp : Pend (st.save s').2 s s') (hne : (st.save s').1 ≠ 0) : (st.save s').2.S = putAll st.C st.S := by
  unfold Sd.save at hp hne ⊢
  by_cases hf : st.flushed.1 = 0
  · have hact : st.acts = true := by
      unfold Sd.flushed at hf
      split at hf
      · assumption
      · cases hf
    have e1 : st.flushed = (0, { st.acted with S := putAll st.C st.S, C := [] }) := by unfold Sd.flushed; rw [if_pos hact]
    have hS1 : st.flushed.2.S = putAll st.C st.S := by rw [e1]
    rw [if_pos hf] at hp hne ⊢
    by_cases hw : (st.flushed.2.wrote ((s'.e : Int) % 2) (superB s')).1 = 0
    · rw [if_pos hw] at hp hne ⊢
      have e2 := wrote_S st.flushed.2 ((s'.e : Int) % 2) (superB s')
      generalize (st.flushed.2.wrote ((s'.e : Int) % 2) (superB s')).2 = r at hne e2 ⊢
      by_cases ha : r.acts = true
      · have e4 : r.flushed.1 = 0 := by unfold Sd.flushed; rw [if_pos ha]
        exact absurd e4 hne
      · have e3 : r.flushed = (40, r.acted) := by unfold Sd.flushed; rw [if_neg ha]
        rw [e3]
        show r.acted.S = _
        rw [acted_S, e2, hS1]
    · rw [if_neg hw] at hp hne ⊢
      rw [wrote_S, hS1]
  · rw [if_neg hf] at hp hne
    have hc : st.flushed.2.C = st.C := by
      unfold Sd.flushed at hf ⊢
      split at hf
      · exact absurd rfl hf
      · next q => rw [if_neg q]; exact acted_C st
    have := hp.one
    rw [hc] at this
    have hs := h.safe (s'.e % 2, superB s') (by rw [this]; simp)
    exact absurd hs.1 (by simp only; omega)

/-! a root's text is as long as its pages are left alone -/
theorem rootText_kept {S S' : List (List Int)} {s : Sup} (h : Rt S s) (hl : S'.length = S.length) (hs : S.length ≤ 65536) (hk : ∀ x, 4 ≤ x → ¬ Safe s x → S'[x]? = S[x]?) : rootText S' s = rootText S s := by
  unfold rootText
  split
  · rfl
  · next hn =>
    rcases h with h | ⟨h1, h2, h3, h4, h5⟩
    · exact absurd h hn
    · rw [rdTo_kept hl hs h4 (fun x q1 q2 => hk x (by omega) (fun q => by have := q.2 q1; omega))]
theorem rootText_crash {st : Sd} {s : Sup} (h : Du st s) (f : Fat) : rootText (st.crashed f).S s = rootText st.S s :=
  rootText_kept h.root (crashK_ok h.ok.secs h.ok.cach _).1 h.ok.size (fun x _ hx => crash_none (i := x) (fun y hy e => hx (by rw [← e]; exact h.safe y hy)) _)
theorem rootText_put {st : Sd} {s : Sup} (h : Du st s) : rootText (putAll st.C st.S) s = rootText st.S s :=
  rootText_kept h.root (putAll_len _ _) h.ok.size (fun x _ hx => put_none (fun y hy e => hx (by rw [← e]; exact h.safe y hy)))
/-- whichever way a Save goes without going well: the S -/
theorem save_du_S {st : Sd} {s s' : Sup} (h : Du st s) (hne : (st.save s').1 ≠ 0) : (st.save s').2.S = st.S ∨ (st.save s').2.S = putAll st.C st.S := by
  unfold Sd.save at hne ⊢
  by_cases hf : st.flushed.1 = 0
  · have hact : st.acts = true := by
      unfold Sd.flushed at hf
      split at hf
      · assumption
      · cases hf
    have e1 : st.flushed = (0, { st.acted with S := putAll st.C st.S, C := [] }) := by unfold Sd.flushed; rw [if_pos hact]
    have hS1 : st.flushed.2.S = putAll st.C st.S := by rw [e1]
    rw [if_pos hf] at hne ⊢
    right
    by_cases hw : (st.flushed.2.wrote ((s'.e : Int) % 2) (superB s')).1 = 0
    · rw [if_pos hw] at hne ⊢
      have e2 := wrote_S st.flushed.2 ((s'.e : Int) % 2) (superB s')
      generalize (st.flushed.2.wrote ((s'.e : Int) % 2) (superB s')).2 = r at hne e2 ⊢
      by_cases ha : r.acts = true
      · have e4 : r.flushed.1 = 0 := by unfold Sd.flushed; rw [if_pos ha]
        exact absurd e4 hne
      · have e3 : r.flushed = (40, r.acted) := by unfold Sd.flushed; rw [if_neg ha]
        rw [e3]
        show r.acted.S = _
        rw [acted_S, e2, hS1]
    · rw [if_neg hw]
      rw [wrote_S, hS1]
  · left
    rw [if_neg hf]
    have hx := h.e1
    unfold Sd.flushed at hf ⊢
    split at hf
    · exact absurd rfl hf
    · next q => rw [if_neg q]; exact acted_S st
end Apo
