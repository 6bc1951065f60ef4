/- A store as it is meant: chunks with their texts, in a transaction. Pure. -/
import Derived.Test.YtegadgncggbeoaaGreatQHPu
import Derived.Test.YtegadgncggbeoaaGreatQPgA
namespace Apo
open Go Go.RowKit
abbrev Kt := Nat × Ck × List Int
def txtOf (x : Kt) : Spn × List Int := (x.2.1.at', x.2.2)
/-- K0: the chunks behind the last Commit; K: those that are there now; from page m on all are free -/
structure Sto (S0 : List (List Int)) (sup : Sup) (S : Cs) (K0 K : List Kt) (m : Nat) : Prop where
  tg : Tg S0 S.st sup S.c (K0.map txtOf) (K.map txtOf)
  top : ∀ i, m ≤ i → i < S.st.S.length / 4 → S.c.f.is i
  m1 : 1 ≤ m
  ch : ∀ i c, S.ch i = some c ↔ ∃ t, (i, c, t) ∈ K
  ck : ∀ x ∈ K, x.2.1.size = x.2.2.length ∧ x.2.1.sum = sumN x.2.2 ∧ 1 ≤ x.1 ∧ x.1 < S.next
  asc : K.Pairwise (fun x y => x.1 < y.1)
  txs : K.Pairwise (fun x y => x.2.2 ≠ y.2.2)
  en : S.ended = false
  nx : 1 ≤ S.next
section
variable {S0 : List (List Int)} {sup : Sup} {S S' : Cs} {K0 K : List Kt} {m id : Nat} {er : Int} {b : List Int}
theorem Sto.get (h : Sto S0 sup S K0 K m) (hd : S.st.dead = false) {x : Kt} (hx : x ∈ K) : S.get x.2.1 = (x.2.2, 0) := by
  have := h.tg.get hd (y := txtOf x) (List.mem_map.2 ⟨x, hx, rfl⟩)
  unfold Cs.get
  rw [(h.ck x hx).1]
  exact this
theorem Sto.few (h : Sto S0 sup S K0 K m) : Few S.ch K.length := by
  refine ⟨K.map (·.1), fun i hi => ?_, by simp⟩
  cases q : S.ch i with
  | none => exact absurd q hi
  | some c =>
    obtain ⟨t, ht⟩ := (h.ch i c).1 q
    exact List.mem_map.2 ⟨_, ht, rfl⟩
theorem Sto.fresh (h : Sto S0 sup S K0 K m) : S.ch S.next = none := by
  cases q : S.ch S.next with
  | none => rfl
  | some c =>
    obtain ⟨t, ht⟩ := (h.ch _ c).1 q
    have := (h.ck _ ht).2.2.2
    simp only at this
    omega
/-- what is looked for is found just if it is there -/
theorem Sto.same (h : Sto S0 sup S K0 K m) (hd : S.st.dead = false) (hs : SameR S b id er) : er = 0 ∧ ((∃ x ∈ K, x.2.2 = b ∧ id = x.1) ∨ (id = 0 ∧ ∀ x ∈ K, x.2.2 ≠ b)) := by
  obtain ⟨l, hl, hs⟩ := hs
  rcases hs with ⟨h1, h2, c, h3, h4, h5⟩ | ⟨h1, h2, h3, h4⟩
  · refine ⟨h1, .inl ?_⟩
    obtain ⟨t, ht⟩ := (h.ch id c).1 h3
    have := h.get hd ht
    rw [h5] at this
    exact ⟨_, ht, (congrArg Prod.fst this).symm, rfl⟩
  · refine ⟨h3 (fun i _ c hc _ => ?_), .inr ⟨h1, fun x hx e => ?_⟩⟩
    · obtain ⟨t, ht⟩ := (h.ch i c).1 hc
      rw [h.get hd ht]
    · obtain ⟨i, c, t⟩ := x
      simp only at e
      subst e
      have hch := (h.ch i c).2 ⟨t, hx⟩
      have hck := h.ck _ hx
      exact h2 i ((hl i).2 ⟨c, hch, hck.2.1⟩) c hch hck.1 (h.get hd hx)
theorem need_pos {n : Nat} (h : n ≤ 131072) : needP (n : Int) ≠ 0 := by
  unfold needP
  rw [if_neg (by omega)]
  split
  · omega
  · omega
theorem first_le {f : Fr} {n A : Nat} {j : Nat} (h : f.first (n : Int) = some A) (hj : f.all ⟨(j : Int), (n : Int)⟩ true = true) (hl : j < f.L.length) : A ≤ j := by
  unfold Fr.first at h
  have := List.find?_eq_some_iff_append.1 h
  obtain ⟨_, us, bs, e, hn⟩ := this
  by_cases q : A ≤ j
  · exact q
  · exfalso
    have hr : (List.range f.L.length)[us.length]? = some A := by rw [e]; simp
    rw [List.getElem?_range] at hr
    · have hA : us.length = A := by simpa using hr
      have : j ∈ us := by
        have h2 : (List.range f.L.length)[j]? = some j := by rw [List.getElem?_range hl]
        rw [e, List.getElem?_append_left (by omega)] at h2
        exact List.mem_of_getElem? h2
      have := hn j this
      rw [hj] at this
      simp at this
    · have := congrArg List.length e
      simp at this
      omega
theorem all_top {f : Fr} {m n N : Nat} (h1 : f.lo = 1) (h2 : f.L.length = N) (ht : ∀ i, m ≤ i → i < N → f.is i) (hm : 1 ≤ m) (hn : 1 ≤ n) (hr : m + n ≤ N) : f.all ⟨(m : Int), (n : Int)⟩ true = true :=
  all_iff.2 ⟨by simp only; omega, by rw [h1]; simp only; omega, by rw [h2]; simp only [Int.toNat_natCast]; omega, fun i q1 q2 => by
    simp only [Int.toNat_natCast] at q1 q2
    exact ht i q1 (by omega)⟩
/-- a text that is put -/
theorem Sto.put (h : Sto S0 sup S K0 K m) (ha : Alive S.st) (hb : ∀ z ∈ b, 0 ≤ z ∧ z ≤ 255) (hl : b.length ≤ 131072) (hx : S.next < 18446744073709551615) (hp : PutR S b id er S') :
    (∃ x ∈ K, x.2.2 = b ∧ id = x.1 ∧ er = 0 ∧ S' = S) ∨
    ((∀ x ∈ K, x.2.2 ≠ b) ∧ ((er = 70 ∧ S' = S ∧ S.st.S.length / 4 < m + needP b.length) ∨
      (er = 0 ∧ id = S.next ∧ ∃ c m', Sto S0 sup S' K0 (K ++ [(S.next, c, b)]) m' ∧ m' ≤ m + needP b.length ∧ Alive S'.st ∧ S'.next = S.next + 1 ∧ S'.st.S = S.st.S ∧ S'.first = S.first ∧ S'.gone = S.gone ∧ S'.state = S.state ∧ S'.st.C.length ≤ S.st.C.length + 4232))) := by
  unfold PutR at hp
  rw [if_neg (by rw [h.en]; simp), if_neg (by omega)] at hp
  obtain ⟨id0, er0, hs1, hp⟩ := hp
  obtain ⟨e0, hs2⟩ := h.same ha.1 hs1
  subst e0
  rcases hs2 with ⟨x, hx, hxb, hid⟩ | ⟨hid, hno⟩
  · have : 1 ≤ x.1 := (h.ck x hx).2.2.1
    rw [if_pos (.inl (by omega))] at hp
    exact .inl ⟨x, hx, hxb, by omega, hp.2.1, hp.2.2⟩
  · right
    refine ⟨hno, ?_⟩
    rw [if_neg (by simp [hid]), if_neg (by omega)] at hp
    have hn := need_pos hl
    cases hf : S.c.f.first (needP b.length) with
    | none =>
      left
      rw [h.tg.put_none hn hf] at hp
      rw [if_pos (by simp)] at hp
      refine ⟨hp.2.1, ?_, ?_⟩
      · rw [hp.2.2]
        have he : endsE 70 = S.ended := by rw [h.en]; rfl
        simp only [he]
      · by_cases q : S.st.S.length / 4 < m + needP b.length
        · exact q
        · exfalso
          have := all_top (f := S.c.f) (m := m) (n := needP b.length) h.tg.lf h.tg.Lf h.top h.m1 (by omega) (by omega)
          unfold Fr.first at hf
          rw [List.find?_eq_none] at hf
          exact hf m (by rw [List.mem_range, h.tg.Lf]; omega) this
    | some A =>
      right
      obtain ⟨p1, p2⟩ := h.tg.put_alive ha hn hf
      rcases h.tg.put hb hn hf with ⟨q1, q2, q3, q4, q5⟩ | ⟨q1, _⟩
      · rw [if_neg (by rw [q1]; simp)] at hp
        obtain ⟨hi, he, hS⟩ := hp
        obtain ⟨r1, r2, r3, r4⟩ := h.tg.row hf
        have hCl := put_C S.c S.st b
        refine ⟨he, hi, ⟨⟨A, needP b.length⟩, b.length, sumN b⟩, max m (A + needP b.length), ?_, ?_, ?_, ?_, ?_, ?_, ?_, ?_, ?_⟩
        · rw [hS]
          refine ⟨?_, ?_, ?_, ?_, ?_, ?_, ?_, rfl, by simp only; have := h.nx; omega⟩
          · simp only [List.map_append, List.map_cons, List.map_nil]
            exact q3
          · intro i hi1 hi2
            simp only at hi2 ⊢
            rw [q5]
            simp only
            rw [is_put_false]
            refine ⟨h.top i (by omega) (by rw [q4] at hi2; exact hi2), by omega⟩
          · have := h.m1; omega
          · intro i c
            simp only
            by_cases z : i = S.next
            · subst z
              rw [upd_same]
              constructor
              · intro e
                cases e
                exact ⟨b, by rw [q1]; simp⟩
              · rintro ⟨t, ht⟩
                rcases List.mem_append.1 ht with y | y
                · have := (h.ck _ y).2.2.2
                  simp only at this
                  omega
                · simp only [List.mem_cons, List.not_mem_nil, or_false, Prod.mk.injEq] at y
                  rw [q1, y.2.1]
            · rw [upd_other _ _ z, h.ch]
              constructor
              · rintro ⟨t, ht⟩
                exact ⟨t, by simp [ht]⟩
              · rintro ⟨t, ht⟩
                rcases List.mem_append.1 ht with y | y
                · exact ⟨t, y⟩
                · simp only [List.mem_cons, List.not_mem_nil, or_false, Prod.mk.injEq] at y
                  exact absurd y.1 z
          · intro x hx'
            rcases List.mem_append.1 hx' with y | y
            · have := h.ck x y
              exact ⟨this.1, this.2.1, this.2.2.1, by simp only; omega⟩
            · simp only [List.mem_cons, List.not_mem_nil, or_false] at y
              subst y
              exact ⟨rfl, rfl, h.nx, by simp⟩
          · rw [List.pairwise_append]
            refine ⟨h.asc, List.pairwise_singleton _ _, fun x hx' y hy => ?_⟩
            simp only [List.mem_cons, List.not_mem_nil, or_false] at hy
            subst hy
            exact (h.ck x hx').2.2.2
          · rw [List.pairwise_append]
            refine ⟨h.txs, List.pairwise_singleton _ _, fun x hx' y hy => ?_⟩
            simp only [List.mem_cons, List.not_mem_nil, or_false] at hy
            subst hy
            exact hno x hx'
        · by_cases q : m + needP b.length ≤ S.st.S.length / 4
          · have := first_le hf (all_top (f := S.c.f) (m := m) (n := needP b.length) h.tg.lf h.tg.Lf h.top h.m1 (by omega) q) (by rw [h.tg.Lf]; omega)
            omega
          · omega
        · rw [hS]; exact p2
        · rw [hS]
        · rw [hS]; exact q4
        · rw [hS]
        · rw [hS]
        · rw [hS]
        · rw [hS]; exact hCl
      · exact absurd p1 q1
end
/-- a fresh device is no pager's yet -/
theorem fresh_load {n : Int} (h : 2 ≤ lenOf n) : (newSd n).openC.2 = 50 := by
  have hl : (newSd n).load.2 = 50 := by
    have hr : Rest (newSd n) := ⟨rfl, rfl, fun j => by
      show (List.replicate (lenOf n) false).getD j false = false
      rw [List.getD_eq_getElem?_getD]
      cases q : (List.replicate (lenOf n) false)[j]? with
      | none => rfl
      | some x => exact List.eq_of_mem_replicate (List.mem_of_getElem? q)⟩
    have hS : (newSd n).S.length = lenOf n := by simp [newSd]
    have h0 := rest_told hr (i := 0) (by omega)
    have h1 := rest_told hr (i := 1) (by omega)
    have e0 : (newSd n).S[0]'(by omega) = zeros := by simp [newSd]
    have e1 : (newSd n).S[1]'(by omega) = zeros := by simp [newSd]
    rw [e0] at h0
    rw [e1] at h1
    have hz : isSup zeros = false := by decide
    unfold Sd.load
    rw [show (0 : Int) = ((0 : Nat) : Int) from rfl, show (1 : Int) = ((1 : Nat) : Int) from rfl, h0, h1]
    simp only [pickSup, hz]
    decide
  unfold Sd.openC
  rw [if_neg (by omega)]
  exact hl
end Apo
