/- The document's table, pure: it stays by Name, each once; what is there behind Make, Set, Drop. -/
import Derived.Test.YticofadpbpcejaaRSt
import Derived.Test.YticofadpbpcejaaRDr
namespace Go.Proofs.Yticofadpbpcejaa
open Go.RowKit Apo
theorem insR_cons (y : Rf) (L : List Rf) (n : ByteArray) : insR (y :: L) n = if sLt y.n n then insR L n + 1 else 0 := by
  unfold insR
  rw [List.takeWhile_cons]
  split <;> simp_all
theorem put_mem (L : List Rf) (x z : Rf) (i : Nat) : z ∈ L.take i ++ x :: L.drop i ↔ z = x ∨ z ∈ L := by
  have h : z ∈ L ↔ z ∈ L.take i ∨ z ∈ L.drop i := by rw [← List.mem_append, List.take_append_drop]
  rw [h, List.mem_append, List.mem_cons]
  constructor
  · rintro (q | q | q)
    · exact .inr (.inl q)
    · exact .inl q
    · exact .inr (.inr q)
  · rintro (q | q | q)
    · exact .inr (.inl q)
    · exact .inl q
    · exact .inr (.inr q)
theorem put_rise (x : Rf) : ∀ L : List Rf, L.Pairwise (fun a b => sLt a.n b.n = true) → (∀ y ∈ L, y.n ≠ x.n) → (L.take (insR L x.n) ++ x :: L.drop (insR L x.n)).Pairwise (fun a b => sLt a.n b.n = true)
  | [], _, _ => by simp [insR]
  | y :: L, h, hn => by
    obtain ⟨h1, h2⟩ := List.pairwise_cons.1 h
    have ih := put_rise x L h2 (fun z hz => hn z (by simp [hz]))
    rw [insR_cons]
    cases q : sLt y.n x.n with
    | true =>
      simp only [if_true, List.take_succ_cons, List.drop_succ_cons, List.cons_append]
      refine List.pairwise_cons.2 ⟨fun z hz => ?_, ih⟩
      rcases (put_mem L x z _).1 hz with r | r
      · rw [r]; exact q
      · exact h1 z r
    | false =>
      have hxy : sLt x.n y.n = true := by
        cases r : sLt x.n y.n with
        | true => rfl
        | false => exact absurd (sLt_conn q r) (hn y (by simp))
      simp only [Bool.false_eq_true, if_false, List.take_zero, List.drop_zero, List.nil_append]
      refine List.pairwise_cons.2 ⟨fun z hz => ?_, h⟩
      rcases List.mem_cons.1 hz with r | r
      · rw [r]; exact hxy
      · exact sLt_trans hxy (h1 z r)
theorem getR_mem {L : List Rf} (h : Rok L) {n : ByteArray} {r : Rf} : getR L n = some r ↔ r ∈ L ∧ r.n = n := by
  rcases at_casesR L n with ⟨k, x, hx, hxn, _, h2, _⟩ | ⟨h2, _, hb⟩
  · rw [h2]
    constructor
    · intro e
      injection e with e
      subst e
      exact ⟨List.mem_of_getElem? hx, hxn⟩
    · rintro ⟨hr, hn⟩
      obtain ⟨j, hj⟩ := List.getElem?_of_mem hr
      have := h.apart hx hj (by rw [hxn, hn])
      subst this
      rw [← hx, hj]
  · rw [h2]
    constructor
    · intro e; cases e
    · rintro ⟨hr, hn⟩
      exact absurd hn (hb r hr)
theorem getR_none {L : List Rf} {n : ByteArray} : getR L n = none ↔ ∀ r ∈ L, r.n ≠ n := by
  unfold getR
  rw [List.find?_eq_none]
  simp
theorem makeE_zero {L : List Rf} {x : Rf} : makeE L x = 0 ↔ nameM x.n = true ∧ getR L x.n = none ∧ L.length < 40 := by
  unfold makeE
  cases h1 : nameM x.n with
  | false => simp
  | true =>
    cases h2 : getR L x.n with
    | some r => simp
    | none =>
      by_cases h3 : 40 ≤ L.length
      · simp [h3]
      · simp [h3]; omega
theorem Rok.make {L : List Rf} (h : Rok L) (x : Rf) : Rok (makeL L x) := by
  unfold makeL
  split
  · rename_i h0
    obtain ⟨_, h2, h3⟩ := makeE_zero.1 h0
    exact ⟨put_rise x L h.rise (getR_none.1 h2), by simp; omega⟩
  · exact h
theorem Rok.set {L : List Rf} (h : Rok L) (n : ByteArray) (old id : Int) : Rok (setL L n old id) := by
  unfold setL
  split
  · refine ⟨?_, by rw [List.length_map]; exact h.len⟩
    rw [List.pairwise_map]
    refine h.rise.imp (fun {a b} q => ?_)
    have hs : ∀ r : Rf, (if r.n = n then { r with i := id } else r).n = r.n := fun r => by split <;> rfl
    rw [hs, hs]
    exact q
  · exact h
theorem Rok.drop {L : List Rf} (h : Rok L) (n : ByteArray) : Rok (dropL L n) :=
  ⟨List.Pairwise.sublist List.filter_sublist h.rise, Nat.le_trans (List.length_filter_le _ _) h.len⟩
theorem Rok.nil : Rok [] := ⟨List.Pairwise.nil, by decide⟩
theorem make_mem {L : List Rf} {x z : Rf} (h0 : makeE L x = 0) : z ∈ makeL L x ↔ z = x ∨ z ∈ L := by
  unfold makeL
  rw [if_pos h0]
  exact put_mem L x z _
theorem drop_mem {L : List Rf} {n : ByteArray} {z : Rf} : z ∈ dropL L n ↔ z ∈ L ∧ z.n ≠ n := by
  unfold dropL
  rw [List.mem_filter]
  simp
/-- tables of the same refs are one -/
theorem rok_ext : ∀ {L M : List Rf}, L.Pairwise (fun a b => sLt a.n b.n = true) → M.Pairwise (fun a b => sLt a.n b.n = true) → (∀ z, z ∈ L ↔ z ∈ M) → L = M
  | [], [], _, _, _ => rfl
  | [], y :: M, _, _, h => absurd ((h y).2 (by simp)) (by simp)
  | x :: L, [], _, _, h => absurd ((h x).1 (by simp)) (by simp)
  | x :: L, y :: M, h1, h2, h => by
    obtain ⟨a1, a2⟩ := List.pairwise_cons.1 h1
    obtain ⟨b1, b2⟩ := List.pairwise_cons.1 h2
    have hxy : x = y := by
      rcases List.mem_cons.1 ((h x).1 (by simp)) with q | q
      · exact q
      · rcases List.mem_cons.1 ((h y).2 (by simp)) with r | r
        · exact r.symm
        · have := sLt_trans (a1 y r) (b1 x q)
          rw [sLt_irr] at this
          cases this
    subst hxy
    have hL : ∀ {K : List Rf}, (∀ z ∈ K, sLt x.n z.n = true) → x ∉ K := fun {K} q r => by
      have := q x r
      rw [sLt_irr] at this
      cases this
    rw [rok_ext a2 b2 (fun z => ⟨fun q => ?_, fun q => ?_⟩)]
    · rcases List.mem_cons.1 ((h z).1 (by simp [q])) with r | r
      · exact absurd (r ▸ q) (hL a1)
      · exact r
    · rcases List.mem_cons.1 ((h z).2 (by simp [q])) with r | r
      · exact absurd (r ▸ q) (hL b1)
      · exact r
end Go.Proofs.Yticofadpbpcejaa
