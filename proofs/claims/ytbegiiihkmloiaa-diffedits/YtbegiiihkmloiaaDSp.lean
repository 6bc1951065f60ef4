/- Sorting that is stable, as it is meant. Pure. -/
import Derived.Test.YtbegiiihkmloiaaDGe
namespace Go.Proofs.Ytbegiiihkmloiaa
open Go.RowKit Apo
def leK (a b : ByteArray) : Prop := sLt b a = false
theorem leK_refl (a : ByteArray) : leK a a := sLt_irr a
theorem leK_of {a b : ByteArray} (h : sLt a b = true) : leK a b := by
  unfold leK
  cases q : sLt b a with
  | false => rfl
  | true => have := sLt_trans h q; rw [sLt_irr] at this; cases this
theorem leK_trans {a b c : ByteArray} (h : leK a b) (k : leK b c) : leK a c := by
  unfold leK at h k ⊢
  cases q : sLt c a with
  | false => rfl
  | true =>
    cases z : sLt a b with
    | true => have := sLt_trans q z; rw [k] at this; cases this
    | false => rw [sLt_conn h z] at k; rw [k] at q; cases q
theorem lt_leK {a b c : ByteArray} (h : sLt a b = true) (k : leK b c) : sLt a c = true := by
  cases q : sLt a c with
  | true => rfl
  | false =>
    have := leK_trans k (show leK c a from q)
    unfold leK at this
    rw [h] at this
    cases this
theorem leK_lt {a b c : ByteArray} (h : leK a b) (k : sLt b c = true) : sLt a c = true := by
  cases q : sLt a c with
  | true => rfl
  | false =>
    have := leK_trans (show leK c a from q) h
    unfold leK at this
    rw [k] at this
    cases this
/-- the key at a place -/
def kAt (d : List Ed) (i : Nat) : ByteArray := ((d[i]?).map Ed.k).getD ByteArray.empty
theorem kAt_some {d : List Ed} {i : Nat} {x : Ed} (h : d[i]? = some x) : kAt d i = x.k := by unfold kAt; rw [h]; rfl
def SrtIn (d : List Ed) (a b : Nat) : Prop := ∀ i j, a ≤ i → i < j → j < b → leK (kAt d i) (kAt d j)
theorem SrtIn.sub {d : List Ed} {a b a' b' : Nat} (h : SrtIn d a b) (h1 : a ≤ a') (h2 : b' ≤ b) : SrtIn d a' b' := fun i j q1 q2 q3 => h i j (by omega) q2 (by omega)
theorem SrtIn.le {d : List Ed} {a b : Nat} (h : SrtIn d a b) {i j : Nat} (h1 : a ≤ i) (h2 : i ≤ j) (h3 : j < b) : leK (kAt d i) (kAt d j) := by
  by_cases q : i = j
  · rw [q]; exact leK_refl _
  · exact h i j h1 (by omega) h3
def Out (d d' : List Ed) (a b : Nat) : Prop := ∀ i, (i < a ∨ b ≤ i) → d'[i]? = d[i]?
theorem Out.refl (d : List Ed) (a b : Nat) : Out d d a b := fun _ _ => rfl
theorem Out.trans {d d' d'' : List Ed} {a b a1 b1 a2 b2 : Nat} (h : Out d d' a1 b1) (k : Out d' d'' a2 b2) (h1 : a ≤ a1) (h2 : b1 ≤ b) (h3 : a ≤ a2) (h4 : b2 ≤ b) : Out d d'' a b := fun i hi => (k i (by omega)).trans (h i (by omega))
theorem Out.key {d d' : List Ed} {a b : Nat} (h : Out d d' a b) {i : Nat} (hi : i < a ∨ b ≤ i) : kAt d' i = kAt d i := by unfold kAt; rw [h i hi]
theorem Out.srt {d d' : List Ed} {a b x y : Nat} (h : Out d d' a b) (hs : SrtIn d x y) (hd : y ≤ a ∨ b ≤ x) : SrtIn d' x y := fun i j h1 h2 h3 => by
  rw [h.key (by omega), h.key (by omega)]
  exact hs i j h1 h2 h3
open Classical in
noncomputable def ofK (d : List Ed) (k : ByteArray) : List Ed := d.filter (fun e => decide (e.k = k))
/-- the same edits, those of each key in their order -/
def Stb (d d' : List Ed) : Prop := d'.length = d.length ∧ ∀ k, ofK d' k = ofK d k
theorem Stb.refl (d : List Ed) : Stb d d := ⟨rfl, fun _ => rfl⟩
theorem Stb.trans {a b c : List Ed} (h : Stb a b) (k : Stb b c) : Stb a c := ⟨k.1.trans h.1, fun q => (k.2 q).trans (h.2 q)⟩
theorem ofK_app (a b : List Ed) (k : ByteArray) : ofK (a ++ b) k = ofK a k ++ ofK b k := by simp [ofK]
/-- two blocks that share no key change places -/
theorem Stb.swap {p a b s : List Ed} (h : ∀ x ∈ a, ∀ y ∈ b, x.k ≠ y.k) : Stb (p ++ (a ++ (b ++ s))) (p ++ (b ++ (a ++ s))) := by
  refine ⟨by simp; omega, fun k => ?_⟩
  simp only [ofK_app]
  by_cases q : ∃ x ∈ a, x.k = k
  · obtain ⟨x, hx, hk⟩ := q
    have : ofK b k = [] := by
      unfold ofK
      rw [List.filter_eq_nil_iff]
      intro y hy z
      rw [decide_eq_true_eq] at z
      exact h x hx y hy (hk.trans z.symm)
    rw [this]
    simp
  · have : ofK a k = [] := by
      unfold ofK
      rw [List.filter_eq_nil_iff]
      intro y hy z
      rw [decide_eq_true_eq] at z
      exact q ⟨y, hy, z⟩
    rw [this]
    simp
/-- two places change what they hold -/
def swL (d : List Ed) (i j : Nat) : List Ed := match d[i]?, d[j]? with
  | some x, some y => (d.set i y).set j x
  | _, _ => d
theorem swL_len (d : List Ed) (i j : Nat) : (swL d i j).length = d.length := by
  unfold swL
  split <;> simp
theorem swL_get {d : List Ed} {i j : Nat} (hi : i < d.length) (hj : j < d.length) (t : Nat) : (swL d i j)[t]? = if t = j then d[i]? else if t = i then d[j]? else d[t]? := by
  have e1 : d[i]? = some d[i] := List.getElem?_eq_getElem hi
  have e2 : d[j]? = some d[j] := List.getElem?_eq_getElem hj
  unfold swL
  rw [e1, e2]
  simp only
  rw [List.getElem?_set]
  by_cases h1 : t = j
  · subst h1; simp [hj]
  · rw [if_neg h1, if_neg (Ne.symm h1), List.getElem?_set]
    by_cases h2 : t = i
    · subst h2; simp [hi]
    · rw [if_neg h2, if_neg (Ne.symm h2)]
theorem swL_key {d : List Ed} {i j : Nat} (hi : i < d.length) (hj : j < d.length) (t : Nat) : kAt (swL d i j) t = if t = j then kAt d i else if t = i then kAt d j else kAt d t := by
  unfold kAt
  rw [swL_get hi hj]
  split
  · rfl
  · split <;> rfl
theorem swL_comm {d : List Ed} {i j : Nat} (hi : i < d.length) (hj : j < d.length) : swL d i j = swL d j i := by
  refine List.ext_getElem? (fun t => ?_)
  rw [swL_get hi hj, swL_get hj hi]
  by_cases h1 : t = j
  · by_cases h2 : t = i
    · subst h1; subst h2; rfl
    · simp [h1, show ¬ j = i by omega]
  · simp [h1]
theorem swL_out {d : List Ed} {i j a b : Nat} (hi : i < d.length) (hj : j < d.length) (h1 : a ≤ i) (h2 : a ≤ j) (h3 : i < b) (h4 : j < b) : Out d (swL d i j) a b := fun t ht => by
  rw [swL_get hi hj, if_neg (by omega), if_neg (by omega)]
theorem swL_stb {d : List Ed} {i : Nat} (hi : i + 1 < d.length) (hk : kAt d i ≠ kAt d (i + 1)) : Stb d (swL d i (i + 1)) := by
  have e1 : d[i]? = some (d[i]'(by omega)) := List.getElem?_eq_getElem _
  have e2 : d[i + 1]? = some d[i + 1] := List.getElem?_eq_getElem hi
  have hd : d = d.take i ++ ([d[i]'(by omega)] ++ ([d[i + 1]] ++ d.drop (i + 2))) := by
    conv => lhs; rw [← List.take_append_drop i d]
    rw [List.drop_eq_getElem_cons (by omega), List.drop_eq_getElem_cons (by omega)]
    simp
  have hs : swL d i (i + 1) = d.take i ++ ([d[i + 1]] ++ ([d[i]'(by omega)] ++ d.drop (i + 2))) := by
    refine List.ext_getElem? (fun t => ?_)
    rw [swL_get (by omega) hi]
    by_cases h0 : t < i
    · rw [if_neg (by omega), if_neg (by omega), List.getElem?_append_left (by simp; omega), List.getElem?_take, if_pos h0]
    · rw [List.getElem?_append_right (by simp; omega), List.length_take, Nat.min_eq_left (by omega)]
      by_cases h1 : t = i
      · subst h1; rw [if_neg (by omega), if_pos rfl]; simp [e2]
      · by_cases h2 : t = i + 1
        · subst h2; rw [if_pos rfl, e1]; simp
        · rw [if_neg h2, if_neg h1]
          obtain ⟨u, rfl⟩ : ∃ u, t = i + 2 + u := ⟨t - (i + 2), by omega⟩
          rw [show i + 2 + u - i = u + 2 by omega]
          simp
  rw [hs]
  conv => arg 1; rw [hd]
  refine Stb.swap (fun x hx y hy q => hk ?_)
  rw [List.mem_singleton] at hx hy
  rw [kAt_some e1, kAt_some e2, ← hx, ← hy]
  exact q
/-- what lies between two places came from between them -/
def Frm (d d' : List Ed) (a b : Nat) : Prop := ∀ i, a ≤ i → i < b → ∃ j, a ≤ j ∧ j < b ∧ kAt d' i = kAt d j
theorem Frm.refl (d : List Ed) (a b : Nat) : Frm d d a b := fun i h1 h2 => ⟨i, h1, h2, rfl⟩
theorem Frm.trans {d d' d'' : List Ed} {a b : Nat} (h : Frm d d' a b) (k : Frm d' d'' a b) : Frm d d'' a b := fun i h1 h2 => by
  obtain ⟨j, q1, q2, q3⟩ := k i h1 h2
  obtain ⟨t, z1, z2, z3⟩ := h j q1 q2
  exact ⟨t, z1, z2, q3.trans z3⟩
theorem Frm.wide {d d' : List Ed} {a b a' b' : Nat} (h : Frm d d' a b) (o : Out d d' a b) (h1 : a' ≤ a) (h2 : b ≤ b') : Frm d d' a' b' := fun i q1 q2 => by
  by_cases z : a ≤ i ∧ i < b
  · obtain ⟨j, y1, y2, y3⟩ := h i z.1 z.2
    exact ⟨j, by omega, by omega, y3⟩
  · exact ⟨i, q1, q2, o.key (by omega)⟩
theorem swL_frm {d : List Ed} {i j a b : Nat} (hi : i < d.length) (hj : j < d.length) (h1 : a ≤ i) (h2 : a ≤ j) (h3 : i < b) (h4 : j < b) : Frm d (swL d i j) a b := fun t q1 q2 => by
  rw [swL_key hi hj]
  split
  · exact ⟨i, h1, h3, rfl⟩
  · split
    · exact ⟨j, h2, h4, rfl⟩
    · exact ⟨t, q1, q2, rfl⟩
theorem neK_lt {a b : ByteArray} (h : sLt a b = true) : a ≠ b := fun q => by rw [q, sLt_irr] at h; cases h
end Go.Proofs.Ytbegiiihkmloiaa
