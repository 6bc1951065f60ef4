/- What a crash keeps, of a device as it is meant. No Go text is named here. -/
import Derived.Test.YtdpbkmbegjcgjaaSd
namespace Apo
open Go

/-- never armed, and alive -/
def Live (st : Sd) : Prop := st.dead = false ∧ st.left = -1
theorem Live.acts {st : Sd} (h : Live st) : st.acts = true := by simp [Sd.acts, h.1, h.2]
theorem Live.acted {st : Sd} (h : Live st) : st.acted = st := by
  unfold Sd.acted
  rw [h.acts]
  simp only [if_true]
  rw [if_neg (by rw [h.2]; omega)]
theorem Live.new (n : Int) : Live (newSd n) := ⟨rfl, rfl⟩
theorem Live.wrote {st : Sd} (h : Live st) (a : Int) (b : List Int) : (st.wrote a b).2 = (if st.has a && b.length == 32 then { st with C := st.C ++ [(a.toNat, b)] } else st) := by
  unfold Sd.wrote
  rw [if_neg (by rw [h.1]; decide), h.acts, h.acted]
  split <;> simp

/-- what is written, one behind the other -/
def writes (st : Sd) (l : List Dd) : Sd := l.foldl (fun s d => (s.wrote d.at' d.b).2) st
theorem writes_snoc {l : List Dd} {k : Nat} {d : Dd} (st : Sd) (h : l[k]? = some d) : writes st (l.take (k + 1)) = ((writes st (l.take k)).wrote d.at' d.b).2 := by
  rw [List.take_add_one, h]
  simp [writes, List.foldl_append]
structure Wrt (st st' : Sd) (l : List Dd) : Prop where
  live : Live st'
  S : st'.S = st.S
  bad : st'.bad = st.bad
  mem : ∀ x ∈ st'.C, x ∈ st.C ∨ ∃ d ∈ l, d.at' = (x.1 : Int) ∧ d.b = x.2
  len : st'.C.length ≤ st.C.length + l.length
theorem writes_all : ∀ (l : List Dd) {st : Sd}, Live st → Wrt st (writes st l) l
  | [], st, h => ⟨h, rfl, rfl, fun x hx => .inl hx, by simp [writes]⟩
  | d :: l, st, h => by
    have hw := h.wrote d.at' d.b
    have hl : Live (st.wrote d.at' d.b).2 := by
      rw [hw]
      split
      · exact h
      · exact h
    obtain ⟨r1, r2, r3, r4, r5⟩ := writes_all l hl
    have e : writes st (d :: l) = writes (st.wrote d.at' d.b).2 l := rfl
    rw [e]
    have hS : (st.wrote d.at' d.b).2.S = st.S := by rw [hw]; split <;> rfl
    have hB : (st.wrote d.at' d.b).2.bad = st.bad := by rw [hw]; split <;> rfl
    refine ⟨r1, r2.trans hS, r3.trans hB, ?_, ?_⟩
    · intro x hx
      rcases r4 x hx with h1 | ⟨d', hd', q⟩
      · rw [hw] at h1
        split at h1
        · next hc =>
          simp only [List.mem_append, List.mem_singleton] at h1
          rcases h1 with h1 | h1
          · exact .inl h1
          · subst h1
            simp only [Bool.and_eq_true] at hc
            have := has_iff.1 hc.1
            exact .inr ⟨d, by simp, by simp only; omega, rfl⟩
        · exact .inl h1
      · exact .inr ⟨d', by simp [hd'], q⟩
    · have : (st.wrote d.at' d.b).2.C.length ≤ st.C.length + 1 := by rw [hw]; split <;> simp
      simp only [List.length_cons]
      omega

/-- each sector but the torn one: as it was, or as a cached write had it -/
theorem crashK_each {keep : List Bool} {torn bytes : Int} {C : List (Nat × List Int)} {S : List (List Int)} (i : Nat) : ∀ k, (crashK keep torn bytes C S k)[i]? = S[i]? ∨ (∃ x ∈ C, x.1 = i ∧ (crashK keep torn bytes C S k)[i]? = some x.2) ∨ ∃ (m : Nat) (x : Nat × List Int), (m : Int) = torn ∧ C[m]? = some x ∧ x.1 = i
  | 0 => .inl rfl
  | k + 1 => by
    have ih := crashK_each (keep := keep) (torn := torn) (bytes := bytes) (C := C) (S := S) i k
    simp only [crashK]
    cases hx : C[k]? with
    | none => exact ih
    | some x =>
      simp only [crashOne]
      split
      · next ht =>
        by_cases hi : x.1 = i
        · exact .inr (.inr ⟨k, x, ht, hx, hi⟩)
        · rw [List.getElem?_set_ne hi]
          exact ih
      · split
        · by_cases hi : x.1 = i
          · subst hi
            by_cases hl : x.1 < (crashK keep torn bytes C S k).length
            · exact .inr (.inl ⟨x, List.mem_of_getElem? hx, rfl, by rw [List.getElem?_set_self hl]⟩)
            · rw [List.set_eq_of_length_le (by omega)]
              exact ih
          · rw [List.getElem?_set_ne hi]
            exact ih
        · exact ih

/-- the sector that is torn -/
def TornAt (st : Sd) (f : Fat) (i : Nat) : Prop := ∃ (m : Nat) (x : Nat × List Int), (m : Int) = f.torn ∧ st.C[m]? = some x ∧ x.1 = i
theorem TornAt.one {st : Sd} {f : Fat} {i j : Nat} (h : TornAt st f i) (k : TornAt st f j) : i = j := by
  obtain ⟨m, x, e1, e2, e3⟩ := h
  obtain ⟨m', x', e1', e2', e3'⟩ := k
  have : m = m' := by omega
  subst this
  rw [e2] at e2'
  cases e2'
  omega

/-- told of a device with nothing cached and no fault -/
theorem told_plain {st : Sd} (h : Live st) (hC : st.C = []) (hb : ∀ j, st.bad.getD j false = false) {i : Nat} (hi : i < st.S.length) : st.told i = (st.S[i], 0) := by
  have h1 : st.has i = true := has_iff.2 ⟨by omega, by omega⟩
  unfold Sd.told
  rw [h.1, h1, hC]
  simp only [Int.toNat_natCast, hb, lastOf]
  simp [List.getD, hi]
end Apo
