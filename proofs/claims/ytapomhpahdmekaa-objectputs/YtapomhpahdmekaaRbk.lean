/- Numbers and texts read of bytes, and back, pure; parts, one behind the other. -/
import Derived.Test.YtapomhpahdmekaaKRe
namespace Go.Proofs.Ytapomhpahdmekaa
open Go.RowKit Apo
theorem rnum_enc {n : Nat} {r : List Int} {most : Int} (h : n < top) (hm : (n : Int) ≤ most) : rnum (some (enc n ++ r)) most = ((n : Int), some r) := by
  unfold rnum
  simp only
  rw [num1_yes h rfl]
  simp only
  rw [if_pos hm]
theorem rtext_enc {s : ByteArray} {r : List Int} {most : Int} (h : s.size < top) (hm : (s.size : Int) ≤ most) : rtext (some (enc s.size ++ nums s ++ r)) most = (nums s, some r) := by
  unfold rtext
  rw [if_neg (by omega), List.append_assoc, rnum_enc h hm]
  simp only
  rw [if_pos (by rw [List.length_append, nums_length]; omega), Int.toNat_natCast]
  have hl := nums_length s
  rw [List.take_append_of_le_length (by omega), List.take_of_length_le (by omega), List.drop_append_of_le_length (by omega), List.drop_of_length_le (by omega), List.nil_append]
theorem rnum_some {l r : List Int} {most n : Int} (h : rnum (some l) most = (n, some r)) : l = enc n.toNat ++ r ∧ 0 ≤ n ∧ n ≤ most := by
  unfold rnum at h
  simp only at h
  rcases num1_cases l with ⟨m, q, h1, h2, h3⟩ | ⟨_, h3⟩
  · rw [h3] at h
    simp only at h
    split at h
    · injection h with e1 e2
      injection e2 with e2
      subst e1 e2
      exact ⟨by rw [Int.toNat_natCast]; exact h2, by omega, by assumption⟩
    · injection h with e1 e2
      cases e2
  · rw [h3] at h
    simp only at h
    injection h with e1 e2
    cases e2
theorem rtext_some {l r t : List Int} {most : Int} (h : rtext (some l) most = (t, some r)) : l = enc t.length ++ t ++ r ∧ (t.length : Int) ≤ most := by
  unfold rtext at h
  split at h
  · injection h with e1 e2
    cases e2
  · cases hq : rnum (some l) most with
    | mk n st =>
      rw [hq] at h
      cases st with
      | none =>
        simp only at h
        injection h with e1 e2
        cases e2
      | some q =>
        simp only at h
        obtain ⟨h1, h2, h3⟩ := rnum_some hq
        split at h
        · injection h with e1 e2
          injection e2 with e2
          subst e1 e2
          have hl : (q.take n.toNat).length = n.toNat := by rw [List.length_take]; omega
          rw [hl, List.append_assoc, List.take_append_drop]
          exact ⟨h1, by omega⟩
        · injection h with e1 e2
          cases e2
theorem rtext_none (most : Int) : rtext none most = ([], none) := by
  unfold rtext rnum
  split <;> rfl
theorem InB.right {a b : List Int} (h : InB (a ++ b)) : InB b := fun z hz => h z (by simp [hz])
theorem InB.left {a b : List Int} (h : InB (a ++ b)) : InB a := fun z hz => h z (by simp [hz])
theorem text_back {t : List Int} (h : InB t) : enc (strOfNums t).size ++ nums (strOfNums t) = enc t.length ++ t := by
  rw [strOfNums_size, nums_strOfNums h]
/-- what a text's length may be -/
theorem rtext_le (st : St) (most : Int) (h0 : 0 ≤ most) : ((rtext st most).1.length : Int) ≤ most := by
  cases h : rtext st most with
  | mk t r =>
    cases r with
    | some r => cases st with
      | none => rw [rtext_none] at h; cases h
      | some l => exact (rtext_some h).2
    | none =>
      have : t = [] := by
        unfold rtext at h
        split at h
        · cases h; rfl
        · split at h
          · split at h
            · cases h
            · cases h; rfl
          · cases h; rfl
      rw [this]
      simpa using h0
/-- k parts, one behind the other -/
noncomputable def eachK {α : Type} (f : St → α × St) (st : St) : Nat → List α × St
  | 0 => ([], st)
  | k + 1 => ((eachK f st k).1 ++ [(f (eachK f st k).2).1], (f (eachK f st k).2).2)
theorem eachK_len {α : Type} (f : St → α × St) (st : St) : ∀ k, (eachK f st k).1.length = k
  | 0 => rfl
  | k + 1 => by simp [eachK, eachK_len f st k]
theorem eachK_none {α : Type} {f : St → α × St} (h : (f none).2 = none) : ∀ k, (eachK f none k).2 = none
  | 0 => rfl
  | k + 1 => by simp only [eachK]; rw [eachK_none h k, h]
theorem rnum_none (most : Int) : rnum none most = (0, none) := rfl
/-- the greatest number -/
abbrev full : Int := 18446744073709551615
theorem rnum_bd (st : St) {most : Int} (h : 0 ≤ most) : 0 ≤ (rnum st most).1 ∧ (rnum st most).1 ≤ most := by
  cases q : rnum st most with
  | mk n r =>
    cases r with
    | some r => exact rnum_le q
    | none => have := rnum_bad q; simp only; omega
/-- numbers as bytes -/
def psB (l : List Int) : List Int := l.flatMap (fun z => enc z.toNat)
theorem rfull_enc {n : Int} {r : List Int} (h0 : 0 ≤ n) (h1 : n ≤ full) : rnum (some (enc n.toNat ++ r)) full = (n, some r) := by
  have := rnum_enc (n := n.toNat) (r := r) (most := full) (by unfold top; unfold full at h1; omega) (by unfold full at h1 ⊢; omega)
  rw [this, Int.toNat_of_nonneg h0]
theorem eachN_enc {x : List Int} : ∀ (k : Nat) {l : List Int}, (∀ z ∈ l, 0 ≤ z ∧ z ≤ full) → k ≤ l.length → eachK (fun st => rnum st full) (some (psB l ++ x)) k = (l.take k, some (psB (l.drop k) ++ x))
  | 0, l, _, _ => by simp [eachK]
  | k + 1, l, hl, hk => by
    have ih := eachN_enc (x := x) k hl (by omega)
    have hd : l.drop k = l[k] :: l.drop (k + 1) := List.drop_eq_getElem_cons (by omega)
    obtain ⟨h1, h2⟩ := hl l[k] (List.getElem_mem _)
    simp only [eachK]
    rw [ih, hd]
    unfold psB
    rw [List.flatMap_cons, List.append_assoc, rfull_enc h1 h2]
    simp only
    rw [List.take_succ_eq_append_getElem (by omega)]
theorem eachN_back {r : List Int} : ∀ (k : Nat) {x : List Int}, (eachK (fun st => rnum st full) (some r) k).2 = some x → r = psB (eachK (fun st => rnum st full) (some r) k).1 ++ x
  | 0, x, h => by
    simp only [eachK] at h ⊢
    cases h
    rfl
  | k + 1, x, h => by
    simp only [eachK] at h ⊢
    cases hq : (eachK (fun st => rnum st full) (some r) k).2 with
    | none => rw [hq] at h; cases h
    | some y =>
      have e1 := eachN_back k hq
      rw [hq] at h
      cases hn : rnum (some y) full with
      | mk n st =>
        rw [hn] at h
        simp only at h ⊢
        subst h
        obtain ⟨e2, _, _⟩ := rnum_some hn
        unfold psB at e1 ⊢
        rw [List.flatMap_append, List.append_assoc]
        simp only [List.flatMap_cons, List.flatMap_nil, List.append_nil]
        rw [← e2]
        exact e1
theorem eachN_bd (st : St) : ∀ k, ∀ z ∈ (eachK (fun st => rnum st full) st k).1, 0 ≤ z ∧ z ≤ full
  | 0, z, h => by simp [eachK] at h
  | k + 1, z, h => by
    simp only [eachK, List.mem_append, List.mem_singleton] at h
    rcases h with h | rfl
    · exact eachN_bd st k z h
    · exact rnum_bd _ (by unfold full; omega)
end Go.Proofs.Ytapomhpahdmekaa
