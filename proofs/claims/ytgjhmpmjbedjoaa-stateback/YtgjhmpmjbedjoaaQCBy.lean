/- Clashes as bytes and back, pure. -/
import Derived.Test.YtgjhmpmjbedjoaaQCPr
import Derived.Test.YtgjhmpmjbedjoaaQKRe
namespace Go.Proofs.Ytgjhmpmjbedjoaa
open Go.RowKit Apo
theorem rnum_enc {n : Nat} {r : List Int} {most : Int} (h : n < top) (hm : (n : Int) ≤ most) : rnum (some (enc n ++ r)) most = ((n : Int), some r) := by
  unfold rnum
  simp only
  rw [num1_yes h rfl]
  simp only
  rw [if_pos hm]
theorem rtext_enc {s : ByteArray} {r : List Int} {most : Int} (h : s.size < top) (hm : (s.size : Int) ≤ most) : rtext (some (enc s.size ++ nums s ++ r)) most = (nums s, some r) := by
  unfold rtext
  rw [if_neg (by omega), List.append_assoc, rnum_enc h hm]
  simp only
  rw [if_pos (by rw [List.length_append, nums_length]; omega), Int.toNat_natCast]
  have hl := nums_length s
  rw [List.take_append_of_le_length (by omega), List.take_of_length_le (by omega), List.drop_append_of_le_length (by omega), List.drop_of_length_le (by omega), List.nil_append]
theorem rnum_some {l r : List Int} {most n : Int} (h : rnum (some l) most = (n, some r)) : l = enc n.toNat ++ r ∧ 0 ≤ n ∧ n ≤ most := by
  unfold rnum at h
  simp only at h
  rcases num1_cases l with ⟨m, q, h1, h2, h3⟩ | ⟨_, h3⟩
  · rw [h3] at h
    simp only at h
    split at h
    · injection h with e1 e2
      injection e2 with e2
      subst e1 e2
      exact ⟨by rw [Int.toNat_natCast]; exact h2, by omega, by assumption⟩
    · injection h with e1 e2
      cases e2
  · rw [h3] at h
    simp only at h
    injection h with e1 e2
    cases e2
theorem rtext_some {l r t : List Int} {most : Int} (h : rtext (some l) most = (t, some r)) : l = enc t.length ++ t ++ r ∧ (t.length : Int) ≤ most := by
  unfold rtext at h
  split at h
  · injection h with e1 e2
    cases e2
  · cases hq : rnum (some l) most with
    | mk n st =>
      rw [hq] at h
      cases st with
      | none =>
        simp only at h
        injection h with e1 e2
        cases e2
      | some q =>
        simp only at h
        obtain ⟨h1, h2, h3⟩ := rnum_some hq
        split at h
        · injection h with e1 e2
          injection e2 with e2
          subst e1 e2
          have hl : (q.take n.toNat).length = n.toNat := by rw [List.length_take]; omega
          rw [hl, List.append_assoc, List.take_append_drop]
          exact ⟨h1, by omega⟩
        · injection h with e1 e2
          cases e2
theorem rtext_none (most : Int) : rtext none most = ([], none) := by
  unfold rtext rnum
  split <;> rfl
theorem InB.right {a b : List Int} (h : InB (a ++ b)) : InB b := fun z hz => h z (by simp [hz])
theorem InB.left {a b : List Int} (h : InB (a ++ b)) : InB a := fun z hz => h z (by simp [hz])
theorem text_back {t : List Int} (h : InB t) : enc (strOfNums t).size ++ nums (strOfNums t) = enc t.length ++ t := by
  rw [strOfNums_size, nums_strOfNums h]
/-- what a text's length may be -/
theorem rtext_le (st : St) (most : Int) (h0 : 0 ≤ most) : ((rtext st most).1.length : Int) ≤ most := by
  cases h : rtext st most with
  | mk t r =>
    cases r with
    | some r => cases st with
      | none => rw [rtext_none] at h; cases h
      | some l => exact (rtext_some h).2
    | none =>
      have : t = [] := by
        unfold rtext at h
        split at h
        · cases h; rfl
        · split at h
          · split at h
            · cases h
            · cases h; rfl
          · cases h; rfl
      rw [this]
      simpa using h0
/-- a flag, a side, a clash, clashes as bytes -/
def flB (b : Bool) : List Int := if b then [1] else [0]
def siB (s : Si) : List Int := flB s.b ++ (enc s.v.size ++ nums s.v)
def clB (c : Cl) : List Int := (enc c.k.size ++ nums c.k) ++ siB c.a ++ siB c.b ++ siB c.c
def clsB (l : List Cl) : List Int := enc l.length ++ l.flatMap clB
theorem flB_enc (b : Bool) : flB b = enc (if b then 1 else 0) := by
  cases b
  · show [(0 : Int)] = enc 0
    exact (enc_one (m := 0) (by decide) (by decide)).symm
  · show [(1 : Int)] = enc 1
    exact (enc_one (m := 1) (by decide) (by decide)).symm
theorem flB_len (b : Bool) : (flB b).length = 1 := by cases b <;> rfl
theorem rflag_fl (b : Bool) (r : List Int) : rflag (some (flB b ++ r)) = (b, some r) := by
  unfold rflag
  rw [flB_enc, rnum_enc (by unfold top; cases b <;> simp) (by cases b <;> simp)]
  cases b <;> rfl
theorem rflag_some {l r : List Int} {b : Bool} (h : rflag (some l) = (b, some r)) : l = flB b ++ r := by
  unfold rflag at h
  cases hq : rnum (some l) 1 with
  | mk n st =>
    rw [hq] at h
    injection h with e1 e2
    simp only at e1 e2
    subst e2
    obtain ⟨h1, h2, h3⟩ := rnum_some hq
    rw [h1, flB_enc, ← e1]
    have : n = 0 ∨ n = 1 := by omega
    rcases this with rfl | rfl <;> rfl
theorem rflag_none : rflag none = (false, none) := rfl
noncomputable def siS (st : St) : Si × St := (⟨(rflag st).1, strOfNums (rtext (rflag st).2 200).1⟩, (rtext (rflag st).2 200).2)
noncomputable def clS (st : St) : Cl × St :=
  (⟨strOfNums (rtext st 40).1, (siS (rtext st 40).2).1, (siS (siS (rtext st 40).2).2).1, (siS (siS (siS (rtext st 40).2).2).2).1⟩, (siS (siS (siS (rtext st 40).2).2).2).2)
theorem siS_none : siS none = (⟨false, strOfNums []⟩, none) := by
  unfold siS
  rw [rflag_none, rtext_none]
theorem clS_none : (clS none).2 = none := by
  unfold clS
  simp only [rtext_none, siS_none]
theorem siS_size (st : St) : (siS st).1.v.size ≤ 200 := by
  have := rtext_le (rflag st).2 200 (by omega)
  unfold siS
  simp only [strOfNums_size]
  omega
theorem clS_size (st : St) : (clS st).1.k.size ≤ 40 ∧ (clS st).1.a.v.size ≤ 200 ∧ (clS st).1.b.v.size ≤ 200 ∧ (clS st).1.c.v.size ≤ 200 := by
  have := rtext_le st 40 (by omega)
  refine ⟨?_, siS_size _, siS_size _, siS_size _⟩
  unfold clS
  simp only [strOfNums_size]
  omega
theorem siS_enc {s : Si} {r : List Int} (h : s.v.size ≤ 200) : siS (some (siB s ++ r)) = (s, some r) := by
  unfold siS siB
  rw [List.append_assoc, rflag_fl]
  simp only
  rw [rtext_enc (by unfold top; omega) (by omega), strOfNums_nums]
theorem clS_enc {c : Cl} {r : List Int} (hk : c.k.size ≤ 40) (ha : c.a.v.size ≤ 200) (hb : c.b.v.size ≤ 200) (hc : c.c.v.size ≤ 200) : clS (some (clB c ++ r)) = (c, some r) := by
  unfold clS clB
  simp only [List.append_assoc]
  rw [← List.append_assoc (enc _) (nums _), rtext_enc (by unfold top; omega) (by omega)]
  simp only
  rw [siS_enc ha]
  simp only
  rw [siS_enc hb]
  simp only
  rw [siS_enc hc, strOfNums_nums]
theorem siS_some {l r : List Int} (hb : InB l) (h : (siS (some l)).2 = some r) : l = siB (siS (some l)).1 ++ r ∧ InB r := by
  unfold siS at h ⊢
  simp only at h ⊢
  cases hf : rflag (some l) with
  | mk b st =>
    rw [hf] at h
    simp only at h ⊢
    cases st with
    | none => rw [rtext_none] at h; cases h
    | some q =>
      have e1 := rflag_some hf
      cases ht : rtext (some q) 200 with
      | mk t st2 =>
        rw [ht] at h
        simp only at h ⊢
        subst h
        obtain ⟨e2, _⟩ := rtext_some ht
        have b1 : InB q := (e1 ▸ hb : InB (flB b ++ q)).right
        rw [e2] at b1
        unfold siB
        simp only
        rw [text_back b1.left.right, List.append_assoc, e1, e2]
        exact ⟨rfl, b1.right⟩
theorem clS_some {l r : List Int} (hb : InB l) (h : (clS (some l)).2 = some r) : l = clB (clS (some l)).1 ++ r ∧ InB r := by
  unfold clS at h ⊢
  simp only at h ⊢
  cases ht : rtext (some l) 40 with
  | mk t st =>
    rw [ht] at h
    simp only at h ⊢
    cases st with
    | none => rw [siS_none] at h; simp only [siS_none] at h; cases h
    | some q =>
      obtain ⟨e0, _⟩ := rtext_some ht
      have b0 : InB (enc t.length ++ t ++ q) := e0 ▸ hb
      cases h1 : siS (some q) with
      | mk s1 st1 =>
        rw [h1] at h
        simp only at h ⊢
        cases st1 with
        | none => rw [siS_none] at h; simp only [siS_none] at h; cases h
        | some q1 =>
          obtain ⟨e1, b1⟩ := siS_some b0.right (by rw [h1])
          rw [h1] at e1
          cases h2 : siS (some q1) with
          | mk s2 st2 =>
            rw [h2] at h
            simp only at h ⊢
            cases st2 with
            | none => rw [siS_none] at h; cases h
            | some q2 =>
              obtain ⟨e2, b2⟩ := siS_some b1 (by rw [h2])
              rw [h2] at e2
              obtain ⟨e3, b3⟩ := siS_some b2 h
              refine ⟨?_, b3⟩
              unfold clB
              simp only
              rw [text_back b0.left.right]
              simp only [List.append_assoc]
              rw [← e3, ← e2, ← e1, ← List.append_assoc]
              exact e0
/-- k parts, one behind the other -/
noncomputable def eachK {α : Type} (f : St → α × St) (st : St) : Nat → List α × St
  | 0 => ([], st)
  | k + 1 => ((eachK f st k).1 ++ [(f (eachK f st k).2).1], (f (eachK f st k).2).2)
theorem eachK_len {α : Type} (f : St → α × St) (st : St) : ∀ k, (eachK f st k).1.length = k
  | 0 => rfl
  | k + 1 => by simp [eachK, eachK_len f st k]
theorem eachK_bad (st : St) {k : Nat} (h : (eachK clS st k).2 = none) : ∀ j, k ≤ j → (eachK clS st j).2 = none
  | 0, hj => by rw [show k = 0 by omega] at h; exact h
  | j + 1, hj => by
    by_cases q : k = j + 1
    · rw [← q]; exact h
    · show (clS (eachK clS st j).2).2 = none
      rw [eachK_bad st h j (by omega), clS_none]
theorem eachK_sz (st : St) : ∀ k, ∀ c ∈ (eachK clS st k).1, c.k.size ≤ 40 ∧ c.a.v.size ≤ 200 ∧ c.b.v.size ≤ 200 ∧ c.c.v.size ≤ 200
  | 0, c, h => by simp [eachK] at h
  | k + 1, c, h => by
    simp only [eachK, List.mem_append, List.mem_singleton] at h
    rcases h with h | rfl
    · exact eachK_sz st k c h
    · exact clS_size _
theorem eachK_enc {x : List Int} : ∀ (k : Nat) {l : List Cl}, (∀ c ∈ l, c.k.size ≤ 40 ∧ c.a.v.size ≤ 200 ∧ c.b.v.size ≤ 200 ∧ c.c.v.size ≤ 200) → k ≤ l.length → eachK clS (some (l.flatMap clB ++ x)) k = (l.take k, some ((l.drop k).flatMap clB ++ x))
  | 0, l, _, _ => by simp [eachK]
  | k + 1, l, hl, hk => by
    have ih := eachK_enc (x := x) k hl (by omega)
    have hd : l.drop k = l[k] :: l.drop (k + 1) := List.drop_eq_getElem_cons (by omega)
    obtain ⟨h1, h2, h3, h4⟩ := hl l[k] (List.getElem_mem _)
    simp only [eachK]
    rw [ih, hd, List.flatMap_cons, List.append_assoc, clS_enc h1 h2 h3 h4]
    simp only
    rw [List.take_succ_eq_append_getElem (by omega)]
theorem eachK_back {r : List Int} (hb : InB r) : ∀ (k : Nat) {x : List Int}, (eachK clS (some r) k).2 = some x → r = (eachK clS (some r) k).1.flatMap clB ++ x ∧ InB x
  | 0, x, h => by
    simp only [eachK] at h ⊢
    cases h
    exact ⟨rfl, hb⟩
  | k + 1, x, h => by
    simp only [eachK] at h ⊢
    cases hq : (eachK clS (some r) k).2 with
    | none => rw [hq, clS_none] at h; cases h
    | some y =>
      obtain ⟨e1, b1⟩ := eachK_back hb k hq
      rw [hq] at h
      obtain ⟨e2, b2⟩ := clS_some b1 h
      refine ⟨?_, b2⟩
      rw [List.flatMap_append, List.append_assoc]
      simp only [List.flatMap_cons, List.flatMap_nil, List.append_nil]
      rw [← e2]
      exact e1
/-- what Put answers -/
noncomputable def putC (l : List Cl) : List Int × Int := if clashE l ≠ 0 then ([], clashE l) else if 1000 < l.length then ([], 132) else (clsB l, 0)
/-- what is read -/
noncomputable def rawC (b : List Int) : List Cl × St := eachK clS (rnum (some b) 1000).2 (rnum (some b) 1000).1.toNat
open Classical in
/-- what Of answers -/
noncomputable def ofC (b : List Int) : List Cl × Int := if (rawC b).2 = some [] ∧ clashE (rawC b).1 = 0 then ((rawC b).1, 0) else ([], 20)
theorem rnum_top (st : St) : 0 ≤ (rnum st 1000).1 ∧ (rnum st 1000).1 ≤ 1000 := by
  cases h : rnum st 1000 with
  | mk n r =>
    cases r with
    | some r => exact rnum_le h
    | none => have := rnum_bad h; simp only; omega
theorem clashE_size {l : List Cl} (h : clashE l = 0) : ∀ c ∈ l, c.k.size ≤ 40 ∧ c.a.v.size ≤ 200 ∧ c.b.v.size ≤ 200 ∧ c.c.v.size ≤ 200 := by
  intro c hc
  obtain ⟨i, hi⟩ := List.getElem?_of_mem hc
  have hl : i < l.length := by
    rcases Nat.lt_or_ge i l.length with q | q
    · exact q
    · rw [List.getElem?_eq_none q] at hi; cases hi
  have h0 := clashE_ok h i hl
  have ht : clT c = 0 := by
    rcases Decidable.em (clT c = 0) with q | q
    · exact q
    · rw [erAt_text hi q] at h0; exact absurd h0 q
  obtain ⟨⟨_, h2⟩, h3, h4, h5⟩ := clT_ok ht
  exact ⟨h2, sdOk_size h3, sdOk_size h4, sdOk_size h5⟩
theorem ofC_put {l : List Cl} (h : (putC l).2 = 0) : ofC (putC l).1 = (l, 0) := by
  unfold putC at h ⊢
  split at h
  · rename_i q; exact absurd h q
  · rename_i q
    rw [if_neg q]
    have q0 : clashE l = 0 := Decidable.not_not.1 q
    split at h
    · cases h
    · rename_i q2
      rw [if_neg q2]
      have hr : rawC (clsB l) = (l, some []) := by
        unfold rawC clsB
        rw [rnum_enc (by unfold top; omega) (by omega)]
        simp only [Int.toNat_natCast]
        have := eachK_enc (x := []) l.length (clashE_size q0) (Nat.le_refl _)
        simp only [List.append_nil, List.take_length, List.drop_length, List.flatMap_nil] at this
        exact this
      unfold ofC
      simp only [hr]
      rw [if_pos ⟨trivial, q0⟩]
theorem putC_of {b : List Int} (hb : InB b) (h : (ofC b).2 = 0) : putC (ofC b).1 = (b, 0) := by
  unfold ofC at h ⊢
  split at h
  · rename_i q
    rw [if_pos q]
    obtain ⟨q1, q2⟩ := q
    simp only
    unfold rawC at q1 q2 ⊢
    cases hq : rnum (some b) 1000 with
    | mk n st =>
      rw [hq] at q1 q2
      simp only at q1 q2 ⊢
      cases st with
      | none => rw [eachK_bad none (k := 0) rfl _ (Nat.zero_le _)] at q1; cases q1
      | some r =>
        obtain ⟨e1, e2, e3⟩ := rnum_some hq
        have hbr : InB r := (e1 ▸ hb : InB (enc n.toNat ++ r)).right
        obtain ⟨e4, _⟩ := eachK_back hbr _ q1
        have hl := eachK_len clS (some r) n.toNat
        unfold putC
        rw [if_neg (by simp [q2]), if_neg (by rw [hl]; omega)]
        unfold clsB
        rw [hl]
        rw [List.append_nil] at e4
        rw [← e4, ← e1]
  · cases h
theorem ofC_bad {b : List Int} (h : (ofC b).2 ≠ 0) : ofC b = ([], 20) := by
  unfold ofC at h ⊢
  split at h
  · exact absurd rfl h
  · rename_i q; rw [if_neg q]
theorem clB_len {c : Cl} (h : c.k.size ≤ 60 ∧ c.a.v.size ≤ 250 ∧ c.b.v.size ≤ 250 ∧ c.c.v.size ≤ 250) : (clB c).length ≤ 1000 := by
  have e := fun s : ByteArray => enc_len s.size
  have n := nums_length
  unfold clB siB
  simp only [List.length_append, n, flB_len]
  have e1 := (e c.k).2
  have e2 := (e c.a.v).2
  have e3 := (e c.b.v).2
  have e4 := (e c.c.v).2
  omega
end Go.Proofs.Ytgjhmpmjbedjoaa
