/- Commits as bytes and back, pure. -/
import Derived.Test.YtapomhpahdmekaaRbk
import Derived.PlainAid
namespace Apo
open Go Go.RowKit
/-- a commit -/
structure Cm where
  id : Int
  ps : List Int
  gen : Int
  root : Int
  tx : ByteArray
/-- numbers of 64 bits -/
def Cm.Sz (c : Cm) : Prop := (0 ≤ c.id ∧ c.id ≤ 18446744073709551615) ∧ (∀ z ∈ c.ps, 0 ≤ z ∧ z ≤ 18446744073709551615) ∧ (0 ≤ c.gen ∧ c.gen ≤ 18446744073709551615) ∧ (0 ≤ c.root ∧ c.root ≤ 18446744073709551615)
def zeroCm : Cm := ⟨0, [], 0, 0, ⟨#[]⟩⟩
end Apo
namespace Go.Proofs.Ytapomhpahdmekaa
open Go.RowKit Apo
/-- whether a text may be a commit's -/
def txtOk (s : ByteArray) : Bool := decide (s.size ≤ 60) && (List.range s.size).all (fun k => decide (32 ≤ PlainAid.bt s k) && decide (PlainAid.bt s k ≤ 126))
/-- whether parents may be -/
def parOk (id : Int) : List Int → Bool
  | [] => true
  | [p] => !(p == 0) && decide (p < id)
  | [p, q] => (!(p == 0) && decide (p < id)) && ((!(q == 0) && decide (q < id)) && !(p == q))
  | _ => false
def genOk (n : Nat) (g : Int) : Bool := if n = 0 then g == 1 else decide (2 ≤ g)
def cmE (c : Cm) : Int :=
  if c.id = 0 then 120 else if parOk c.id c.ps = false then 120 else if genOk c.ps.length c.gen = false then 120 else if txtOk c.tx = false then 121 else 0
theorem parOk_len {id : Int} : ∀ {l : List Int}, parOk id l = true → l.length ≤ 2
  | [], _ => by simp
  | [_], _ => by simp
  | [_, _], _ => by simp
  | _ :: _ :: _ :: _, h => by simp [parOk] at h
theorem parOk_long {id : Int} {l : List Int} (h : 2 < l.length) : parOk id l = false := by
  cases q : parOk id l with
  | false => rfl
  | true => have := parOk_len q; omega
def cmB (c : Cm) : List Int := enc c.id.toNat ++ (enc c.ps.length ++ (psB c.ps ++ (enc c.gen.toNat ++ (enc c.root.toNat ++ (enc c.tx.size ++ nums c.tx)))))
def putM (c : Cm) : List Int × Int := if cmE c ≠ 0 then ([], cmE c) else (cmB c, 0)
/-- what is read -/
noncomputable def rawM (b : List Int) : Cm × St :=
  let i := rnum (some b) full
  let k := rnum i.2 2
  let p := eachK (fun st => rnum st full) k.2 k.1.toNat
  let g := rnum p.2 full
  let r := rnum g.2 full
  let t := rtext r.2 60
  (⟨i.1, p.1, g.1, r.1, strOfNums t.1⟩, t.2)
open Classical in
noncomputable def ofM (b : List Int) : Cm × Int := if (rawM b).2 = some [] ∧ cmE (rawM b).1 = 0 then ((rawM b).1, 0) else (zeroCm, 20)
theorem cmE_ok {c : Cm} (h : cmE c = 0) : c.id ≠ 0 ∧ c.ps.length ≤ 2 ∧ txtOk c.tx = true := by
  unfold cmE at h
  split at h
  · cases h
  · rename_i q
    split at h
    · cases h
    · rename_i q2
      split at h
      · cases h
      · split at h
        · cases h
        · rename_i q4
          exact ⟨q, parOk_len (by simpa using q2), by simpa using q4⟩
theorem txtOk_size {s : ByteArray} (h : txtOk s = true) : s.size ≤ 60 := by
  unfold txtOk at h
  simp only [Bool.and_eq_true, decide_eq_true_eq] at h
  exact h.1
theorem rawM_cmB {c : Cm} (hz : c.Sz) (hp : c.ps.length ≤ 2) (ht : c.tx.size ≤ 60) : rawM (cmB c) = (c, some []) := by
  obtain ⟨⟨h1, h2⟩, h3, ⟨h4, h5⟩, ⟨h6, h7⟩⟩ := hz
  unfold rawM cmB
  simp only
  rw [rfull_enc h1 h2]
  simp only
  rw [rnum_enc (by unfold top; omega) (by omega)]
  simp only [Int.toNat_natCast]
  rw [eachN_enc c.ps.length h3 (Nat.le_refl _)]
  simp only [List.take_length, List.drop_length]
  rw [show psB [] = [] from rfl, List.nil_append, rfull_enc h4 h5]
  simp only
  rw [rfull_enc h6 h7]
  simp only
  have := rtext_enc (s := c.tx) (r := []) (most := 60) (by unfold top; omega) (by omega)
  rw [List.append_nil] at this
  rw [this]
  simp only [strOfNums_nums]
theorem ofM_put {c : Cm} (hz : c.Sz) (h : (putM c).2 = 0) : ofM (putM c).1 = (c, 0) := by
  unfold putM at h ⊢
  split at h
  · rename_i q; exact absurd h q
  · rename_i q
    rw [if_neg q]
    have q0 : cmE c = 0 := Decidable.not_not.1 q
    obtain ⟨_, h2, h3⟩ := cmE_ok q0
    have hr := rawM_cmB hz h2 (txtOk_size h3)
    unfold ofM
    simp only [hr]
    rw [if_pos ⟨trivial, q0⟩]
theorem rawM_sz (b : List Int) : (rawM b).1.Sz := by
  unfold rawM
  simp only
  exact ⟨rnum_bd _ (by unfold full; omega), eachN_bd _ _, rnum_bd _ (by unfold full; omega), rnum_bd _ (by unfold full; omega)⟩
theorem rawM_back {b : List Int} (hb : InB b) (h : (rawM b).2 = some []) : cmB (rawM b).1 = b := by
  unfold rawM at h ⊢
  simp only at h ⊢
  cases h1 : rnum (some b) full with
  | mk i s1 =>
    rw [h1] at h
    simp only at h ⊢
    cases s1 with
    | none =>
      exfalso
      rw [rnum_none] at h
      simp only at h
      rw [eachK_none rfl, rnum_none] at h
      simp only [rnum_none, rtext_none] at h
      cases h
    | some r1 =>
      obtain ⟨e1, i0, _⟩ := rnum_some h1
      cases h2 : rnum (some r1) 2 with
      | mk k s2 =>
        rw [h2] at h
        simp only at h ⊢
        cases s2 with
        | none =>
          exfalso
          rw [eachK_none rfl, rnum_none] at h
          simp only [rnum_none, rtext_none] at h
          cases h
        | some r2 =>
          obtain ⟨e2, k0, _⟩ := rnum_some h2
          have hl := eachK_len (fun st => rnum st full) (some r2) k.toNat
          cases h3 : eachK (fun st => rnum st full) (some r2) k.toNat with
          | mk ps s3 =>
            rw [h3] at h hl
            simp only at h hl ⊢
            cases s3 with
            | none =>
              exfalso
              rw [rnum_none] at h
              simp only [rnum_none, rtext_none] at h
              cases h
            | some r3 =>
              have e3 := eachN_back (r := r2) k.toNat (x := r3) (by rw [h3])
              rw [h3] at e3
              simp only at e3
              cases h4 : rnum (some r3) full with
              | mk g s4 =>
                rw [h4] at h
                simp only at h ⊢
                cases s4 with
                | none =>
                  exfalso
                  rw [rnum_none] at h
                  simp only [rtext_none] at h
                  cases h
                | some r4 =>
                  obtain ⟨e4, _, _⟩ := rnum_some h4
                  cases h5 : rnum (some r4) full with
                  | mk rt s5 =>
                    rw [h5] at h
                    simp only at h ⊢
                    cases s5 with
                    | none =>
                      exfalso
                      rw [rtext_none] at h
                      cases h
                    | some r5 =>
                      obtain ⟨e5, _, _⟩ := rnum_some h5
                      cases h6 : rtext (some r5) 60 with
                      | mk t s6 =>
                        rw [h6] at h
                        simp only at h ⊢
                        subst h
                        obtain ⟨e6, _⟩ := rtext_some h6
                        rw [List.append_nil] at e6
                        have b5 : InB r5 := by
                          rw [e1, e2, e3, e4, e5] at hb
                          exact hb.right.right.right.right.right
                        have b6 : InB t := by rw [e6] at b5; exact b5.right
                        unfold cmB
                        simp only
                        rw [text_back b6, ← e6, ← e5, ← e4, hl, ← e3, ← e2]
                        exact e1.symm
theorem putM_of {b : List Int} (hb : InB b) (h : (ofM b).2 = 0) : putM (ofM b).1 = (b, 0) := by
  unfold ofM at h ⊢
  split at h
  · rename_i q
    rw [if_pos q]
    obtain ⟨q1, q2⟩ := q
    simp only
    unfold putM
    rw [if_neg (by simp [q2]), rawM_back hb q1]
  · cases h
/-- unlike commits have unlike bytes -/
theorem cmB_inj {c d : Cm} (hc : c.Sz) (hd : d.Sz) (h1 : cmE c = 0) (h2 : cmE d = 0) (h : cmB c = cmB d) : c = d := by
  obtain ⟨_, a2, a3⟩ := cmE_ok h1
  obtain ⟨_, b2, b3⟩ := cmE_ok h2
  have e1 := rawM_cmB hc a2 (txtOk_size a3)
  have e2 := rawM_cmB hd b2 (txtOk_size b3)
  rw [h, e2] at e1
  injection e1 with e1 _
  exact e1.symm
end Go.Proofs.Ytapomhpahdmekaa
