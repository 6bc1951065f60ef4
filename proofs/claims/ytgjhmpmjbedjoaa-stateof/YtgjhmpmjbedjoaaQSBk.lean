/- A state there and back, pure. Over the translation. -/
import Derived.Test.YtgjhmpmjbedjoaaQSOp
namespace Go.Proofs.Ytgjhmpmjbedjoaa
open Go.RowKit Apo
theorem eachG_enc {α : Type} {f : St → α × St} {B : α → List Int} {x : List Int} : ∀ (k : Nat) {l : List α}, (∀ c ∈ l, ∀ r, f (some (B c ++ r)) = (c, some r)) → k ≤ l.length → eachK f (some (l.flatMap B ++ x)) k = (l.take k, some ((l.drop k).flatMap B ++ x))
  | 0, l, _, _ => by simp [eachK]
  | k + 1, l, hl, hk => by
    have ih := eachG_enc (x := x) k hl (by omega)
    have hd : l.drop k = l[k] :: l.drop (k + 1) := List.drop_eq_getElem_cons (by omega)
    simp only [eachK]
    rw [ih, hd, List.flatMap_cons, List.append_assoc, hl l[k] (List.getElem_mem _)]
    simp only
    rw [List.take_succ_eq_append_getElem (by omega)]
theorem eachG_all {α : Type} {f : St → α × St} {B : α → List Int} {x : List Int} {l : List α} (hl : ∀ c ∈ l, ∀ r, f (some (B c ++ r)) = (c, some r)) : eachK f (some (l.flatMap B ++ x)) l.length = (l, some x) := by
  rw [eachG_enc l.length hl (Nat.le_refl _)]
  simp
theorem eachG_none {α : Type} {f : St → α × St} (hf : (f none).2 = none) : ∀ k, (eachK f none k).2 = none
  | 0 => rfl
  | k + 1 => by
    simp only [eachK]
    rw [eachG_none hf k, hf]
theorem eachG_back {α : Type} {f : St → α × St} {B : α → List Int} (hn : (f none).2 = none) (hs : ∀ l r, InB l → (f (some l)).2 = some r → l = B (f (some l)).1 ++ r ∧ InB r) {r : List Int} (hb : InB r) : ∀ (k : Nat) {x : List Int}, (eachK f (some r) k).2 = some x → r = (eachK f (some r) k).1.flatMap B ++ x ∧ InB x
  | 0, x, h => by
    simp only [eachK] at h ⊢
    cases h
    exact ⟨rfl, hb⟩
  | k + 1, x, h => by
    simp only [eachK] at h ⊢
    cases hq : (eachK f (some r) k).2 with
    | none => rw [hq, hn] at h; cases h
    | some y =>
      obtain ⟨e1, b1⟩ := eachG_back hn hs hb k hq
      rw [hq] at h
      obtain ⟨e2, b2⟩ := hs y x b1 h
      refine ⟨?_, b2⟩
      rw [List.flatMap_append, List.append_assoc]
      simp only [List.flatMap_cons, List.flatMap_nil, List.append_nil]
      rw [← e2]
      exact e1
theorem rnum_none (most : Int) : rnum none most = (0, none) := rfl
theorem rnum64 {z : Int} (h : u64B z) (r : List Int) : rnum (some (enc z.toNat ++ r)) fullS = (z, some r) := by
  obtain ⟨h0, h1⟩ := h
  have := rnum_enc (n := z.toNat) (r := r) (most := fullS) (by unfold top; omega) (by unfold fullS; omega)
  rw [this, Int.toNat_of_nonneg h0]
theorem rfS_enc {r : Rf} (hs : r.n.size ≤ 20) (hi : u64B r.i) (x : List Int) : rfS (some (rfB r ++ x)) = (r, some x) := by
  unfold rfS rfB
  rw [show (enc r.n.size ++ nums r.n) ++ flB r.t ++ enc r.i.toNat ++ x = enc r.n.size ++ nums r.n ++ (flB r.t ++ (enc r.i.toNat ++ x)) by simp only [List.append_assoc]]
  rw [rtext_enc (by unfold top; omega) (by omega)]
  simp only
  rw [rflag_fl]
  simp only
  rw [rnum64 hi, strOfNums_nums]
theorem mdS_enc {m : Mk} (h : u64B m.id ∧ u64B m.ch) (x : List Int) : mdS (some (mdB m ++ x)) = (m, some x) := by
  unfold mdS mdB
  rw [List.append_assoc, rnum64 h.1]
  simp only
  rw [rnum64 h.2]
theorem rfS_none : (rfS none).2 = none := by
  unfold rfS
  simp only [rtext_none, rflag_none, rnum_none]
theorem mdS_none : (mdS none).2 = none := by
  unfold mdS
  simp only [rnum_none]
theorem rfS_some (l r : List Int) (hb : InB l) (h : (rfS (some l)).2 = some r) : l = rfB (rfS (some l)).1 ++ r ∧ InB r := by
  unfold rfS at h ⊢
  obtain ⟨t, s1, q1⟩ : ∃ t s, rtext (some l) 20 = (t, s) := ⟨_, _, rfl⟩
  simp only [q1] at h ⊢
  cases s1 with
  | none => simp only [rflag_none, rnum_none] at h; cases h
  | some r1 =>
    obtain ⟨f, s2, q2⟩ : ∃ t s, rflag (some r1) = (t, s) := ⟨_, _, rfl⟩
    simp only [q2] at h ⊢
    cases s2 with
    | none => simp only [rnum_none] at h; cases h
    | some r2 =>
      obtain ⟨n, s3, q3⟩ : ∃ t s, rnum (some r2) fullS = (t, s) := ⟨_, _, rfl⟩
      simp only [q3] at h ⊢
      subst h
      obtain ⟨e1, _⟩ := rtext_some q1
      have e2 := rflag_some q2
      obtain ⟨e3, _⟩ := rnum_some q3
      have b0 : InB (enc t.length ++ t ++ r1) := e1 ▸ hb
      have b1 : InB (flB f ++ r2) := e2 ▸ b0.right
      have b2 : InB (enc n.toNat ++ r) := e3 ▸ b1.right
      refine ⟨?_, b2.right⟩
      unfold rfB
      simp only
      rw [text_back b0.left.right]
      simp only [List.append_assoc]
      rw [← e3, ← e2, ← List.append_assoc]
      exact e1
theorem mdS_some (l r : List Int) (hb : InB l) (h : (mdS (some l)).2 = some r) : l = mdB (mdS (some l)).1 ++ r ∧ InB r := by
  unfold mdS at h ⊢
  obtain ⟨t, s1, q1⟩ : ∃ t s, rnum (some l) fullS = (t, s) := ⟨_, _, rfl⟩
  simp only [q1] at h ⊢
  cases s1 with
  | none => simp only [rnum_none] at h; cases h
  | some r1 =>
    obtain ⟨n, s3, q3⟩ : ∃ t s, rnum (some r1) fullS = (t, s) := ⟨_, _, rfl⟩
    simp only [q3] at h ⊢
    subst h
    obtain ⟨e1, _⟩ := rnum_some q1
    obtain ⟨e3, _⟩ := rnum_some q3
    have b0 : InB (enc t.toNat ++ r1) := e1 ▸ hb
    have b2 : InB (enc n.toNat ++ r) := e3 ▸ b0.right
    refine ⟨?_, b2.right⟩
    unfold mdB
    simp only [List.append_assoc]
    rw [← e3]
    exact e1
theorem putS_zero {s : Sv} (h : (putS s).2 = 0) : stateE s = 0 ∧ (putC s.cl).2 = 0 := by
  unfold putS at h
  split at h
  · cases h
  · rename_i q
    exact ⟨Decidable.not_not.1 (fun z => q (.inl z)), Decidable.not_not.1 (fun z => q (.inr z))⟩
theorem putS_fine {s : Sv} (h1 : stateE s = 0) (h2 : (putC s.cl).2 = 0) : putS s = (stB s, 0) := by
  unfold putS
  rw [if_neg (fun z => z.elim (fun q => q h1) (fun q => q h2))]
theorem putS_no {s : Sv} (h : (putS s).2 ≠ 0) : putS s = ([], 150) := by
  unfold putS at h ⊢
  split at h
  · rename_i q; rw [if_pos q]
  · exact absurd rfl h
theorem putC_few {l : List Cl} (h : (putC l).2 = 0) : l.length ≤ 1000 := by
  unfold putC at h
  split at h
  · rename_i q; exact absurd h q
  · split at h
    · cases h
    · omega
theorem stB_row (s : Sv) : stB s = enc s.hd.size ++ nums s.hd ++ (enc s.wk.toNat ++ (enc s.nx.toNat ++ (enc s.pd.toNat ++ (enc s.rf.length ++ (s.rf.flatMap rfB ++ (enc s.md.length ++ (s.md.flatMap mdB ++ (enc (putC s.cl).1.length ++ (putC s.cl).1)))))))) := by
  unfold stB n4
  simp only [List.flatMap_cons, List.flatMap_nil, List.append_nil, List.append_assoc, Int.toNat_natCast]
theorem ofS_put {s : Sv} (hn : u64B s.wk ∧ u64B s.nx ∧ u64B s.pd) (hr : ∀ r ∈ s.rf, u64B r.i) (hm : ∀ m ∈ s.md, u64B m.id ∧ u64B m.ch) (h : (putS s).2 = 0) : ofS (putS s).1 = (s, 0) := by
  obtain ⟨h1, h2⟩ := putS_zero h
  obtain ⟨e1, e2, e3, e4, _⟩ := stateE_small h1
  have e6 := putC_zero h2
  have e7 := putC_byte (l := s.cl) (by have := putC_few h2; unfold top; omega)
  rw [putS_fine h1 h2]
  simp only
  have hl : enc (putC s.cl).1.length ++ (putC s.cl).1 = enc (strOfNums (putC s.cl).1).size ++ nums (strOfNums (putC s.cl).1) ++ [] := by
    rw [strOfNums_size, nums_strOfNums e7, List.append_nil]
  unfold ofS
  dsimp only
  rw [stB_row, hl, rtext_enc (by unfold top; omega) (by omega)]
  dsimp only
  rw [rnum64 hn.1]
  dsimp only
  rw [rnum64 hn.2.1]
  dsimp only
  rw [rnum64 hn.2.2]
  dsimp only
  rw [rnum_enc (by unfold top; omega) (by omega)]
  dsimp only
  rw [Int.toNat_natCast, eachG_all (fun r hr2 x => rfS_enc (e4 r hr2) (hr r hr2) x)]
  dsimp only
  rw [rnum_enc (by unfold top; omega) (by omega)]
  dsimp only
  rw [Int.toNat_natCast, eachG_all (fun m hm2 x => mdS_enc (hm m hm2) x)]
  dsimp only
  rw [rtext_enc (by rw [strOfNums_size]; unfold top; omega) (by rw [strOfNums_size]; omega)]
  dsimp only
  rw [strOfNums_nums, strOfNums_nums, nums_strOfNums e7, ofC_put h2]
  exact finS_ok rfl rfl h1
theorem finS_zero {s : Sv} {ce : Int} {st : St} (h : (finS s ce st).2 = 0) : ce = 0 ∧ st = some [] ∧ stateE s = 0 := by
  unfold finS at h
  split at h
  · assumption
  · cases h
theorem some_of {α : Type} {o : Option α} (h : o ≠ none) : ∃ x, o = some x := by
  cases o with
  | none => exact absurd rfl h
  | some x => exact ⟨x, rfl⟩
theorem putS_of {b : List Int} (hb : InB b) (h : (ofS b).2 = 0) : putS (ofS b).1 = (b, 0) := by
  obtain ⟨t1, s1, q1⟩ : ∃ t s, rtext (some b) 20 = (t, s) := ⟨_, _, rfl⟩
  obtain ⟨wk, s2, q2⟩ : ∃ t s, rnum s1 fullS = (t, s) := ⟨_, _, rfl⟩
  obtain ⟨nx, s3, q3⟩ : ∃ t s, rnum s2 fullS = (t, s) := ⟨_, _, rfl⟩
  obtain ⟨pd, s4, q4⟩ : ∃ t s, rnum s3 fullS = (t, s) := ⟨_, _, rfl⟩
  obtain ⟨c5, s5, q5⟩ : ∃ t s, rnum s4 40 = (t, s) := ⟨_, _, rfl⟩
  obtain ⟨rs, s6, q6⟩ : ∃ t s, eachK rfS s5 c5.toNat = (t, s) := ⟨_, _, rfl⟩
  obtain ⟨c7, s7, q7⟩ : ∃ t s, rnum s6 200 = (t, s) := ⟨_, _, rfl⟩
  obtain ⟨ms, s8, q8⟩ : ∃ t s, eachK mdS s7 c7.toNat = (t, s) := ⟨_, _, rfl⟩
  obtain ⟨t9, s9, q9⟩ : ∃ t s, rtext s8 1048576 = (t, s) := ⟨_, _, rfl⟩
  have hof : ofS b = finS ⟨strOfNums t1, wk, nx, pd, rs, ms, (ofC (nums (strOfNums t9))).1⟩ (ofC (nums (strOfNums t9))).2 s9 := by
    unfold ofS
    dsimp only
    rw [q1]
    dsimp only
    rw [q2]
    dsimp only
    rw [q3]
    dsimp only
    rw [q4]
    dsimp only
    rw [q5]
    dsimp only
    rw [q6]
    dsimp only
    rw [q7]
    dsimp only
    rw [q8]
    dsimp only
    rw [q9]
  rw [hof] at h ⊢
  obtain ⟨hc, hs9, hE⟩ := finS_zero h
  rw [finS_ok hc hs9 hE]
  subst hs9
  obtain ⟨r8, rfl⟩ := some_of (fun z : s8 = none => by subst z; rw [rtext_none] at q9; cases q9)
  obtain ⟨r7, rfl⟩ := some_of (fun z : s7 = none => by subst z; have := eachG_none mdS_none c7.toNat; rw [q8] at this; cases this)
  obtain ⟨r6, rfl⟩ := some_of (fun z : s6 = none => by subst z; rw [rnum_none] at q7; cases q7)
  obtain ⟨r5, rfl⟩ := some_of (fun z : s5 = none => by subst z; have := eachG_none rfS_none c5.toNat; rw [q6] at this; cases this)
  obtain ⟨r4, rfl⟩ := some_of (fun z : s4 = none => by subst z; rw [rnum_none] at q5; cases q5)
  obtain ⟨r3, rfl⟩ := some_of (fun z : s3 = none => by subst z; rw [rnum_none] at q4; cases q4)
  obtain ⟨r2, rfl⟩ := some_of (fun z : s2 = none => by subst z; rw [rnum_none] at q3; cases q3)
  obtain ⟨r1, rfl⟩ := some_of (fun z : s1 = none => by subst z; rw [rnum_none] at q2; cases q2)
  obtain ⟨e1, _⟩ := rtext_some q1
  obtain ⟨e2, _⟩ := rnum_some q2
  obtain ⟨e3, _⟩ := rnum_some q3
  obtain ⟨e4, _⟩ := rnum_some q4
  obtain ⟨e5, g5, _⟩ := rnum_some q5
  have b1 : InB (enc t1.length ++ t1 ++ r1) := e1 ▸ hb
  have b2 : InB (enc wk.toNat ++ r2) := e2 ▸ b1.right
  have b3 : InB (enc nx.toNat ++ r3) := e3 ▸ b2.right
  have b4 : InB (enc pd.toNat ++ r4) := e4 ▸ b3.right
  have b5 : InB (enc c5.toNat ++ r5) := e5 ▸ b4.right
  obtain ⟨e6, b6⟩ := eachG_back rfS_none rfS_some b5.right c5.toNat (by rw [q6])
  rw [q6] at e6
  obtain ⟨e7, g7, _⟩ := rnum_some q7
  have b7 : InB (enc c7.toNat ++ r7) := e7 ▸ b6
  obtain ⟨e8, b8⟩ := eachG_back mdS_none mdS_some b7.right c7.toNat (by rw [q8])
  rw [q8] at e8
  obtain ⟨e9, _⟩ := rtext_some q9
  have b9 : InB (enc t9.length ++ t9 ++ []) := e9 ▸ b8
  have bt : InB t9 := b9.left.right
  rw [nums_strOfNums bt] at hc hE ⊢
  have hp := putC_of bt hc
  have l5 := eachK_len rfS (some r5) c5.toNat
  rw [q6] at l5
  have l7 := eachK_len mdS (some r7) c7.toNat
  rw [q8] at l7
  simp only at l5 l7 e6 e8
  rw [putS_fine hE (by simp only; rw [hp]), stB_row]
  simp only
  rw [hp]
  simp only
  rw [text_back b1.left.right, l5, l7]
  rw [List.append_nil] at e9
  rw [← e9, ← e8, ← e7, ← e6, ← e5, ← e4, ← e3, ← e2, ← e1]
theorem ofS_bad {b : List Int} (h : (ofS b).2 ≠ 0) : ofS b = (zeroSv, 20) := by
  unfold ofS finS at h ⊢
  dsimp only at h ⊢
  split at h
  · exact absurd rfl h
  · rename_i q; rw [if_neg q]
/-- what is read so is told so again: it may be -/
theorem ofS_right {b : List Int} (hb : InB b) (h : (ofS b).2 = 0) : (putS (ofS b).1).2 = 0 := by rw [putS_of hb h]
end Go.Proofs.Ytgjhmpmjbedjoaa
