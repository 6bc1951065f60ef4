/- Saves, and a crash within one, of a device as it is meant. No Go text is named here. -/
import Derived.Test.YtdpbkmbegjcgjaaSupD
import Derived.Test.YtdpbkmbegjcgjaaDKm
namespace Apo
open Go

theorem zeros_not : isSup zeros = false := by decide
theorem rdSup_take (l : List Int) : rdSup (l.take 24) = rdSup l := by
  simp [rdSup, List.take_take, List.drop_take]
theorem torn_zero {b : Sup} (hb : b.Ok) {k : Nat} (hk : k ≤ 32) (h : isSup ((superB b).take k ++ zeros.drop k) = true) : supOf ((superB b).take k ++ zeros.drop k) = b := by
  have hl := superB_len b
  by_cases hk1 : k ≤ 24
  · exfalso
    obtain ⟨e1, e2⟩ := isSup_bytes h
    have hok : (supOf ((superB b).take k ++ zeros.drop k)).Ok := supOf_ok (by
      intro z hz
      simp only [List.mem_append] at hz
      rcases hz with hz | hz
      · exact superB_byt b z (List.mem_of_mem_take hz)
      · exact sec_zeros.2 z (List.mem_of_mem_drop hz))
    have d := drop24 (supOf ((superB b).take k ++ zeros.drop k))
    rw [e1] at d
    have : ((superB b).take k ++ zeros.drop k).drop 24 = List.replicate 8 (0 : Int) := by
      rw [List.drop_append]
      have : ((superB b).take k).drop 24 = [] := List.drop_eq_nil_of_le (by simp; omega)
      rw [this, List.nil_append, List.drop_drop, List.length_take, hl, show k + (24 - min k 32) = 24 by omega]
      rfl
    rw [this] at d
    have q := num_be (k := 8) hok.e
    rw [← d] at q
    exact e2 (q.symm.trans (by decide))
  · have h1 : supOf ((superB b).take k ++ zeros.drop k) = rdSup ((superB b).take k ++ zeros.drop k) := by unfold supOf; rw [h]; rfl
    rw [h1, ← rdSup_take]
    have : ((superB b).take k ++ zeros.drop k).take 24 = (superB b).take 24 := by
      rw [List.take_append, List.length_take, hl, show 24 - min k 32 = 0 by omega, List.take_zero, List.append_nil, List.take_take, show min 24 k = 24 by omega]
    rw [this, rdSup_take, rdSup_superB hb]

theorem pick_new {x y : List Int} (hx : isSup x = true) (h : isSup y = false ∨ (supOf y).e < (supOf x).e) : pickSup x y = (supOf x, 0) ∧ pickSup y x = (supOf x, 0) := by
  unfold pickSup
  rw [hx]
  rcases h with h | h
  · rw [h]; simp
  · constructor
    · simp; intro h1; omega
    · simp [h]
theorem pick_none {x y : List Int} (hx : isSup x = false) (hy : isSup y = false) : pickSup x y = (Sup.none, 50) := by
  unfold pickSup
  rw [hx, hy]
  simp
theorem load_plain {st : Sd} (h : Live st) (hC : st.C = []) (hb : ∀ j, st.bad.getD j false = false) {x y : List Int} (hS : st.S = [x, y]) : st.load = pickSup x y := by
  have h0 := told_plain h hC hb (i := 0) (by rw [hS]; simp)
  have h1 := told_plain h hC hb (i := 1) (by rw [hS]; simp)
  simp only [hS, Int.natCast_zero, List.getElem_cons_zero, List.getElem_cons_succ] at h0 h1
  have h1' : st.told 1 = (y, 0) := h1
  unfold Sd.load
  rw [h0, h1']
  simp

/-- n Saves went well: what stands in the two sectors -/
structure Kp (st : Sd) (n : Nat) (c o : List Int) : Prop where
  live : Live st
  C : st.C = []
  bad : ∀ j, st.bad.getD j false = false
  S : st.S = if n % 2 = 0 then [c, o] else [o, c]
  c0 : n = 0 → c = zeros
  c1 : n ≠ 0 → ∃ s : Sup, s.Ok ∧ s.e = n ∧ c = superB s
  o0 : n ≤ 1 → o = zeros
  o1 : 2 ≤ n → ∃ s : Sup, s.Ok ∧ s.e = n - 1 ∧ o = superB s
theorem Kp.new : Kp (newSd 2) 0 zeros zeros :=
  ⟨Live.new 2, rfl, by intro j; rcases j with _ | _ | j <;> simp [newSd, lenOf], rfl, fun _ => rfl, fun h => absurd rfl h, fun _ => rfl, fun h => by omega⟩

/-- what the two sectors tell, the one that a Save overwrites being m -/
theorem Kp.pick {st : Sd} {n : Nat} {c o : List Int} (h : Kp st n c o) {m : List Int} (hm : isSup m = false ∨ (supOf m).e < n) : (if n % 2 = 0 then pickSup c m else pickSup m c) = if n = 0 then (Sup.none, 50) else (supOf c, 0) := by
  by_cases h0 : n = 0
  · subst h0
    have hm' : isSup m = false := by rcases hm with hm | hm; exact hm; omega
    simp only [Nat.zero_mod, if_true]
    rw [h.c0 rfl]
    exact pick_none zeros_not hm'
  · obtain ⟨s, hs, he, hc⟩ := h.c1 h0
    have h1 : isSup c = true := by rw [hc, isSup_superB hs]; simp; omega
    have h2 : supOf c = s := by rw [hc, supOf_superB hs (by omega)]
    obtain ⟨p1, p2⟩ := pick_new h1 (y := m) (by rw [h2, he]; exact hm)
    rw [if_neg h0, p1, p2]
    simp
theorem Kp.pickN {st : Sd} {n : Nat} {c o : List Int} (h : Kp st n c o) {m : List Int} (hm : isSup m = true) (he : n < (supOf m).e) : (if n % 2 = 0 then pickSup c m else pickSup m c) = (supOf m, 0) := by
  have : isSup c = false ∨ (supOf c).e < (supOf m).e := by
    by_cases h0 : n = 0
    · rw [h.c0 h0]; exact .inl zeros_not
    · obtain ⟨s, hs, hse, hc⟩ := h.c1 h0
      rw [hc, supOf_superB hs (by omega)]
      exact .inr (by omega)
  obtain ⟨p1, p2⟩ := pick_new hm this
  rw [p1, p2]
  simp
theorem Kp.old {st : Sd} {n : Nat} {c o : List Int} (h : Kp st n c o) : isSup o = false ∨ (supOf o).e < n := by
  by_cases h1 : n ≤ 1
  · rw [h.o0 h1]; exact .inl zeros_not
  · obtain ⟨s, hs, hse, hc⟩ := h.o1 (by omega)
    rw [hc, supOf_superB hs (by omega)]
    exact .inr (by omega)
theorem Kp.load {st : Sd} {n : Nat} {c o : List Int} (h : Kp st n c o) : st.load = if n = 0 then (Sup.none, 50) else (supOf c, 0) := by
  rw [← h.pick h.old]
  have hS := h.S
  by_cases hn : n % 2 = 0
  · rw [if_pos hn] at hS ⊢
    exact load_plain h.live h.C h.bad hS
  · rw [if_neg hn] at hS ⊢
    exact load_plain h.live h.C h.bad hS
/-- the sector that the next Save overwrites, set -/
theorem Kp.set {st : Sd} {n : Nat} {c o : List Int} (h : Kp st n c o) (m : List Int) : st.S.set ((n + 1) % 2) m = if n % 2 = 0 then [c, m] else [m, c] := by
  rw [h.S]
  by_cases hn : n % 2 = 0
  · rw [if_pos hn, if_pos hn, show (n + 1) % 2 = 1 by omega]; rfl
  · rw [if_neg hn, if_neg hn, show (n + 1) % 2 = 0 by omega]; rfl
theorem Kp.get {st : Sd} {n : Nat} {c o : List Int} (h : Kp st n c o) : st.S.getD ((n + 1) % 2) [] = o := by
  rw [h.S]
  by_cases hn : n % 2 = 0
  · rw [if_pos hn, show (n + 1) % 2 = 1 by omega]; rfl
  · rw [if_neg hn, show (n + 1) % 2 = 0 by omega]; rfl
theorem Kp.len {st : Sd} {n : Nat} {c o : List Int} (h : Kp st n c o) : st.S.length = 2 := by
  rw [h.S]; split <;> rfl

/-- what a Save has done to a device that is armed, where it stopped -/
theorem save_cases {st : Sd} (hd : st.dead = false) (hC : st.C = []) (h2 : st.S.length = 2) (s : Sup) :
    (st.save s).2.bad = st.bad ∧ (((st.save s).1 = 0 ∧ (st.save s).2.S = st.S.set (s.e % 2) (superB s) ∧ (st.save s).2.C = []) ∨
    ((st.save s).1 ≠ 0 ∧ (st.save s).2.S = st.S ∧ ((st.save s).2.C = [] ∨ (st.save s).2.C = [(s.e % 2, superB s)]))) := by
  have hfS : st.flushed.1 = 0 → st.flushed.2 = st.acted := by
    intro h
    unfold Sd.flushed at h ⊢
    split at h
    · next ha => rw [if_pos ha]; rw [hC]; simp only [putAll, List.foldl_nil]; have e1 := acted_S st; have e2 := acted_C st; rw [hC] at e2; cases hh : st.acted; rw [hh] at e1 e2; simp only at e1 e2; rw [e1, e2]
    · cases h
  have hfD : st.flushed.1 = 0 → st.acted.dead = false := by
    intro h
    unfold Sd.flushed at h
    split at h
    · next ha => unfold Sd.acted; rw [if_pos ha]; exact hd
    · cases h
  unfold Sd.save
  by_cases h1 : st.flushed.1 = 0
  · rw [if_pos h1, hfS h1]
    have hS1 := acted_S st
    have hC1 : st.acted.C = [] := (acted_C st).trans hC
    have hb1 := acted_bad st
    have hd1 := hfD h1
    generalize st.acted = s1 at *
    have hh : (s1.has ((s.e : Int) % 2) && (superB s).length == 32) = true := by
      rw [superB_len]
      have : s1.has ((s.e : Int) % 2) = true := has_iff.2 ⟨by omega, by rw [hS1, h2]; omega⟩
      rw [this]; rfl
    have hw : s1.wrote ((s.e : Int) % 2) (superB s) = if s1.acts then (0, { s1.acted with C := s1.C ++ [(((s.e : Int) % 2).toNat, superB s)] }) else (40, s1.acted) := by
      unfold Sd.wrote
      rw [if_neg (by rw [hd1]; decide), if_pos hh]
    have hn : ((s.e : Int) % 2).toNat = s.e % 2 := by omega
    rw [hw, hn]
    by_cases ha : s1.acts = true
    · rw [if_pos ha]
      simp only [if_true]
      generalize hs2 : ({ s1.acted with C := s1.C ++ [(s.e % 2, superB s)] } : Sd) = s2
      have hS2 : s2.S = st.S := by rw [← hs2]; simp only [acted_S, hS1]
      have hC2 : s2.C = [(s.e % 2, superB s)] := by rw [← hs2]; simp only [hC1]; rfl
      have hb2 : s2.bad = st.bad := by rw [← hs2]; simp only [acted_bad, hb1]
      unfold Sd.flushed
      by_cases hb : s2.acts = true
      · rw [if_pos hb]
        refine ⟨by simp only [acted_bad, hb2], .inl ⟨rfl, ?_, rfl⟩⟩
        simp only [hS2, hC2]; rfl
      · rw [if_neg hb]
        exact ⟨by simp only [acted_bad, hb2], .inr ⟨(by decide : (40 : Int) ≠ 0), by simp only [acted_S, hS2], .inr (by simp only [acted_C, hC2])⟩⟩
    · rw [if_neg ha]
      simp only [show ¬ ((40 : Int) = 0) by decide, if_false]
      exact ⟨by simp only [acted_bad, hb1], .inr ⟨(by decide : (40 : Int) ≠ 0), by simp only [acted_S, hS1], .inl (by simp only [acted_C, hC1])⟩⟩
  · rw [if_neg h1]
    unfold Sd.flushed at h1 ⊢
    split at h1
    · exact absurd rfl h1
    · next ha =>
      rw [if_neg ha]
      exact ⟨acted_bad st, .inr ⟨(by decide : (40 : Int) ≠ 0), acted_S st, .inl ((acted_C st).trans hC)⟩⟩

/-- a Save that goes well -/
theorem Kp.save {st : Sd} {n : Nat} {c o : List Int} (h : Kp st n c o) {s : Sup} (hs : s.Ok) (he : s.e = n + 1) : (st.save s).1 = 0 ∧ Kp (st.save s).2 (n + 1) (superB s) c := by
  have hl := h.live
  have hf : st.flushed = (0, st) := by
    unfold Sd.flushed
    rw [if_pos hl.acts, hl.acted, h.C]
    have := h.C
    cases st
    simp only at this
    subst this
    rfl
  have hw : st.wrote ((s.e : Int) % 2) (superB s) = (0, { st with C := [(s.e % 2, superB s)] }) := by
    unfold Sd.wrote
    rw [if_neg (by rw [hl.1]; decide), hl.acts, hl.acted, h.C, superB_len]
    have : st.has ((s.e : Int) % 2) = true := has_iff.2 ⟨by omega, by rw [h.len]; omega⟩
    rw [this, show ((s.e : Int) % 2).toNat = s.e % 2 by omega]
    rfl
  have hg : ({ st with C := [(s.e % 2, superB s)] } : Sd).flushed = (0, { st with S := st.S.set (s.e % 2) (superB s), C := [] }) := by
    have hl' : Live ({ st with C := [(s.e % 2, superB s)] } : Sd) := hl
    unfold Sd.flushed
    rw [if_pos hl'.acts, hl'.acted]
    rfl
  have e1 : st.save s = (0, { st with S := st.S.set (s.e % 2) (superB s), C := [] }) := by
    unfold Sd.save
    rw [hf, hw, hg]
    simp
  rw [e1]
  refine ⟨rfl, hl, rfl, h.bad, ?_, fun q => by omega, fun _ => ⟨s, hs, he, rfl⟩, fun q => h.c0 (by omega), fun q => ?_⟩
  · simp only [he, h.set]
    by_cases hn : n % 2 = 0
    · rw [if_pos hn, if_neg (by omega)]
    · rw [if_neg hn, if_pos (by omega)]
  · obtain ⟨t, ht, hte, hc⟩ := h.c1 (by omega)
    exact ⟨t, ht, by omega, hc⟩

/-- whatever crash strikes within a Save -/
theorem Kp.crash {st : Sd} {n : Nat} {c o : List Int} (h : Kp st n c o) (arm : Int) {s : Sup} (hs : s.Ok) (he : s.e = n + 1) (f : Fat) :
    (((st.armed arm).save s).2.crashed f).load = (s, 0) ∨ (((st.armed arm).save s).1 ≠ 0 ∧ (((st.armed arm).save s).2.crashed f).load = st.load) := by
  obtain ⟨hb, hk⟩ := save_cases (st := st.armed arm) h.live.1 h.C h.len s
  generalize (st.armed arm).save s = r at *
  have hset : (st.armed arm).S = st.S := rfl
  have hbad : (st.armed arm).bad = st.bad := rfl
  rw [hset] at hk
  rw [hbad] at hb
  rw [h.load]
  have key : ∀ m, (r.2.crashed f).S = st.S.set ((n + 1) % 2) m → (r.2.crashed f).load = if n % 2 = 0 then pickSup c m else pickSup m c := by
    intro m hm
    rw [h.set] at hm
    by_cases hn : n % 2 = 0
    · rw [if_pos hn] at hm ⊢
      exact load_plain ⟨rfl, rfl⟩ rfl (by intro j; simp only [Sd.crashed, hb]; exact h.bad j) hm
    · rw [if_neg hn] at hm ⊢
      exact load_plain ⟨rfl, rfl⟩ rfl (by intro j; simp only [Sd.crashed, hb]; exact h.bad j) hm
  have hnew : supOf (superB s) = s := supOf_superB hs (by omega)
  have hnis : isSup (superB s) = true := by rw [isSup_superB hs]; simp; omega
  have good : ∀ m, (r.2.crashed f).S = st.S.set ((n + 1) % 2) m → isSup m = true → supOf m = s → (r.2.crashed f).load = (s, 0) := by
    intro m h1 h2 h3
    rw [key m h1, h.pickN h2 (by rw [h3]; omega), h3]
  have bad : ∀ m, (r.2.crashed f).S = st.S.set ((n + 1) % 2) m → (isSup m = false ∨ (supOf m).e < n) → (r.2.crashed f).load = if n = 0 then (Sup.none, 50) else (supOf c, 0) := by
    intro m h1 h2
    rw [key m h1, h.pick h2]
  have hself : st.S.set ((n + 1) % 2) o = st.S := by rw [h.set, ← h.S]
  rw [he] at hk
  rcases hk with ⟨_, k1, k2⟩ | ⟨k0, k1, k2 | k2⟩
  · exact .inl (good (superB s) (by simp only [Sd.crashed, k2, crashK, List.length_nil]; exact k1) hnis hnew)
  · exact .inr ⟨k0, bad o (by simp only [Sd.crashed, k2, crashK, List.length_nil]; rw [hself]; exact k1) h.old⟩
  · have hcr : (r.2.crashed f).S = crashOne f.keep f.torn f.bytes st.S 0 ((n + 1) % 2, superB s) := by
      simp only [Sd.crashed, k2, k1]; rfl
    unfold crashOne at hcr
    simp only [h.get] at hcr
    split at hcr
    · have hct : cutOf f.bytes ≤ 32 := by unfold cutOf; split <;> (try split) <;> omega
      generalize cutOf f.bytes = k at *
      by_cases hi : isSup ((superB s).take k ++ o.drop k) = true
      · by_cases h1 : n ≤ 1
        · rw [h.o0 h1] at hi hcr
          exact .inl (good _ hcr hi (torn_zero hs hct hi))
        · obtain ⟨t, ht, hte, ho⟩ := h.o1 (by omega)
          rw [ho] at hi hcr
          rcases torn_sup ht hs (by omega) hct hi with q | q
          · exact .inr ⟨k0, bad _ hcr (.inr (by rw [q]; omega))⟩
          · exact .inl (good _ hcr hi q)
      · exact .inr ⟨k0, bad _ hcr (.inl (by simpa using hi))⟩
    · split at hcr
      · exact .inl (good _ hcr hnis hnew)
      · exact .inr ⟨k0, bad o (by rw [hself]; exact hcr) h.old⟩
end Apo
