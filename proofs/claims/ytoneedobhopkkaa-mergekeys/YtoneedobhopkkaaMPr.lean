/- What comes of three maps, and which keys clash: pure. -/
import Derived.Test.YtoneedobhopkkaaMSi
import Derived.Test.YtoneedobhopkkaaDKe
namespace Apo
open Go Go.RowKit
/-- a clash -/
structure Cl where
  k : ByteArray
  a : Si
  b : Si
  c : Si
def cCl (x : Cl) : List Value := [.string x.k, .bool x.a.b, .string x.a.v, .bool x.b.b, .string x.b.v, .bool x.c.b, .string x.c.v]
theorem cCl_len (x : Cl) : (cCl x).length = 7 := rfl
theorem cCl_one (x : Cl) : ∀ u ∈ cCl x, u.oneCell' = true := by simp [cCl, Value.oneCell']
def noS : Si := ⟨false, ⟨#[]⟩⟩
theorem pickP_idle (a b : Si) : pickP a b b = (b, true) := if_pos rfl
theorem pickP_ours (a b : Si) : pickP a b a = (b, true) := by
  unfold pickP
  by_cases h : b = a
  · rw [if_pos h]
  · rw [if_neg h, if_neg h]
    simp
theorem pickP_theirs (a c : Si) : pickP a a c = (c, true) := by
  unfold pickP
  by_cases h : a = c
  · rw [if_pos h, h]
  · rw [if_neg h, if_pos rfl]
theorem pickP_turn (a b c : Si) : (pickP a c b).2 = (pickP a b c).2 ∧ ((pickP a b c).2 = true → (pickP a c b).1 = (pickP a b c).1) := by
  unfold pickP
  by_cases h1 : b = c
  · subst h1
    simp
  · have h1' : ¬ c = b := fun e => h1 e.symm
    rw [if_neg h1, if_neg h1']
    by_cases h2 : b = a
    · by_cases h3 : c = a
      · exact absurd (h2.trans h3.symm) h1
      · rw [if_pos h2, if_neg h3]
        simp [h2]
    · by_cases h3 : c = a
      · rw [if_neg h2, if_pos h3]
        simp [h3]
      · rw [if_neg h2, if_neg h3]
        simp [h2, h3]
/-- a key that one side alone changed is as that side has it -/
theorem pickP_sides (a b c : Si) : (b = a → (pickP a b c).1 = c) ∧ (b ≠ a → c ≠ a ∨ (pickP a b c).1 = b) := by
  refine ⟨fun h => by rw [h, pickP_theirs], fun _ => ?_⟩
  by_cases h3 : c = a
  · rw [h3, pickP_ours]
    exact .inr rfl
  · exact .inl h3
end Apo
namespace Go.Proofs.Ytoneedobhopkkaa
open Go.RowKit Apo
open Classical in
/-- what a map has of a key -/
noncomputable def gS (es : List En) (k : ByteArray) : Si := match es.find? (fun e => decide (e.k = k)) with
  | some e => ⟨true, e.v⟩
  | none => noS
theorem gS_gets (es : List En) (k : ByteArray) : Gets es k (gS es k).v (gS es k).b := by
  unfold gS
  cases h : es.find? (fun e => decide (e.k = k)) with
  | some e =>
    have h1 := List.find?_some h
    exact .inl ⟨rfl, e, List.mem_of_find?_eq_some h, by simpa using h1, rfl⟩
  | none =>
    refine .inr ⟨rfl, rfl, fun e he q => ?_⟩
    have := List.find?_eq_none.1 h e he
    simp [q] at this
theorem gS_of {es : List En} {k v : ByteArray} {b : Bool} (hr : RiseE es) (h : Gets es k v b) : gS es k = ⟨b, v⟩ := by
  obtain ⟨e1, e2⟩ := gets_uniq hr (gS_gets es k) h
  cases q : gS es k with
  | mk x y =>
    rw [q] at e1 e2
    simp only at e1 e2
    rw [e1, e2]
theorem gS_plain (es : List En) (k : ByteArray) : (gS es k).plain = gS es k := by
  unfold gS
  cases es.find? (fun e => decide (e.k = k)) <;> rfl
theorem gS_none {es : List En} {k : ByteArray} (h : ∀ e ∈ es, e.k ≠ k) : gS es k = noS := by
  unfold gS
  rw [List.find?_eq_none.2 (fun e he => by simp [h e he])]
theorem gS_some {es : List En} {e : En} (hr : RiseE es) (h : e ∈ es) : gS es e.k = ⟨true, e.v⟩ := gS_of hr (.inl ⟨rfl, e, h, rfl, rfl⟩)
theorem gS_true {es : List En} {k v : ByteArray} (h : gS es k = ⟨true, v⟩) : ∃ e ∈ es, e.k = k ∧ e.v = v := by
  have := gS_gets es k
  rw [h] at this
  rcases this with ⟨_, e, h1, h2, h3⟩ | ⟨h1, _⟩
  · exact ⟨e, h1, h2, h3⟩
  · cases h1
noncomputable def pk (a b c : List En) (k : ByteArray) : Si × Bool := pickP (gS a k) (gS b k) (gS c k)
theorem pk_is (a b c : List En) (k : ByteArray) : pickS (gS a k) (gS b k) (gS c k) = pk a b c k := by unfold pickS pk; rw [gS_plain, gS_plain, gS_plain]
noncomputable def mF (a b c : List En) (k : ByteArray) : Option En := match pk a b c k with
  | (⟨true, v⟩, _) => some ⟨k, v⟩
  | _ => none
noncomputable def cF (a b c : List En) (k : ByteArray) : Option Cl := match pk a b c k with
  | (_, true) => none
  | _ => some ⟨k, gS a k, gS b k, gS c k⟩
noncomputable def mL (a b c : List En) (ks : List ByteArray) : List En := ks.filterMap (mF a b c)
noncomputable def cL (a b c : List En) (ks : List ByteArray) : List Cl := ks.filterMap (cF a b c)
theorem mL_snoc (a b c : List En) (ks : List ByteArray) (k : ByteArray) : mL a b c (ks ++ [k]) = mL a b c ks ++ (mF a b c k).toList := by
  unfold mL
  rw [List.filterMap_append]
  congr 1
theorem cL_snoc (a b c : List En) (ks : List ByteArray) (k : ByteArray) : cL a b c (ks ++ [k]) = cL a b c ks ++ (cF a b c k).toList := by
  unfold cL
  rw [List.filterMap_append]
  congr 1
theorem mF_key {a b c : List En} {k : ByteArray} {e : En} (h : mF a b c k = some e) : e.k = k ∧ (pk a b c k).1 = ⟨true, e.v⟩ := by
  unfold mF at h
  split at h
  · rename_i v b heq
    cases h
    rw [heq]
    exact ⟨rfl, rfl⟩
  · cases h
theorem mF_some {a b c : List En} {k v : ByteArray} (h : (pk a b c k).1 = ⟨true, v⟩) : mF a b c k = some ⟨k, v⟩ := by
  unfold mF
  cases q : pk a b c k with
  | mk x y =>
    rw [q] at h
    simp only at h
    rw [h]
theorem mF_none {a b c : List En} {k v : ByteArray} (h : (pk a b c k).1 = ⟨false, v⟩) : mF a b c k = none := by
  unfold mF
  cases q : pk a b c k with
  | mk x y =>
    rw [q] at h
    simp only at h
    rw [h]
theorem cF_none {a b c : List En} {k : ByteArray} (h : (pk a b c k).2 = true) : cF a b c k = none := by
  unfold cF
  cases q : pk a b c k with
  | mk x y =>
    rw [q] at h
    simp only at h
    rw [h]
theorem cF_some {a b c : List En} {k : ByteArray} (h : (pk a b c k).2 = false) : cF a b c k = some ⟨k, gS a k, gS b k, gS c k⟩ := by
  unfold cF
  cases q : pk a b c k with
  | mk x y =>
    rw [q] at h
    simp only at h
    rw [h]
theorem mL_rise {a b c : List En} {ks : List ByteArray} (h : Rise ks) : RiseE (mL a b c ks) := by
  unfold RiseE mL
  refine List.Pairwise.filterMap _ ?_ h
  intro x y hxy e he f hf
  rw [(mF_key he).1, (mF_key hf).1]
  exact hxy
theorem mL_mem {a b c : List En} {ks : List ByteArray} {e : En} : e ∈ mL a b c ks ↔ e.k ∈ ks ∧ (pk a b c e.k).1 = ⟨true, e.v⟩ := by
  unfold mL
  rw [List.mem_filterMap]
  constructor
  · rintro ⟨k, hk, h⟩
    obtain ⟨h1, h2⟩ := mF_key h
    rw [h1]
    exact ⟨hk, h2⟩
  · rintro ⟨hk, h⟩
    exact ⟨e.k, hk, mF_some h⟩
theorem mL_len (a b c : List En) (ks : List ByteArray) : (mL a b c ks).length ≤ ks.length := List.length_filterMap_le _ _
theorem cL_len (a b c : List En) (ks : List ByteArray) : (cL a b c ks).length ≤ ks.length := List.length_filterMap_le _ _
/-- two rising maps with the same entries are one -/
theorem rise_uniq {es fs : List En} (r : RiseE es) (r' : RiseE fs) (hm : ∀ e, e ∈ es ↔ e ∈ fs) : es = fs := by
  induction es generalizing fs with
  | nil =>
    cases fs with
    | nil => rfl
    | cons c l => exact absurd ((hm c).2 (by simp)) (by simp)
  | cons c l ih =>
    cases fs with
    | nil => exact absurd ((hm c).1 (by simp)) (by simp)
    | cons c' l' =>
      unfold RiseE at r r'
      rw [List.pairwise_cons] at r r'
      have hcc : c = c' := by
        rcases List.mem_cons.1 ((hm c).1 (by simp)) with q | q
        · exact q
        · rcases List.mem_cons.1 ((hm c').2 (by simp)) with q' | q'
          · exact q'.symm
          · have := sLt_trans (r'.1 c q) (r.1 c' q')
            rw [sLt_irr] at this
            cases this
      subst hcc
      congr 1
      refine ih r.2 r'.2 (fun x => ?_)
      constructor
      · intro hx
        rcases List.mem_cons.1 ((hm x).1 (by simp [hx])) with q | q
        · have := r.1 x hx
          rw [q, sLt_irr] at this
          cases this
        · exact q
      · intro hx
        rcases List.mem_cons.1 ((hm x).2 (by simp [hx])) with q | q
        · have := r'.1 x hx
          rw [q, sLt_irr] at this
          cases this
        · exact q
/-- rising keys with the same members are one list -/
theorem keys_uniq {ks ls : List ByteArray} (r : Rise ks) (r' : Rise ls) (hm : ∀ k, k ∈ ks ↔ k ∈ ls) : ks = ls := by
  have h := rise_uniq (es := ks.map (fun k => ⟨k, k⟩)) (fs := ls.map (fun k => ⟨k, k⟩)) (by unfold RiseE; rw [List.pairwise_map]; exact r) (by unfold RiseE; rw [List.pairwise_map]; exact r') (fun e => by
    simp only [List.mem_map]
    constructor
    · rintro ⟨k, hk, rfl⟩
      exact ⟨k, (hm k).1 hk, rfl⟩
    · rintro ⟨k, hk, rfl⟩
      exact ⟨k, (hm k).2 hk, rfl⟩)
  have := congrArg (List.map En.k) h
  simpa [Function.comp_def] using this
def allK (a b c : List En) : List ByteArray := (a ++ (b ++ c)).map En.k
theorem KsS.uniq {ks ls seen seen' : List ByteArray} (h : KsS ks seen) (h' : KsS ls seen') (hs : ∀ k, k ∈ seen ↔ k ∈ seen') : ks = ls := keys_uniq h.rise h'.rise (fun k => (h.mem k).trans ((hs k).trans (h'.mem k).symm))
theorem out_none {a b c : List En} {ks : List ByteArray} (h : KsS ks (allK a b c)) {k : ByteArray} (hk : k ∉ ks) : gS a k = noS ∧ gS b k = noS ∧ gS c k = noS := by
  have hn : ∀ e : En, (e ∈ a ∨ e ∈ b ∨ e ∈ c) → e.k ≠ k := fun e he q => hk ((h.mem k).2 (by
    unfold allK
    rw [List.mem_map]
    refine ⟨e, ?_, q⟩
    rw [List.mem_append, List.mem_append]
    exact he))
  exact ⟨gS_none (fun e he => hn e (.inl he)), gS_none (fun e he => hn e (.inr (.inl he))), gS_none (fun e he => hn e (.inr (.inr he)))⟩
theorem gS_mL {a b c : List En} {ks : List ByteArray} (h : KsS ks (allK a b c)) (k : ByteArray) : ∀ v, (pk a b c k).1 = ⟨true, v⟩ → gS (mL a b c ks) k = ⟨true, v⟩ := by
  intro v hv
  by_cases hk : k ∈ ks
  · exact gS_some (e := ⟨k, v⟩) (mL_rise h.rise) (mL_mem.2 ⟨hk, hv⟩)
  · obtain ⟨h1, h2, h3⟩ := out_none h hk
    unfold pk at hv
    rw [h1, h2, h3, pickP_idle] at hv
    cases hv
theorem pk_false {a b c : List En} {k : ByteArray} (h : (pk a b c k).1.b = false) : (pk a b c k).1 = noS := by
  have key : ∀ s : Si, s.plain = s → s.b = false → s = noS := by
    rintro ⟨b, v⟩ h1 h2
    simp only at h2
    subst h2
    exact h1.symm
  refine key _ ?_ h
  unfold pk pickP
  split
  · exact gS_plain _ _
  · split
    · exact gS_plain _ _
    · exact gS_plain _ _
/-- what came of a key is what Get tells -/
theorem get_mL {a b c : List En} {ks : List ByteArray} (h : KsS ks (allK a b c)) (k : ByteArray) : gS (mL a b c ks) k = (pk a b c k).1 := by
  cases q : (pk a b c k).1 with
  | mk x v =>
    cases x with
    | true => exact gS_mL h k v q
    | false =>
      have h2 := pk_false (a := a) (b := b) (c := c) (k := k) (by rw [q])
      rw [q] at h2
      rw [h2]
      refine gS_none (fun e he hk => ?_)
      have := (mL_mem.1 he).2
      rw [hk, q] at this
      cases this
/-- where each key becomes what one map has, that map comes -/
theorem mL_one {a b c d : List En} {ks : List ByteArray} (hr : Rise ks) (hd : RiseE d) (h1 : ∀ k, (pk a b c k).1 = gS d k) (h2 : ∀ e ∈ d, e.k ∈ ks) : mL a b c ks = d := by
  refine rise_uniq (mL_rise hr) hd (fun e => ?_)
  rw [mL_mem, h1]
  constructor
  · rintro ⟨_, h⟩
    obtain ⟨f, hf, q1, q2⟩ := gS_true h
    have : f = e := by cases f; cases e; simp only at q1 q2; rw [q1, q2]
    rw [← this]
    exact hf
  · intro he
    exact ⟨h2 e he, gS_some hd he⟩
theorem cL_nil {a b c : List En} (ks : List ByteArray) (h : ∀ k, (pk a b c k).2 = true) : cL a b c ks = [] := by
  unfold cL
  rw [List.filterMap_eq_nil_iff]
  exact fun k _ => cF_none (h k)
/-- both sides turned round -/
theorem cL_turn (a b c : List En) (ks : List ByteArray) : cL a c b ks = (cL a b c ks).map (fun x => ⟨x.k, x.a, x.c, x.b⟩) := by
  unfold cL
  rw [List.map_filterMap]
  congr 1
  funext k
  have h := (pickP_turn (gS a k) (gS b k) (gS c k)).1
  cases q : (pk a b c k).2 with
  | true =>
    have q' : (pk a c b k).2 = true := by unfold pk at q ⊢; rw [h]; exact q
    rw [cF_none q, cF_none q']
    rfl
  | false =>
    have q' : (pk a c b k).2 = false := by unfold pk at q ⊢; rw [h]; exact q
    rw [cF_some q, cF_some q']
    rfl
theorem fm_congr {α β : Type} {f g : α → Option β} : ∀ l : List α, (∀ x ∈ l, f x = g x) → l.filterMap f = l.filterMap g
  | [], _ => rfl
  | x :: l, h => by
    have h1 := h x (by simp)
    have h2 := fm_congr l (fun y hy => h y (by simp [hy]))
    rw [List.filterMap_cons, List.filterMap_cons, h1, h2]
theorem mL_turn {a b c : List En} {ks : List ByteArray} (h : cL a b c ks = []) : mL a c b ks = mL a b c ks := by
  unfold mL
  refine fm_congr ks (fun k hk => ?_)
  unfold cL at h
  rw [List.filterMap_eq_nil_iff] at h
  have hc : (pk a b c k).2 = true := by
    cases q : (pk a b c k).2 with
    | true => rfl
    | false => exact absurd (h k hk) (by rw [cF_some q]; simp)
  have h1 := (pickP_turn (gS a k) (gS b k) (gS c k)).2 hc
  have h2 : (pk a c b k).1 = (pk a b c k).1 := h1
  cases q : (pk a b c k).1 with
  | mk x v =>
    rw [q] at h2
    cases x with
    | true => rw [mF_some q, mF_some h2]
    | false => rw [mF_none q, mF_none h2]
end Go.Proofs.Ytoneedobhopkkaa
