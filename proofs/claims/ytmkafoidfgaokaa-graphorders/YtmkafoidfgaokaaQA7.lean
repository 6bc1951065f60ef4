/- Ancestors, pure. Merge bases, pure. Graphs of commits, pure: ancestors. Graphs of commits, pure: one commit more. Commits by Gen and Id, pure. The log, pure: commits by Gen and Id are in one row only. Graphs of commits, pure: merge bases, the log's order. -/
import Derived.Test.YtmkafoidfgaokaaQA6
namespace Go.Proofs.Ytmkafoidfgaokaa
open Go.RowKit Apo
/-- the parents of a commit; none: it isn't there -/
def parG (l : List Cm) (m : Int) : List Int := match getG l m with | some c => c.ps | none => []
/-- whether a commit is met: asked for, or a parent of one that was met -/
def metB (l : List Cm) (ids met : List Int) (id : Int) : Bool := decide (id ∈ ids) || met.any (fun m => decide (id ∈ parG l m))
/-- those that are met on the way down, over the first k from the end -/
def metK (l : List Cm) (ids : List Int) : Nat → List Int
  | 0 => []
  | k + 1 => match l[l.length - (k + 1)]? with
    | some c => if metB l ids (metK l ids k) c.id then metK l ids k ++ [c.id] else metK l ids k
    | none => metK l ids k
/-- all ancestors, rising -/
def reachG (l : List Cm) (ids : List Int) : List Int := (metK l ids l.length).reverse
def isG (l : List Cm) (old late : Int) : Bool := decide (old ∈ reachG l [late])
theorem metK_len (l : List Cm) (ids : List Int) : ∀ k, (metK l ids k).length ≤ k
  | 0 => by simp [metK]
  | k + 1 => by
    have := metK_len l ids k
    simp only [metK]
    split
    · split
      · simp; omega
      · omega
    · omega
theorem metK_in (l : List Cm) (ids : List Int) : ∀ k z, z ∈ metK l ids k → ∃ c ∈ l, c.id = z
  | 0, z, h => by simp [metK] at h
  | k + 1, z, h => by
    simp only [metK] at h
    split at h
    · rename_i c hc
      split at h
      · rw [List.mem_append] at h
        rcases h with h | h
        · exact metK_in l ids k z h
        · simp at h
          exact ⟨c, List.mem_of_getElem? hc, h.symm⟩
      · exact metK_in l ids k z h
    · exact metK_in l ids k z h
theorem metK_succ {l : List Cm} {ids : List Int} {k : Nat} {c : Cm} (h : l[l.length - (k + 1)]? = some c) : metK l ids (k + 1) = if metB l ids (metK l ids k) c.id then metK l ids k ++ [c.id] else metK l ids k := by
  simp only [metK]
  rw [h]
end Go.Proofs.Ytmkafoidfgaokaa
namespace Go.Proofs.Ytmkafoidfgaokaa
open Go.RowKit Apo
def commonG (l : List Cm) (a b : Int) : List Int := (reachG l [a]).filter (fun id => decide (id ∈ reachG l [b]))
def bestB (l : List Cm) (com : List Int) (id : Int) : Bool := com.all (fun k => (k == id) || !isG l id k)
def basesG (l : List Cm) (a b : Int) : List Int := (commonG l a b).filter (bestB l (commonG l a b))
def genOf (l : List Cm) (k : Int) : Int := match getG l k with | some c => c.gen | none => 0
def baseS (l : List Cm) : List Int → Int × Int → Int × Int
  | [], s => s
  | k :: r, s => baseS l r (if s.2 < genOf l k then (k, genOf l k) else s)
def baseG (l : List Cm) (a b : Int) : Int × Bool := ((baseS l (basesG l a b) (0, 0)).1, decide (0 < (baseS l (basesG l a b) (0, 0)).2))
theorem reachG_len (l : List Cm) (ids : List Int) : (reachG l ids).length ≤ l.length := by
  unfold reachG
  rw [List.length_reverse]
  exact metK_len l ids l.length
theorem commonG_len (l : List Cm) (a b : Int) : (commonG l a b).length ≤ l.length := Nat.le_trans (List.length_filter_le _ _) (reachG_len l [a])
theorem basesG_len (l : List Cm) (a b : Int) : (basesG l a b).length ≤ l.length := Nat.le_trans (List.length_filter_le _ _) (commonG_len l a b)
theorem filter_take {α : Type} (p : α → Bool) {l : List α} {k : Nat} {x : α} (h : l[k]? = some x) : (l.take (k + 1)).filter p = (l.take k).filter p ++ (if p x then [x] else []) := by
  rw [List.take_add_one, h, List.filter_append]
  congr 1
  cases hx : p x <;> simp [hx]
theorem all_take {α : Type} (p : α → Bool) {l : List α} {k : Nat} {x : α} (h : l[k]? = some x) : (l.take (k + 1)).all p = ((l.take k).all p && p x) := by
  rw [List.take_add_one, h, List.all_append]
  simp
theorem any_take {α : Type} (p : α → Bool) {l : List α} {k : Nat} {x : α} (h : l[k]? = some x) : (l.take (k + 1)).any p = ((l.take k).any p || p x) := by
  rw [List.take_add_one, h, List.any_append]
  simp
end Go.Proofs.Ytmkafoidfgaokaa
namespace Go.Proofs.Ytmkafoidfgaokaa
open Go.RowKit Apo
/-- a is an ancestor of b -/
inductive Anc (l : List Cm) (a : Int) : Int → Prop where
  | self (c : Cm) (h : getG l a = some c) : Anc l a a
  | step (b p : Int) (c : Cm) (h : getG l b = some c) (hp : p ∈ c.ps) (r : Anc l a p) : Anc l a b
/-- a graph as it comes about -/
structure Gok (l : List Cm) : Prop where
  rise : l.Pairwise (fun a b => a.id < b.id)
  par : ∀ c ∈ l, ∀ p ∈ c.ps, p < c.id ∧ ∃ d, getG l p = some d ∧ d.gen < c.gen
  up : ∀ c ∈ l, ∃ g, genUp l c.ps 0 = some g ∧ c.gen = g + 1
  lim : ∀ c ∈ l, c.gen ≤ l.length
theorem getG_mem {l : List Cm} {id : Int} {c : Cm} (h : getG l id = some c) : c ∈ l ∧ c.id = id := by
  unfold getG at h
  exact ⟨List.mem_of_find?_eq_some h, by simpa using List.find?_some h⟩
theorem getG_is {l : List Cm} (h : l.Pairwise (fun a b => a.id < b.id)) {c : Cm} (hc : c ∈ l) : getG l c.id = some c := by
  unfold getG
  induction l with
  | nil => cases hc
  | cons a r ih =>
    rw [List.pairwise_cons] at h
    rcases List.mem_cons.1 hc with q | q
    · subst q
      simp
    · have hne : ¬ a.id = c.id := by have := h.1 c q; omega
      rw [List.find?_cons_of_neg (by simpa using hne)]
      exact ih h.2 q
theorem Anc.low {l : List Cm} {a b : Int} (h : Anc l a b) : a = b ∨ ∃ m c, getG l m = some c ∧ a ∈ c.ps ∧ Anc l m b := by
  induction h with
  | self c h => exact .inl rfl
  | step b p c h hp r ih =>
    right
    rcases ih with q | ⟨m, d, h1, h2, h3⟩
    · subst q
      exact ⟨b, c, h, hp, .self c h⟩
    · exact ⟨m, d, h1, h2, .step b p c h hp h3⟩
theorem Anc.trans {l : List Cm} {a b c : Int} (h1 : Anc l a b) (h2 : Anc l b c) : Anc l a c := by
  induction h2 with
  | self d h => exact h1
  | step e p d h hp r ih => exact .step e p d h hp ih
theorem Anc.there {l : List Cm} {a b : Int} (h : Anc l a b) : (∃ c, getG l a = some c) ∧ ∃ c, getG l b = some c := by
  induction h with
  | self d h => exact ⟨⟨d, h⟩, ⟨d, h⟩⟩
  | step e p d h hp r ih => exact ⟨ih.1, ⟨d, h⟩⟩
theorem Anc.gens {l : List Cm} (G : Gok l) {a b : Int} (h : Anc l a b) : a = b ∨ (a < b ∧ ∃ c d, getG l a = some c ∧ getG l b = some d ∧ c.gen < d.gen) := by
  induction h with
  | self d h => exact .inl rfl
  | step e p d h hp r ih =>
    right
    obtain ⟨hd, he⟩ := getG_mem h
    obtain ⟨h1, x, h2, h3⟩ := G.par d hd p hp
    rcases ih with q | ⟨q, c, y, q1, q2, q3⟩
    · subst q
      exact ⟨by omega, x, d, h2, h, h3⟩
    · rw [h2] at q2
      injection q2 with q2
      subst q2
      exact ⟨by omega, c, d, q1, h, by omega⟩
theorem Anc.anti {l : List Cm} (G : Gok l) {a b : Int} (h1 : Anc l a b) (h2 : Anc l b a) : a = b := by
  rcases h1.gens G with q | q
  · exact q
  · rcases h2.gens G with r | r
    · exact r.symm
    · omega
theorem rise_lt {l : List Cm} (h : l.Pairwise (fun a b => a.id < b.id)) {i j : Nat} {c d : Cm} (hi : l[i]? = some c) (hj : l[j]? = some d) : c.id < d.id ↔ i < j := by
  obtain ⟨hil, hiv⟩ := List.getElem?_eq_some_iff.1 hi
  obtain ⟨hjl, hjv⟩ := List.getElem?_eq_some_iff.1 hj
  have hN := List.pairwise_iff_getElem.1 h
  constructor
  · intro q
    rcases Nat.lt_trichotomy i j with r | r | r
    · exact r
    · subst r; rw [← hiv, ← hjv] at q; omega
    · have := hN j i hjl hil r; rw [hiv, hjv] at this; omega
  · intro q
    have := hN i j hil hjl q
    rw [hiv, hjv] at this
    exact this
theorem metK_mem {l : List Cm} (G : Gok l) (ids : List Int) : ∀ k, k ≤ l.length → ∀ z, z ∈ metK l ids k ↔ ∃ j c, l.length - k ≤ j ∧ l[j]? = some c ∧ c.id = z ∧ ∃ i ∈ ids, Anc l z i
  | 0, _, z => by
    simp only [metK, List.not_mem_nil, false_iff, not_exists, not_and]
    intro j c hj hc
    have := (List.getElem?_eq_some_iff.1 hc).1
    omega
  | k + 1, hk, z => by
    have ih := metK_mem G ids k (by omega)
    obtain ⟨c, hc⟩ : ∃ c, l[l.length - (k + 1)]? = some c := ⟨l[l.length - (k + 1)]'(by omega), List.getElem?_eq_getElem _⟩
    have hcl := List.mem_of_getElem? hc
    have hget := getG_is G.rise hcl
    rw [metK_succ hc]
    have hB : metB l ids (metK l ids k) c.id = true ↔ ∃ i ∈ ids, Anc l c.id i := by
      unfold metB
      rw [Bool.or_eq_true, decide_eq_true_iff, List.any_eq_true]
      constructor
      · rintro (q | ⟨m, hm, q⟩)
        · exact ⟨c.id, q, .self c hget⟩
        · obtain ⟨j, d, hj, hd, hdi, i, hi, ha⟩ := (ih m).1 hm
          have hgd := getG_is G.rise (List.mem_of_getElem? hd)
          rw [hdi] at hgd
          rw [decide_eq_true_iff] at q
          unfold parG at q
          rw [hgd] at q
          have h1 : Anc l c.id m := .step m c.id d hgd q (.self c hget)
          exact ⟨i, hi, h1.trans ha⟩
      · rintro ⟨i, hi, ha⟩
        rcases ha.low with q | ⟨m, d, h1, h2, h3⟩
        · left; rw [q]; exact hi
        · right
          refine ⟨m, ?_, ?_⟩
          · obtain ⟨hd, hdm⟩ := getG_mem h1
            obtain ⟨j, hj⟩ := List.getElem?_of_mem hd
            have hlt := (G.par d hd c.id h2).1
            have := (rise_lt G.rise hc hj).1 hlt
            exact (ih m).2 ⟨j, d, by omega, hj, hdm, i, hi, h3⟩
          · rw [decide_eq_true_iff]
            unfold parG
            rw [h1]
            exact h2
    have hsplit : ∀ j, l.length - (k + 1) ≤ j ↔ (j = l.length - (k + 1) ∨ l.length - k ≤ j) := by
      intro j
      omega
    cases hb : metB l ids (metK l ids k) c.id with
    | true =>
      rw [hb] at hB
      simp only [if_true, List.mem_append, List.mem_singleton, ih z]
      constructor
      · rintro (⟨j, d, h1, h2⟩ | q)
        · exact ⟨j, d, by omega, h2⟩
        · exact ⟨_, c, Nat.le_refl _, hc, q.symm, by rw [q]; exact hB.1 rfl⟩
      · rintro ⟨j, d, h1, h2, h3, h4⟩
        rcases (hsplit j).1 h1 with q | q
        · right
          rw [q, hc] at h2
          injection h2 with h2
          rw [h2, h3]
        · exact .inl ⟨j, d, q, h2, h3, h4⟩
    | false =>
      rw [hb] at hB
      simp only [Bool.false_eq_true, if_false, ih z]
      constructor
      · rintro ⟨j, d, h1, h2⟩
        exact ⟨j, d, by omega, h2⟩
      · rintro ⟨j, d, h1, h2, h3, h4⟩
        rcases (hsplit j).1 h1 with q | q
        · rw [q, hc] at h2
          injection h2 with h2
          subst h2
          rw [← h3] at h4
          exact absurd (hB.2 h4) (by decide)
        · exact ⟨j, d, q, h2, h3, h4⟩
theorem mem_reach {l : List Cm} (G : Gok l) (ids : List Int) (z : Int) : z ∈ reachG l ids ↔ ∃ i ∈ ids, Anc l z i := by
  unfold reachG
  rw [List.mem_reverse, metK_mem G ids _ (Nat.le_refl _)]
  constructor
  · rintro ⟨j, c, _, _, _, h⟩
    exact h
  · rintro ⟨i, hi, ha⟩
    obtain ⟨c, hc⟩ := ha.there.1
    obtain ⟨hm, hid⟩ := getG_mem hc
    obtain ⟨j, hj⟩ := List.getElem?_of_mem hm
    exact ⟨j, c, by omega, hj, hid, i, hi, ha⟩
theorem metK_fall {l : List Cm} (h : l.Pairwise (fun a b => a.id < b.id)) (ids : List Int) : ∀ k, k ≤ l.length → (metK l ids k).Pairwise (fun a b => b < a) ∧ ∀ z ∈ metK l ids k, ∃ j c, l.length - k ≤ j ∧ l[j]? = some c ∧ c.id = z
  | 0, _ => by simp [metK]
  | k + 1, hk => by
    obtain ⟨h1, h2⟩ := metK_fall h ids k (by omega)
    obtain ⟨c, hc⟩ : ∃ c, l[l.length - (k + 1)]? = some c := ⟨l[l.length - (k + 1)]'(by omega), List.getElem?_eq_getElem _⟩
    rw [metK_succ hc]
    split
    · constructor
      · rw [List.pairwise_append]
        refine ⟨h1, by simp, fun a ha b hb => ?_⟩
        rw [List.mem_singleton.1 hb]
        obtain ⟨j, d, hj, hd, hdi⟩ := h2 a ha
        rw [← hdi]
        exact (rise_lt h hc hd).2 (by omega)
      · intro z hz
        rcases List.mem_append.1 hz with q | q
        · obtain ⟨j, d, hj, hd⟩ := h2 z q
          exact ⟨j, d, by omega, hd⟩
        · exact ⟨_, c, Nat.le_refl _, hc, (List.mem_singleton.1 q).symm⟩
    · exact ⟨h1, fun z hz => by
        obtain ⟨j, d, hj, hd⟩ := h2 z hz
        exact ⟨j, d, by omega, hd⟩⟩
theorem reach_rise {l : List Cm} (h : l.Pairwise (fun a b => a.id < b.id)) (ids : List Int) : (reachG l ids).Pairwise (fun a b => a < b) := by
  unfold reachG
  rw [List.pairwise_reverse]
  exact (metK_fall h ids _ (Nat.le_refl _)).1
/-- numbers that rise are in one row only -/
theorem rise_ext {a b : List Int} (ha : a.Pairwise (· < ·)) (hb : b.Pairwise (· < ·)) (h : ∀ z, z ∈ a ↔ z ∈ b) : a = b := by
  refine List.Perm.eq_of_pairwise (le := (· < ·)) (fun x y _ _ h1 h2 => by omega) ha hb ?_
  rw [List.perm_ext_iff_of_nodup]
  · exact h
  · exact ha.imp (fun q => by omega)
  · exact hb.imp (fun q => by omega)
theorem is_anc {l : List Cm} (G : Gok l) (a b : Int) : isG l a b = true ↔ Anc l a b := by
  unfold isG
  rw [decide_eq_true_iff, mem_reach G]
  simp
end Go.Proofs.Ytmkafoidfgaokaa
namespace Go.Proofs.Ytmkafoidfgaokaa
open Go.RowKit Apo
theorem genUp_is {l : List Cm} : ∀ {ps : List Int} {g0 g : Int}, genUp l ps g0 = some g → g0 ≤ g ∧ (∀ p ∈ ps, ∃ d, getG l p = some d ∧ d.gen ≤ g) ∧ (g = g0 ∨ ∃ p ∈ ps, ∃ d, getG l p = some d ∧ d.gen = g)
  | [], g0, g, h => by
    simp only [genUp, Option.some.injEq] at h
    subst h
    exact ⟨Int.le_refl _, by simp, .inl rfl⟩
  | p :: ps, g0, g, h => by
    simp only [genUp] at h
    split at h
    · cases h
    · rename_i x hx
      obtain ⟨h1, h2, h3⟩ := genUp_is h
      by_cases q : g0 < x.gen
      · rw [if_pos q] at h1 h3
        refine ⟨by omega, fun p' hp' => ?_, ?_⟩
        · rcases List.mem_cons.1 hp' with e | e
          · rw [e]; exact ⟨x, hx, h1⟩
          · exact h2 p' e
        · right
          rcases h3 with e | ⟨p', hp', d, h4, h5⟩
          · exact ⟨p, by simp, x, hx, e.symm⟩
          · exact ⟨p', List.mem_cons_of_mem _ hp', d, h4, h5⟩
      · rw [if_neg q] at h1 h3
        refine ⟨by omega, fun p' hp' => ?_, ?_⟩
        · rcases List.mem_cons.1 hp' with e | e
          · rw [e]; exact ⟨x, hx, by omega⟩
          · exact h2 p' e
        · rcases h3 with e | ⟨p', hp', d, h4, h5⟩
          · exact .inl e
          · exact .inr ⟨p', List.mem_cons_of_mem _ hp', d, h4, h5⟩
theorem genUp_same {l l' : List Cm} : ∀ {ps : List Int} {g0 g : Int}, genUp l ps g0 = some g → (∀ p ∈ ps, ∀ d, getG l p = some d → getG l' p = some d) → genUp l' ps g0 = some g
  | [], _, _, h, _ => h
  | p :: ps, g0, g, h, hs => by
    simp only [genUp] at h ⊢
    split at h
    · cases h
    · rename_i x hx
      rw [hs p (by simp) x hx]
      exact genUp_same h (fun q hq => hs q (List.mem_cons_of_mem _ hq))
theorem parOk_lt {id : Int} {ps : List Int} (h : parOk id ps = true) : ∀ p ∈ ps, p < id ∧ p ≠ 0 := by
  unfold parOk at h
  split at h
  · simp
  · rename_i p
    simp only [Bool.and_eq_true, Bool.not_eq_true', beq_eq_false_iff_ne, decide_eq_true_eq] at h
    simp only [List.mem_singleton, forall_eq]
    exact ⟨h.2, h.1⟩
  · rename_i p q
    simp only [Bool.and_eq_true, Bool.not_eq_true', beq_eq_false_iff_ne, decide_eq_true_eq] at h
    intro z hz
    simp only [List.mem_cons, List.not_mem_nil, or_false] at hz
    rcases hz with e | e
    · subst e; exact ⟨h.1.2, h.1.1⟩
    · subst e; exact ⟨h.2.1.2, h.2.1.1⟩
  · cases h
theorem cmE_par {c : Cm} (h : cmE c = 0) : parOk c.id c.ps = true ∧ genOk c.ps.length c.gen = true := by
  unfold cmE at h
  split at h
  · cases h
  · split at h
    · cases h
    · rename_i q
      split at h
      · cases h
      · rename_i r
        exact ⟨by simpa using q, by simpa using r⟩
theorem addE_ok {l : List Cm} {c : Cm} (h : addE l c = 0) : cmE c = 0 ∧ getG l c.id = none ∧ ∃ g, genUp l c.ps 0 = some g ∧ c.gen = (g + 1) % 18446744073709551616 := by
  unfold addE at h
  split at h
  · rename_i q
    exact absurd h q
  · rename_i q
    split at h
    · cases h
    · rename_i r
      split at h
      · cases h
      · rename_i g hg
        split at h
        · rename_i e
          refine ⟨Decidable.not_not.1 q, ?_, g, hg, e⟩
          cases hq : getG l c.id with
          | none => rfl
          | some d => rw [hq] at r; simp at r
        · cases h
theorem gok_nil : Gok [] := ⟨List.Pairwise.nil, by simp, by simp, by simp⟩
theorem ins_rise {l : List Cm} (h : l.Pairwise (fun a b => a.id < b.id)) {c : Cm} (hn : getG l c.id = none) : (l.take (insAt l c.id) ++ c :: l.drop (insAt l c.id)).Pairwise (fun a b => a.id < b.id) := by
  have hb : ∀ a ∈ l.take (insAt l c.id), a.id < c.id := by
    intro a ha
    have e : l.take (insAt l c.id) = l.takeWhile (fun d => decide (d.id < c.id)) := by
      unfold insAt
      exact (List.prefix_iff_eq_take.1 (List.takeWhile_prefix _)).symm
    rw [e] at ha
    have := List.all_eq_true.1 (List.all_takeWhile (p := fun d : Cm => decide (d.id < c.id)) (l := l)) a ha
    simpa using this
  have hne : ∀ a ∈ l, a.id ≠ c.id := by
    intro a ha e
    have := getG_is h ha
    rw [e, hn] at this
    cases this
  have hs := h
  rw [← List.take_append_drop (insAt l c.id) l, List.pairwise_append] at hs
  obtain ⟨h1, h2, h3⟩ := hs
  have ha : ∀ a ∈ l.drop (insAt l c.id), c.id < a.id := by
    have e : l.drop (insAt l c.id) = l.dropWhile (fun d => decide (d.id < c.id)) := by
      unfold insAt
      conv => lhs; arg 2; rw [← List.takeWhile_append_dropWhile (p := fun d : Cm => decide (d.id < c.id)) (l := l)]
      exact List.drop_left
    intro a ha
    cases hd : l.drop (insAt l c.id) with
    | nil => rw [hd] at ha; cases ha
    | cons x r =>
      have hx : ¬ x.id < c.id := by
        have := List.head?_dropWhile_not (fun d : Cm => decide (d.id < c.id)) l
        rw [← e, hd] at this
        simpa using this
      have hxl : x ∈ l := List.mem_of_mem_drop (by rw [hd]; simp : x ∈ l.drop (insAt l c.id))
      have hxc := hne x hxl
      rw [hd] at ha h2
      rcases List.mem_cons.1 ha with q | q
      · rw [q]; omega
      · have := (List.pairwise_cons.1 h2).1 a q
        omega
  rw [List.pairwise_append, List.pairwise_cons]
  refine ⟨h1, ⟨ha, h2⟩, fun a hx b hy => ?_⟩
  rcases List.mem_cons.1 hy with q | q
  · rw [q]; exact hb a hx
  · exact h3 a hx b q
theorem ins_mem {l : List Cm} {c : Cm} (i : Nat) (x : Cm) : x ∈ l.take i ++ c :: l.drop i ↔ x = c ∨ x ∈ l := by
  rw [List.mem_append, List.mem_cons]
  conv => rhs; rw [← List.take_append_drop i l, List.mem_append]
  constructor
  · rintro (h | h | h)
    · exact .inr (.inl h)
    · exact .inl h
    · exact .inr (.inr h)
  · rintro (h | h | h)
    · exact .inr (.inl h)
    · exact .inl h
    · exact .inr (.inr h)
theorem addL_len (l : List Cm) (c : Cm) : (addL l c).length ≤ l.length + 1 ∧ l.length ≤ (addL l c).length := by
  unfold addL
  split
  · have := insAt_le l c.id
    simp
    omega
  · omega
theorem gok_add {l : List Cm} (G : Gok l) (hl : l.length ≤ 1000000) (c : Cm) : Gok (addL l c) := by
  unfold addL
  split
  · rename_i h0
    obtain ⟨hc, hn, g, hg, hgen⟩ := addE_ok h0
    obtain ⟨u1, u2, u3⟩ := genUp_is hg
    have hgb : g ≤ l.length := by
      rcases u3 with e | ⟨p, hp, d, hd, e⟩
      · omega
      · have := G.lim d (getG_mem hd).1
        omega
    have hgc : c.gen = g + 1 := by rw [hgen]; omega
    have hr := ins_rise G.rise hn
    obtain ⟨i, hi⟩ : ∃ i, i = insAt l c.id := ⟨_, rfl⟩
    have hil : i ≤ l.length := by rw [hi]; exact insAt_le _ _
    rw [← hi] at hr ⊢
    have hold : ∀ p d, getG l p = some d → getG (l.take i ++ c :: l.drop i) p = some d := by
      intro p d hd
      obtain ⟨h1, h2⟩ := getG_mem hd
      have := getG_is hr ((ins_mem i d).2 (.inr h1))
      rw [h2] at this
      exact this
    refine ⟨hr, ?_, ?_, ?_⟩
    · intro x hx p hp
      rcases (ins_mem i x).1 hx with e | e
      · subst e
        obtain ⟨d, hd, hdg⟩ := u2 p hp
        exact ⟨(parOk_lt (cmE_par hc).1 p hp).1, d, hold p d hd, by omega⟩
      · obtain ⟨h1, d, h2, h3⟩ := G.par x e p hp
        exact ⟨h1, d, hold p d h2, h3⟩
    · intro x hx
      rcases (ins_mem i x).1 hx with e | e
      · subst e
        exact ⟨g, genUp_same hg (fun p _ d hd => hold p d hd), hgc⟩
      · obtain ⟨g2, h1, h2⟩ := G.up x e
        exact ⟨g2, genUp_same h1 (fun p _ d hd => hold p d hd), h2⟩
    · intro x hx
      have hlen : (l.take i ++ c :: l.drop i).length = l.length + 1 := by simp; omega
      rw [hlen]
      rcases (ins_mem i x).1 hx with e | e
      · subst e; omega
      · have := G.lim x e
        omega
  · exact G
end Go.Proofs.Ytmkafoidfgaokaa
namespace Go.Proofs.Ytmkafoidfgaokaa
open Go.RowKit Apo
/-- whether a commit is to stand ahead of another one -/
def aheadB (le : Bool) (c d : Cm) : Bool := (decide (d.gen < c.gen) || ((c.gen == d.gen) && decide (d.id < c.id))) != le
def slotS (le : Bool) (c : Cm) (out : List Cm) : Nat := out.length - (out.reverse.takeWhile (aheadB le c)).length
def insS (le : Bool) (out : List Cm) (c : Cm) : List Cm := out.take (slotS le c out) ++ c :: out.drop (slotS le c out)
def cmOf (l : List Cm) (id : Int) : Cm := (getG l id).getD zeroCm
def sortG (l : List Cm) (le : Bool) (ids : List Int) : List Cm := ids.foldl (fun out id => insS le out (cmOf l id)) []
def logG (l : List Cm) (id most : Int) : List Cm := (sortG l false (reachG l [id])).take most.toNat
theorem slotS_is {le : Bool} {c : Cm} {out : List Cm} {i : Nat} (hi : i ≤ out.length) (h1 : ∀ j d, i ≤ j → out[j]? = some d → aheadB le c d = true) (h2 : ∀ d, 0 < i → out[i - 1]? = some d → aheadB le c d = false) : slotS le c out = i := by
  have hs : out.reverse = (out.drop i).reverse ++ (out.take i).reverse := by
    rw [← List.reverse_append, List.take_append_drop]
  have a1 : ∀ x ∈ (out.drop i).reverse, aheadB le c x = true := by
    intro x hx
    rw [List.mem_reverse] at hx
    obtain ⟨j, hj, hv⟩ := List.getElem_of_mem hx
    rw [List.getElem_drop] at hv
    exact h1 (i + j) x (by omega) (by rw [← hv]; exact List.getElem?_eq_getElem _)
  have a2 : ((out.take i).reverse).takeWhile (aheadB le c) = [] := by
    cases hd : (out.take i).reverse with
    | nil => rfl
    | cons x r =>
      have hip : 0 < i := by
        rcases Nat.eq_zero_or_pos i with q | q
        · subst q; simp at hd
        · exact q
      have hx : out[i - 1]? = some x := by
        have e0 := congrArg (fun z : List Cm => z[0]?) hd
        simp only [List.getElem?_cons_zero] at e0
        rw [List.getElem?_reverse (by simp; omega)] at e0
        rw [List.getElem?_take] at e0
        have e1 : (out.take i).length - 1 - 0 = i - 1 := by rw [List.length_take]; omega
        rw [e1] at e0
        split at e0
        · exact e0
        · cases e0
      rw [List.takeWhile_cons_of_neg (by rw [h2 x hip hx]; simp)]
  unfold slotS
  rw [hs, List.takeWhile_append_of_pos a1, a2, List.append_nil, List.length_reverse, List.length_drop]
  omega
theorem insS_len (le : Bool) (out : List Cm) (c : Cm) : (insS le out c).length = out.length + 1 := by
  unfold insS
  simp
  have : slotS le c out ≤ out.length := by unfold slotS; omega
  omega
theorem sort_take {l : List Cm} {le : Bool} {ids : List Int} {k : Nat} {z : Int} (h : ids[k]? = some z) : sortG l le (ids.take (k + 1)) = insS le (sortG l le (ids.take k)) (cmOf l z) := by
  unfold sortG
  rw [List.take_add_one, h, List.foldl_append]
  rfl
theorem sortG_len (l : List Cm) (le : Bool) (ids : List Int) : ∀ k, k ≤ ids.length → (sortG l le (ids.take k)).length = k
  | 0, _ => by simp [sortG]
  | k + 1, hk => by
    rw [sort_take (List.getElem?_eq_getElem (by omega)), insS_len, sortG_len l le ids k (by omega)]
end Go.Proofs.Ytmkafoidfgaokaa
namespace Go.Proofs.Ytmkafoidfgaokaa
open Go.RowKit Apo
/-- whether c is to stand ahead of d, or beside it -/
def leC (c d : Cm) : Prop := aheadB false d c = false
theorem leC_tr {a b c : Cm} (h1 : leC a b) (h2 : leC b c) : leC a c := by
  unfold leC aheadB at *
  simp only [Bool.bne_false, Bool.or_eq_false_iff, Bool.and_eq_false_iff, decide_eq_false_iff_not, beq_eq_false_iff_ne, ne_eq] at *
  refine ⟨by omega, ?_⟩
  by_cases q : c.gen = a.gen
  · right
    have h3 : b.gen = a.gen := by omega
    have h4 : c.gen = b.gen := by omega
    rcases h1.2 with e | e
    · exact absurd h3 e
    · rcases h2.2 with f | f
      · exact absurd h4 f
      · omega
  · exact .inl q
theorem leC_of {c d : Cm} (h : aheadB false c d = true) : leC c d := by
  unfold leC aheadB at *
  simp only [Bool.bne_false, Bool.or_eq_true, Bool.and_eq_true, decide_eq_true_eq, beq_iff_eq, Bool.or_eq_false_iff, Bool.and_eq_false_iff, decide_eq_false_iff_not, beq_eq_false_iff_ne, ne_eq] at *
  refine ⟨by omega, ?_⟩
  by_cases q : d.gen = c.gen
  · right; omega
  · exact .inl q
theorem leC_id {c d : Cm} (h1 : leC c d) (h2 : leC d c) : c.id = d.id := by
  unfold leC aheadB at *
  simp only [Bool.bne_false, Bool.or_eq_false_iff, Bool.and_eq_false_iff, decide_eq_false_iff_not, beq_eq_false_iff_ne, ne_eq] at *
  have hg : c.gen = d.gen := by omega
  rcases h1.2 with e | e
  · exact absurd hg.symm e
  · rcases h2.2 with f | f
    · exact absurd hg f
    · omega
theorem insS_perm (le : Bool) (out : List Cm) (c : Cm) : (insS le out c).Perm (c :: out) := by
  unfold insS
  have h1 : (out.take (slotS le c out) ++ c :: out.drop (slotS le c out)).Perm (c :: (out.take (slotS le c out) ++ out.drop (slotS le c out))) := List.perm_middle
  rw [List.take_append_drop] at h1
  exact h1
theorem slot_after (le : Bool) (c : Cm) (out : List Cm) : ∀ d ∈ out.drop (slotS le c out), aheadB le c d = true := by
  intro d hd
  have h1 : (out.drop (slotS le c out)).reverse = out.reverse.takeWhile (aheadB le c) := by
    have h2 : (out.reverse.takeWhile (aheadB le c)).length ≤ out.length := by
      have := (List.takeWhile_sublist (aheadB le c) (l := out.reverse)).length_le
      simpa using this
    rw [List.reverse_drop, slotS]
    rw [show out.length - (out.length - (List.takeWhile (aheadB le c) out.reverse).length) = (List.takeWhile (aheadB le c) out.reverse).length by omega]
    exact (List.prefix_iff_eq_take.1 (List.takeWhile_prefix _)).symm
  have h3 : d ∈ out.reverse.takeWhile (aheadB le c) := by rw [← h1, List.mem_reverse]; exact hd
  exact List.all_eq_true.1 (List.all_takeWhile) d h3
theorem slot_before (le : Bool) (c : Cm) (out : List Cm) (d : Cm) (hd : (out.take (slotS le c out)).getLast? = some d) : aheadB le c d = false := by
  have hl : (out.reverse.takeWhile (aheadB le c)).length ≤ out.length := by
    have := (List.takeWhile_sublist (aheadB le c) (l := out.reverse)).length_le
    simpa using this
  have h1 : (out.take (slotS le c out)).reverse = out.reverse.dropWhile (aheadB le c) := by
    have e1 := List.takeWhile_append_dropWhile (p := aheadB le c) (l := out.reverse)
    have e2 : out.reverse.drop ((out.reverse.takeWhile (aheadB le c)).length) = out.reverse.dropWhile (aheadB le c) := by
      conv => lhs; rw [← e1]
      rw [List.takeWhile_append_dropWhile]
      conv => lhs; arg 2; rw [← e1]
      exact List.drop_left
    rw [← e2, List.drop_reverse, slotS]
  rw [List.getLast?_eq_head?_reverse, h1] at hd
  cases hq : aheadB le c d with
  | false => rfl
  | true =>
    have := List.head?_dropWhile_not (aheadB le c) out.reverse
    rw [hd] at this
    simp [hq] at this
theorem insS_sorted {out : List Cm} (h : out.Pairwise leC) (c : Cm) : (insS false out c).Pairwise leC := by
  unfold insS
  have hs := h
  rw [← List.take_append_drop (slotS false c out) out, List.pairwise_append] at hs
  obtain ⟨h1, h2, h3⟩ := hs
  have hb : ∀ a ∈ out.take (slotS false c out), leC a c := by
    intro a ha
    have hne : out.take (slotS false c out) ≠ [] := List.ne_nil_of_mem ha
    have hla := slot_before false c out _ (List.getLast?_eq_some_getLast hne)
    have hl : leC ((out.take (slotS false c out)).getLast hne) c := hla
    have e := List.dropLast_concat_getLast hne
    rw [← e] at ha h1
    rw [List.pairwise_append] at h1
    rcases List.mem_append.1 ha with q | q
    · exact leC_tr (h1.2.2 a q _ (by simp)) hl
    · rw [List.mem_singleton.1 q]; exact hl
  have ha : ∀ a ∈ out.drop (slotS false c out), leC c a := fun a ha => leC_of (slot_after false c out a ha)
  rw [List.pairwise_append, List.pairwise_cons]
  refine ⟨h1, ⟨ha, h2⟩, fun a hx b hy => ?_⟩
  rcases List.mem_cons.1 hy with q | q
  · rw [q]; exact hb a hx
  · exact h3 a hx b q
theorem sortG_sorted (l : List Cm) (ids : List Int) : (sortG l false ids).Pairwise leC ∧ (sortG l false ids).Perm (ids.map (cmOf l)) := by
  unfold sortG
  have key : ∀ (ids : List Int) (out : List Cm), out.Pairwise leC → (ids.foldl (fun out id => insS false out (cmOf l id)) out).Pairwise leC ∧ (ids.foldl (fun out id => insS false out (cmOf l id)) out).Perm (out ++ ids.map (cmOf l)) := by
    intro ids
    induction ids with
    | nil => intro out h; exact ⟨h, by simp⟩
    | cons z r ih =>
      intro out h
      obtain ⟨a, b⟩ := ih _ (insS_sorted h (cmOf l z))
      refine ⟨a, b.trans ?_⟩
      rw [List.map_cons]
      exact ((insS_perm false out (cmOf l z)).append_right _).trans List.perm_middle.symm
  obtain ⟨a, b⟩ := key ids [] List.Pairwise.nil
  exact ⟨a, by simpa using b⟩
/-- what comes out first of a heap is the log -/
theorem log_of {A P rest : List Cm} {S : List Cm} (hS : S.Pairwise leC) (hp : S.Perm A) (hA : (A.map Cm.id).Nodup) (hP : P.Pairwise leC) (hr : ∀ a ∈ P, ∀ b ∈ rest, leC a b) (h : (P ++ rest).Perm A) : P = S.take P.length := by
  have hinj : ∀ a ∈ A, ∀ b ∈ A, a.id = b.id → a = b := by
    intro a ha b hb e
    obtain ⟨i, hi⟩ := List.getElem?_of_mem ha
    obtain ⟨j, hj⟩ := List.getElem?_of_mem hb
    obtain ⟨hil, hiv⟩ := List.getElem?_eq_some_iff.1 hi
    obtain ⟨hjl, hjv⟩ := List.getElem?_eq_some_iff.1 hj
    have hN := List.pairwise_iff_getElem.1 hA
    by_cases q : i = j
    · subst q
      rw [← hiv, ← hjv]
    · exfalso
      rcases Nat.lt_or_gt_of_ne q with q | q
      · exact hN i j (by simpa using hil) (by simpa using hjl) q (by simp [hiv, hjv, e])
      · exact hN j i (by simpa using hjl) (by simpa using hil) q (by simp [hiv, hjv, e])
  have hsum : ∃ T : List Cm, T.Pairwise leC ∧ T.Perm rest := by
    refine ⟨rest.foldl (fun out c => insS false out c) [], ?_⟩
    have key : ∀ (r : List Cm) (out : List Cm), out.Pairwise leC → (r.foldl (fun out c => insS false out c) out).Pairwise leC ∧ (r.foldl (fun out c => insS false out c) out).Perm (out ++ r) := by
      intro r
      induction r with
      | nil => intro out h; exact ⟨h, by simp⟩
      | cons z r ih =>
        intro out h
        obtain ⟨a, b⟩ := ih _ (insS_sorted h z)
        exact ⟨a, b.trans (((insS_perm false out z).append_right _).trans List.perm_middle.symm)⟩
    obtain ⟨a, b⟩ := key rest [] List.Pairwise.nil
    exact ⟨a, by simpa using b⟩
  obtain ⟨T, hT, hTp⟩ := hsum
  have hPT : (P ++ T).Perm A := (hTp.append_left P).trans h
  have e : P ++ T = S := by
    refine List.Perm.eq_of_pairwise (le := leC) (fun a b ha hb h1 h2 => ?_) ?_ hS (hPT.trans hp.symm)
    · exact hinj a (hPT.subset ha) b (hp.subset hb) (leC_id h1 h2)
    · rw [List.pairwise_append]
      exact ⟨hP, hT, fun a ha b hb => hr a ha b (hTp.subset hb)⟩
  rw [← e]
  simp
end Go.Proofs.Ytmkafoidfgaokaa
namespace Go.Proofs.Ytmkafoidfgaokaa
open Go.RowKit Apo
theorem mem_common {l : List Cm} (G : Gok l) (a b z : Int) : z ∈ commonG l a b ↔ Anc l z a ∧ Anc l z b := by
  unfold commonG
  rw [List.mem_filter, mem_reach G, decide_eq_true_iff, mem_reach G]
  simp
theorem common_rise {l : List Cm} (G : Gok l) (a b : Int) : (commonG l a b).Pairwise (· < ·) := (reach_rise G.rise [a]).sublist List.filter_sublist
theorem common_sym {l : List Cm} (G : Gok l) (a b : Int) : commonG l a b = commonG l b a :=
  rise_ext (common_rise G a b) (common_rise G b a) (fun z => by rw [mem_common G, mem_common G]; exact And.comm)
theorem bases_sym {l : List Cm} (G : Gok l) (a b : Int) : basesG l a b = basesG l b a := by
  unfold basesG
  rw [common_sym G a b]
theorem base_sym {l : List Cm} (G : Gok l) (a b : Int) : baseG l a b = baseG l b a := by
  unfold baseG
  rw [bases_sym G a b]
theorem baseS_is (l : List Cm) : ∀ (S : List Int) (s : Int × Int), s.2 ≤ (baseS l S s).2 ∧ (∀ k ∈ S, genOf l k ≤ (baseS l S s).2) ∧ (baseS l S s = s ∨ ((baseS l S s).1 ∈ S ∧ genOf l (baseS l S s).1 = (baseS l S s).2 ∧ s.2 < (baseS l S s).2))
  | [], s => by simp [baseS]
  | k :: r, s => by
    obtain ⟨h1, h2, h3⟩ := baseS_is l r (if s.2 < genOf l k then (k, genOf l k) else s)
    simp only [baseS]
    by_cases q : s.2 < genOf l k
    · rw [if_pos q] at h1 h2 h3 ⊢
      simp only at h1 h3
      refine ⟨by omega, fun k' hk => ?_, .inr ?_⟩
      · rcases List.mem_cons.1 hk with e | e
        · rw [e]; exact h1
        · exact h2 k' e
      · rcases h3 with e | ⟨e1, e2, e3⟩
        · rw [e]
          exact ⟨by simp, rfl, q⟩
        · exact ⟨List.mem_cons_of_mem _ e1, e2, by omega⟩
    · rw [if_neg q] at h1 h2 h3 ⊢
      refine ⟨h1, fun k' hk => ?_, ?_⟩
      · rcases List.mem_cons.1 hk with e | e
        · rw [e]; omega
        · exact h2 k' e
      · rcases h3 with e | ⟨e1, e2, e3⟩
        · exact .inl e
        · exact .inr ⟨List.mem_cons_of_mem _ e1, e2, e3⟩
theorem gen_pos {l : List Cm} (G : Gok l) {c : Cm} (hc : c ∈ l) : 1 ≤ c.gen := by
  obtain ⟨g, h1, h2⟩ := G.up c hc
  have := (genUp_is h1).1
  omega
theorem genOf_is {l : List Cm} {z : Int} {c : Cm} (h : getG l z = some c) : genOf l z = c.gen := by
  unfold genOf
  rw [h]
/-- of common ones the one with the greatest Gen is a base -/
theorem top_base {l : List Cm} (G : Gok l) {a b z : Int} (hz : z ∈ commonG l a b) (ht : ∀ y ∈ commonG l a b, genOf l y ≤ genOf l z) : z ∈ basesG l a b := by
  unfold basesG
  rw [List.mem_filter]
  refine ⟨hz, ?_⟩
  unfold bestB
  rw [List.all_eq_true]
  intro k hk
  rw [Bool.or_eq_true, Bool.not_eq_true']
  by_cases q : k = z
  · left; simpa using q
  · right
    cases hi : isG l z k with
    | false => rfl
    | true =>
      rcases ((is_anc G z k).1 hi).gens G with e | ⟨_, c, d, h1, h2, h3⟩
      · exact absurd e.symm q
      · have := ht k hk
        rw [genOf_is h1, genOf_is h2] at this
        omega
theorem top_is {f : Int → Int} : ∀ {L : List Int}, L ≠ [] → ∃ z ∈ L, ∀ y ∈ L, f y ≤ f z
  | [], h => absurd rfl h
  | [x], _ => ⟨x, by simp, by simp⟩
  | x :: y :: r, _ => by
    obtain ⟨z, h1, h2⟩ := top_is (f := f) (L := y :: r) (by simp)
    by_cases q : f x ≤ f z
    · refine ⟨z, List.mem_cons_of_mem _ h1, fun w hw => ?_⟩
      rcases List.mem_cons.1 hw with e | e
      · rw [e]; exact q
      · exact h2 w e
    · refine ⟨x, by simp, fun w hw => ?_⟩
      rcases List.mem_cons.1 hw with e | e
      · rw [e]; exact Int.le_refl _
      · have := h2 w e
        omega
/-- the base is a common ancestor; none has a greater Gen -/
theorem base_is {l : List Cm} (G : Gok l) (a b : Int) :
    ((baseG l a b).2 = true → Anc l (baseG l a b).1 a ∧ Anc l (baseG l a b).1 b) ∧ ∀ n, Anc l n a → Anc l n b → (baseG l a b).2 = true ∧ genOf l n ≤ genOf l (baseG l a b).1 := by
  obtain ⟨h1, h2, h3⟩ := baseS_is l (basesG l a b) (0, 0)
  have hsub : ∀ z ∈ basesG l a b, z ∈ commonG l a b := fun z hz => (List.mem_filter.1 hz).1
  constructor
  · intro h
    unfold baseG at h ⊢
    simp only [decide_eq_true_eq] at h
    rcases h3 with e | ⟨e1, _, _⟩
    · rw [e] at h
      exact absurd h (by decide)
    · exact (mem_common G a b _).1 (hsub _ e1)
  · intro n hna hnb
    have hn : n ∈ commonG l a b := (mem_common G a b n).2 ⟨hna, hnb⟩
    obtain ⟨z, hz, ht⟩ := top_is (f := genOf l) (L := commonG l a b) (fun e => by rw [e] at hn; cases hn)
    have hzb := top_base G hz ht
    have hzg : 1 ≤ genOf l z := by
      obtain ⟨c, hc⟩ := ((mem_common G a b z).1 hz).1.there.1
      rw [genOf_is hc]
      exact gen_pos G (getG_mem hc).1
    have h4 := h2 z hzb
    have h5 := ht n hn
    unfold baseG
    simp only [decide_eq_true_eq]
    refine ⟨by omega, ?_⟩
    rcases h3 with e | ⟨_, e2, _⟩
    · rw [e] at h4
      simp only at h4
      omega
    · omega
theorem cmOf_is {l : List Cm} {z : Int} {c : Cm} (h : getG l z = some c) : cmOf l z = c := by
  unfold cmOf
  rw [h]
  rfl
theorem sort_ids {l : List Cm} (G : Gok l) (ids : List Int) {x : Cm} (hx : x ∈ sortG l false (reachG l ids)) : x ∈ l ∧ x.id ∈ reachG l ids ∧ getG l x.id = some x := by
  have h1 := (sortG_sorted l (reachG l ids)).2.subset hx
  obtain ⟨z, hz, e⟩ := List.mem_map.1 h1
  obtain ⟨i, hi, ha⟩ := (mem_reach G ids z).1 hz
  obtain ⟨c, hc⟩ := ha.there.1
  rw [cmOf_is hc] at e
  subst e
  obtain ⟨h2, h3⟩ := getG_mem hc
  exact ⟨h2, by rw [h3]; exact hz, by rw [h3]; exact hc⟩
theorem cmOf_map {l : List Cm} (G : Gok l) (ids : List Int) : ((reachG l ids).map (cmOf l)).map Cm.id = reachG l ids := by
  rw [List.map_map]
  conv => rhs; rw [← List.map_id (reachG l ids)]
  apply List.map_congr_left
  intro z hz
  obtain ⟨i, hi, ha⟩ := (mem_reach G ids z).1 hz
  obtain ⟨c, hc⟩ := ha.there.1
  simp only [Function.comp, cmOf_is hc, id_eq]
  exact (getG_mem hc).2
/-- in the log no commit stands behind one that it is an ancestor of .. -/
theorem log_ahead {l : List Cm} (G : Gok l) (ids : List Int) {i j : Nat} {x y : Cm} (hij : j < i) (hx : (sortG l false (reachG l ids))[i]? = some x) (hy : (sortG l false (reachG l ids))[j]? = some y) : y.id ≠ x.id ∧ ¬ Anc l y.id x.id := by
  obtain ⟨hs, hp⟩ := sortG_sorted l (reachG l ids)
  obtain ⟨hil, hiv⟩ := List.getElem?_eq_some_iff.1 hx
  obtain ⟨hjl, hjv⟩ := List.getElem?_eq_some_iff.1 hy
  have hnd : ((sortG l false (reachG l ids)).map Cm.id).Nodup := by
    have h1 : ((sortG l false (reachG l ids)).map Cm.id).Perm (reachG l ids) := by
      have := hp.map Cm.id
      rw [cmOf_map G] at this
      exact this
    exact (h1.nodup_iff).2 ((reach_rise G.rise ids).imp (fun q => by omega))
  have hne : y.id ≠ x.id := by
    have := List.pairwise_iff_getElem.1 hnd j i (by simpa using hjl) (by simpa using hil) hij
    simpa [hjv, hiv] using this
  refine ⟨hne, fun ha => ?_⟩
  rcases ha.gens G with e | ⟨_, c, d, h1, h2, h3⟩
  · exact hne e
  · have hle := List.pairwise_iff_getElem.1 hs j i hjl hil hij
    rw [hjv, hiv] at hle
    have hx2 := (sort_ids G ids (List.mem_of_getElem? hx)).2.2
    have hy2 := (sort_ids G ids (List.mem_of_getElem? hy)).2.2
    rw [hy2] at h1
    rw [hx2] at h2
    injection h1 with h1
    injection h2 with h2
    subst h1 h2
    unfold leC aheadB at hle
    simp only [Bool.bne_false, Bool.or_eq_false_iff, decide_eq_false_iff_not] at hle
    omega
end Go.Proofs.Ytmkafoidfgaokaa
