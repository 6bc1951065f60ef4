/- Maps with edits done, as they are meant. Pure. -/
import Derived.Test.YtbegiiihkmloiaaDSp
import Derived.Test.YtbegiiihkmloiaaDEd
import Derived.Test.YtbegiiihkmloiaaDSc
namespace Go.Proofs.Ytbegiiihkmloiaa
open Go.RowKit Apo
/-- what the last word of a key says -/
def Says (ws : List Ed) (key v : ByteArray) (b : Bool) : Prop := (b = true ∧ ∃ x, (ofK ws key).getLast? = some x ∧ x.g = false ∧ x.v = v) ∨ (b = false ∧ v = ⟨#[]⟩ ∧ ∀ x, (ofK ws key).getLast? = some x → x.g = true)
theorem says_ex (ws : List Ed) (key : ByteArray) : ∃ v b, Says ws key v b := by
  cases h : (ofK ws key).getLast? with
  | none => exact ⟨_, false, .inr ⟨rfl, rfl, fun x hx => by rw [h] at hx; cases hx⟩⟩
  | some x =>
    cases hg : x.g with
    | true => exact ⟨_, false, .inr ⟨rfl, rfl, fun y hy => by rw [h] at hy; cases hy; exact hg⟩⟩
    | false => exact ⟨x.v, true, .inl ⟨rfl, x, h, hg, rfl⟩⟩
def wordOf (e : En) : Ed := ⟨e.k, e.v, false⟩
theorem ofK_ne {ws : List Ed} {x : Ed} {key : ByteArray} (h : x.k ≠ key) : ofK (ws ++ [x]) key = ofK ws key := by
  rw [ofK_app]
  simp [ofK, h]
theorem ofK_eq {ws : List Ed} {x : Ed} {key : ByteArray} (h : x.k = key) : ofK (ws ++ [x]) key = ofK ws key ++ [x] := by
  rw [ofK_app]
  simp [ofK, h]
theorem says_ne {ws : List Ed} {x : Ed} {key v : ByteArray} {b : Bool} (h : x.k ≠ key) : Says (ws ++ [x]) key v b ↔ Says ws key v b := by unfold Says; rw [ofK_ne h]
theorem says_eq {ws : List Ed} {x : Ed} {key v : ByteArray} {b : Bool} (h : x.k = key) : Says (ws ++ [x]) key v b ↔ (b = true ∧ x.g = false ∧ x.v = v) ∨ (b = false ∧ v = ⟨#[]⟩ ∧ x.g = true) := by
  unfold Says
  rw [ofK_eq h]
  simp
/-- a map with edits done -/
def ApR (a : List En) (l : List Ed) (es : List En) : Prop := RiseE es ∧ ∀ key v b, Says (a.map wordOf ++ l) key v b → Gets es key v b
theorem ent_mem {es : List En} {e : En} : e ∈ es ↔ Gets es e.k e.v true := by
  constructor
  · exact fun h => .inl ⟨rfl, e, h, rfl, rfl⟩
  · rintro (⟨_, f, hf, h1, h2⟩ | ⟨h, _⟩)
    · have : f = e := by cases f; cases e; simp only at h1 h2; rw [h1, h2]
      rwa [← this]
    · cases h
theorem riseE_uniq {es fs : List En} (h : RiseE es) (h' : RiseE fs) (hm : ∀ e, e ∈ es ↔ e ∈ fs) : es = fs := by
  induction es generalizing fs with
  | nil =>
    cases fs with
    | nil => rfl
    | cons c l => exact absurd ((hm c).2 (by simp)) (by simp)
  | cons c l ih =>
    cases fs with
    | nil => exact absurd ((hm c).1 (by simp)) (by simp)
    | cons c' l' =>
      unfold RiseE at h h'
      rw [List.pairwise_cons] at h h'
      have hcc : c = c' := by
        rcases List.mem_cons.1 ((hm c).1 (by simp)) with q | q
        · exact q
        · rcases List.mem_cons.1 ((hm c').2 (by simp)) with q' | q'
          · exact q'.symm
          · have := sLt_trans (h'.1 c q) (h.1 c' q')
            rw [sLt_irr] at this
            cases this
      subst hcc
      congr 1
      refine ih h.2 h'.2 (fun x => ?_)
      constructor
      · intro hx
        rcases List.mem_cons.1 ((hm x).1 (by simp [hx])) with q | q
        · have := h.1 x hx
          rw [q, sLt_irr] at this
          cases this
        · exact q
      · intro hx
        rcases List.mem_cons.1 ((hm x).2 (by simp [hx])) with q | q
        · have := h'.1 x hx
          rw [q, sLt_irr] at this
          cases this
        · exact q
theorem ApR.uniq {a : List En} {l : List Ed} {es fs : List En} (h : ApR a l es) (h' : ApR a l fs) : es = fs := by
  refine riseE_uniq h.1 h'.1 (fun e => ?_)
  obtain ⟨v, b, hs⟩ := says_ex (a.map wordOf ++ l) e.k
  have g1 := h.2 _ _ _ hs
  have g2 := h'.2 _ _ _ hs
  rw [ent_mem, ent_mem]
  constructor
  · intro q
    obtain ⟨e1, e2⟩ := gets_uniq h.1 q g1
    rw [e1, e2]; exact g2
  · intro q
    obtain ⟨e1, e2⟩ := gets_uniq h'.1 q g2
    rw [e1, e2]; exact g1
theorem says_words {a : List En} {key v : ByteArray} {b : Bool} (h : Says (a.map wordOf) key v b) : Gets a key v b := by
  rcases h with ⟨rfl, x, hx, hg, hv⟩ | ⟨rfl, rfl, hx⟩
  · have hm := List.mem_of_getLast? hx
    unfold ofK at hm
    rw [List.mem_filter, decide_eq_true_eq] at hm
    obtain ⟨e, he, rfl⟩ := List.mem_map.1 hm.1
    exact .inl ⟨rfl, e, he, hm.2, hv⟩
  · refine .inr ⟨rfl, rfl, fun e he hk => ?_⟩
    have hm : wordOf e ∈ ofK (a.map wordOf) key := by
      unfold ofK
      rw [List.mem_filter, decide_eq_true_eq]
      exact ⟨List.mem_map.2 ⟨e, he, rfl⟩, hk⟩
    cases hq : (ofK (a.map wordOf) key).getLast? with
    | none => rw [List.getLast?_eq_none_iff] at hq; rw [hq] at hm; simp at hm
    | some y =>
      have hy := hx y hq
      have hm2 := List.mem_of_getLast? hq
      unfold ofK at hm2
      rw [List.mem_filter] at hm2
      obtain ⟨f, _, rfl⟩ := List.mem_map.1 hm2.1
      cases hy
theorem ApR.nil {a : List En} (hr : RiseE a) : ApR a [] a := ⟨hr, fun key v b h => says_words (by simpa using h)⟩
/-- a map with one edit done -/
def SetC (es : List En) (x : Ed) (fs : List En) : Prop := RiseE fs ∧ (∀ key v b, key ≠ x.k → Gets es key v b → Gets fs key v b) ∧ (x.g = false → Gets fs x.k x.v true) ∧ (x.g = true → Gets fs x.k ⟨#[]⟩ false)
theorem ApR.snoc {a : List En} {l : List Ed} {es fs : List En} {x : Ed} (h : ApR a l es) (hs : SetC es x fs) : ApR a (l ++ [x]) fs := by
  refine ⟨hs.1, fun key v b q => ?_⟩
  rw [← List.append_assoc] at q
  by_cases z : x.k = key
  · rw [says_eq z] at q
    rcases q with ⟨rfl, h1, rfl⟩ | ⟨rfl, rfl, h1⟩
    · rw [← z]; exact hs.2.2.1 h1
    · rw [← z]; exact hs.2.2.2 h1
  · rw [says_ne z] at q
    exact hs.2.1 key v b (Ne.symm z) (h.2 key v b q)
/-- which words are kept of sorted ones -/
def Kept (d : List Ed) (t : Nat) (x : Ed) : Prop := d[t]? = some x ∧ x.g = false ∧ ∀ y, d[t + 1]? = some y → y.k ≠ x.k
open Classical in
noncomputable def keepO (d : List Ed) (t : Nat) : List En := if h : ∃ x, Kept d t x then [⟨h.choose.k, h.choose.v⟩] else []
theorem keep_yes {d : List Ed} {t : Nat} {x : Ed} (h : Kept d t x) : keepO d t = [⟨x.k, x.v⟩] := by
  have hex : ∃ x, Kept d t x := ⟨x, h⟩
  unfold keepO
  rw [dif_pos hex]
  have h1 := hex.choose_spec.1
  rw [h.1] at h1
  cases h1
  rfl
theorem keep_no {d : List Ed} {t : Nat} (h : ∀ x, ¬ Kept d t x) : keepO d t = [] := by
  unfold keepO
  rw [dif_neg (fun ⟨x, hx⟩ => h x hx)]
noncomputable def keptTo (d : List Ed) : Nat → List En
  | 0 => []
  | n + 1 => keptTo d n ++ keepO d n
theorem keep_len (d : List Ed) (t : Nat) : (keepO d t).length ≤ 1 := by
  unfold keepO
  split <;> simp
theorem keptTo_len (d : List Ed) : ∀ n, (keptTo d n).length ≤ n
  | 0 => Nat.le_refl _
  | n + 1 => by have h1 := keptTo_len d n; have h2 := keep_len d n; simp only [keptTo, List.length_append]; omega
theorem keptTo_mem {d : List Ed} {e : En} : ∀ {n : Nat}, e ∈ keptTo d n ↔ ∃ t x, t < n ∧ Kept d t x ∧ e = ⟨x.k, x.v⟩
  | 0 => by simp [keptTo]
  | n + 1 => by
    simp only [keptTo, List.mem_append]
    rw [keptTo_mem (n := n)]
    constructor
    · rintro (⟨t, x, h1, h2⟩ | h)
      · exact ⟨t, x, by omega, h2⟩
      · by_cases q : ∃ x, Kept d n x
        · obtain ⟨x, hx⟩ := q
          rw [keep_yes hx, List.mem_singleton] at h
          exact ⟨n, x, by omega, hx, h⟩
        · rw [keep_no (fun x hx => q ⟨x, hx⟩)] at h
          simp at h
    · rintro ⟨t, x, h1, h2, rfl⟩
      by_cases z : t < n
      · exact .inl ⟨t, x, z, h2, rfl⟩
      · obtain rfl : t = n := by omega
        right
        rw [keep_yes h2]
        simp
theorem leK_anti {a b : ByteArray} (h : leK a b) (k : leK b a) : a = b := sLt_conn k h
theorem kept_lt {d : List Ed} {n t u : Nat} {x y : Ed} (hs : SrtIn d 0 n) (hn : d.length ≤ n) (h : Kept d t x) (hy : d[u]? = some y) (htu : t < u) : sLt x.k y.k = true := by
  have hu := (List.getElem?_eq_some_iff.1 hy).1
  have h1 := hs t u (Nat.zero_le _) htu (by omega)
  rw [kAt_some h.1, kAt_some hy] at h1
  cases q : sLt x.k y.k with
  | true => rfl
  | false =>
    exfalso
    have hxy : x.k = y.k := leK_anti h1 q
    obtain ⟨z, hz⟩ : ∃ z, d[t + 1]? = some z := ⟨d[t + 1]'(by omega), List.getElem?_eq_getElem _⟩
    have h2 := hs.le (i := t) (j := t + 1) (Nat.zero_le _) (by omega) (by omega)
    have h3 := hs.le (i := t + 1) (j := u) (Nat.zero_le _) (by omega) (by omega)
    rw [kAt_some h.1, kAt_some hz] at h2
    rw [kAt_some hz, kAt_some hy, ← hxy] at h3
    exact h.2.2 z hz (leK_anti h3 h2)
theorem keptTo_rise {d : List Ed} {n : Nat} (hs : SrtIn d 0 n) (hn : d.length ≤ n) : ∀ m, RiseE (keptTo d m)
  | 0 => List.Pairwise.nil
  | m + 1 => by
    have ih := keptTo_rise hs hn m
    unfold RiseE at ih ⊢
    simp only [keptTo]
    rw [List.pairwise_append]
    refine ⟨ih, ?_, fun e he f hf => ?_⟩
    · by_cases q : ∃ x, Kept d m x
      · obtain ⟨x, hx⟩ := q; rw [keep_yes hx]; simp
      · rw [keep_no (fun x hx => q ⟨x, hx⟩)]; exact List.Pairwise.nil
    · by_cases q : ∃ x, Kept d m x
      · obtain ⟨x, hx⟩ := q
        rw [keep_yes hx, List.mem_singleton] at hf
        obtain ⟨t, y, ht, hy, rfl⟩ := keptTo_mem.1 he
        rw [hf]
        exact kept_lt hs hn hy hx.1 ht
      · rw [keep_no (fun x hx => q ⟨x, hx⟩)] at hf
        simp at hf
/-- the last of a key, by its place -/
theorem last_at {d : List Ed} {t : Nat} {x : Ed} {key : ByteArray} (h : d[t]? = some x) (hk : x.k = key) (hl : ∀ u y, t < u → d[u]? = some y → y.k ≠ key) : (ofK d key).getLast? = some x := by
  have ht := (List.getElem?_eq_some_iff.1 h).1
  have hd : d = d.take t ++ ([x] ++ d.drop (t + 1)) := by
    conv => lhs; rw [← List.take_append_drop t d]
    rw [List.drop_eq_getElem_cons ht, (List.getElem?_eq_some_iff.1 h).2]
    simp
  have h0 : ofK (d.drop (t + 1)) key = [] := by
    unfold ofK
    rw [List.filter_eq_nil_iff]
    intro y hy z
    rw [decide_eq_true_eq] at z
    obtain ⟨i, hi, rfl⟩ := List.mem_iff_getElem.1 hy
    simp only [List.length_drop] at hi
    exact hl (t + 1 + i) _ (by omega) (by rw [List.getElem?_eq_getElem (by omega), List.getElem_drop]) z
  have h1 : ofK [x] key = [x] := by simp [ofK, hk]
  rw [hd, ofK_app, ofK_app, h0, h1]
  simp
/-- of all places with a property there is a last one -/
theorem last_place {p : Nat → Prop} : ∀ n, (∃ t, t < n ∧ p t) → ∃ t, t < n ∧ p t ∧ ∀ u, t < u → u < n → ¬ p u
  | 0, ⟨t, h, _⟩ => by omega
  | n + 1, ⟨t, h, hp⟩ => by
    by_cases q : p n
    · exact ⟨n, by omega, q, fun u h1 h2 => by omega⟩
    · have htn : t ≠ n := fun z => q (by rw [← z]; exact hp)
      obtain ⟨s, h1, h2, h3⟩ := last_place n ⟨t, by omega, hp⟩
      refine ⟨s, by omega, h2, fun u z1 z2 => ?_⟩
      by_cases y : u = n
      · rw [y]; exact q
      · exact h3 u z1 (by omega)
theorem kept_apr {a : List En} {l d : List Ed} (hst : Stb (a.map wordOf ++ l) d) (hs : SrtIn d 0 d.length) : ApR a l (keptTo d d.length) := by
  refine ⟨keptTo_rise hs (Nat.le_refl _) _, fun key v b h => ?_⟩
  unfold Says at h
  rw [← hst.2 key] at h
  by_cases q : ∃ t, t < d.length ∧ ∃ x, d[t]? = some x ∧ x.k = key
  · obtain ⟨t, ht, ⟨x, hx, hk⟩, hl⟩ := last_place (p := fun t => ∃ x, d[t]? = some x ∧ x.k = key) d.length q
    have hlast := last_at hx hk (fun u y h1 h2 h3 => hl u h1 (List.getElem?_eq_some_iff.1 h2).1 ⟨y, h2, h3⟩)
    rw [hlast] at h
    have hnext : ∀ y, d[t + 1]? = some y → y.k ≠ x.k := fun y hy z => hl (t + 1) (by omega) (List.getElem?_eq_some_iff.1 hy).1 ⟨y, hy, z.trans hk⟩
    rcases h with ⟨rfl, y, hy, hg, hv⟩ | ⟨rfl, rfl, hy⟩
    · cases hy
      exact .inl ⟨rfl, ⟨x.k, x.v⟩, keptTo_mem.2 ⟨t, x, ht, ⟨hx, hg, hnext⟩, rfl⟩, hk, hv⟩
    · have hg := hy x rfl
      refine .inr ⟨rfl, rfl, fun e he hek => ?_⟩
      obtain ⟨u, z, hu, hz, rfl⟩ := keptTo_mem.1 he
      simp only at hek
      have hut : u ≤ t := by
        rcases Nat.lt_or_ge t u with y | y
        · exact absurd ⟨z, hz.1, hek⟩ (hl u y hu)
        · exact y
      rcases Nat.lt_or_ge u t with y | y
      · have := kept_lt hs (Nat.le_refl _) hz hx y
        rw [hek, hk, sLt_irr] at this
        cases this
      · obtain rfl : u = t := by omega
        have hz1 := hz.1
        rw [hx] at hz1
        cases hz1
        rw [hz.2.1] at hg
        cases hg
  · have hno : ofK d key = [] := by
      unfold ofK
      rw [List.filter_eq_nil_iff]
      intro y hy z
      rw [decide_eq_true_eq] at z
      obtain ⟨i, hi, rfl⟩ := List.mem_iff_getElem.1 hy
      exact q ⟨i, hi, _, List.getElem?_eq_getElem hi, z⟩
    rw [hno] at h
    rcases h with ⟨_, y, hy, _⟩ | ⟨rfl, rfl, _⟩
    · simp at hy
    · refine .inr ⟨rfl, rfl, fun e he hek => ?_⟩
      obtain ⟨u, z, hu, hz, rfl⟩ := keptTo_mem.1 he
      exact q ⟨u, hu, z, hz.1, hek⟩
/-- changes done are the other map -/
theorem diff_apply {a b : List En} {cs : List Ch} (hd : DiffC a b cs) (hb : RiseE b) : ApR a (cs.map edOf) b := by
  refine ⟨hb, fun key v q h => ?_⟩
  by_cases z : ∃ c ∈ cs, c.k = key
  · obtain ⟨c, hc, hk⟩ := z
    have hlast : (ofK (a.map wordOf ++ cs.map edOf) key).getLast? = some (edOf c) := by
      obtain ⟨i, hi, rfl⟩ := List.mem_iff_getElem.1 hc
      have hkk : ∀ c : Ch, (edOf c).k = c.k := fun c => by unfold edOf; split <;> rfl
      refine last_at (t := (a.map wordOf).length + i) ?_ ((hkk _).trans hk) (fun u y h1 h2 h3 => ?_)
      · rw [List.getElem?_append_right (by omega), show (a.map wordOf).length + i - (a.map wordOf).length = i by omega, List.getElem?_map, List.getElem?_eq_getElem hi]
        rfl
      · rw [List.getElem?_append_right (by omega), List.getElem?_map] at h2
        have hlt : u - (a.map wordOf).length < cs.length := by
          rcases Nat.lt_or_ge (u - (a.map wordOf).length) cs.length with y | y
          · exact y
          · rw [List.getElem?_eq_none y] at h2; cases h2
        rw [List.getElem?_eq_getElem hlt] at h2
        have hy : y = edOf cs[u - (a.map wordOf).length] := by cases h2; rfl
        have hr := hd.1
        unfold Rise at hr
        rw [List.pairwise_map] at hr
        have := List.pairwise_iff_getElem.1 hr i (u - (a.map wordOf).length) hi hlt (by omega)
        rw [hk, ← hkk cs[u - (a.map wordOf).length], ← hy, h3, sLt_irr] at this
        cases this
    obtain ⟨g1, g2, g3⟩ := (hd.2 c).1 hc
    rw [hk] at g2
    unfold Says at h
    rw [hlast] at h
    rcases h with ⟨rfl, y, hy, hg, hv⟩ | ⟨rfl, rfl, hy⟩
    · cases hy
      unfold edOf at hg hv
      cases hh : c.has with
      | true => rw [hh] at hv g2; simp only [if_true] at hv; rw [← hv]; exact g2
      | false => rw [hh] at hg; simp at hg
    · have hg := hy _ rfl
      unfold edOf at hg
      cases hh : c.has with
      | true => rw [hh] at hg; simp at hg
      | false =>
        rw [hh] at g2
        rcases g2 with ⟨q1, _⟩ | ⟨_, q2, q3⟩
        · cases q1
        · exact .inr ⟨rfl, rfl, q3⟩
  · have hno : ofK (cs.map edOf) key = [] := by
      unfold ofK
      rw [List.filter_eq_nil_iff]
      intro y hy q
      rw [decide_eq_true_eq] at q
      obtain ⟨c, hc, rfl⟩ := List.mem_map.1 hy
      exact z ⟨c, hc, by rw [← q]; unfold edOf; split <;> rfl⟩
    have h2 : Says (a.map wordOf) key v q := by
      unfold Says at h ⊢
      rw [ofK_app, hno, List.append_nil] at h
      exact h
    have ga := says_words h2
    have gb : ∃ v' q', Gets b key v' q' := by
      by_cases y : ∃ e ∈ b, e.k = key
      · obtain ⟨e, he, hek⟩ := y; exact ⟨e.v, true, .inl ⟨rfl, e, he, hek, rfl⟩⟩
      · exact ⟨_, false, .inr ⟨rfl, rfl, fun e he hek => y ⟨e, he, hek⟩⟩⟩
    obtain ⟨v', q', gb⟩ := gb
    by_cases same : (q, v) = (q', v')
    · injection same with s1 s2
      rw [s1, s2]; exact gb
    · exact absurd ⟨⟨key, q, v, q', v'⟩, (hd.2 _).2 ⟨ga, gb, same⟩, rfl⟩ z
theorem diff_turn {a b : List En} {cs : List Ch} (hd : DiffC a b cs) : DiffC b a (cs.map tuOf) := by
  refine ⟨?_, fun c => ?_⟩
  · rw [List.map_map]
    exact hd.1
  · rw [List.mem_map]
    constructor
    · rintro ⟨c', hc', rfl⟩
      obtain ⟨g1, g2, g3⟩ := (hd.2 c').1 hc'
      exact ⟨g2, g1, fun q => g3 q.symm⟩
    · rintro ⟨g1, g2, g3⟩
      exact ⟨tuOf c, (hd.2 _).2 ⟨g2, g1, fun q => g3 q.symm⟩, rfl⟩
end Go.Proofs.Ytbegiiihkmloiaa
