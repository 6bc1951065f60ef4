/- NodeParts' walk, over the translation. -/
import Derived.Test.YtandjkogpdamcaaNwS
namespace Apo
open Go Go.RowKit
theorem cut_left {α : Type} (p : α → Bool) (l m : List α) : ∀ k, k ≤ l.length → cutK p (l ++ m) k = cutK p l k
  | 0, _ => rfl
  | k + 1, h => by
    have hx : l[k]? = some (l[k]'(by omega)) := List.getElem?_eq_getElem _
    have hy : (l ++ m)[k]? = some (l[k]'(by omega)) := by rw [List.getElem?_append_left (by omega)]; exact hx
    rw [cutK_step hx, cutK_step hy, cut_left p l m k (by omega)]
theorem cut_right {α : Type} (p : α → Bool) (l m : List α) (h : (cutK p l l.length).2 = []) : ∀ j, j ≤ m.length → cutK p (l ++ m) (l.length + j) = ((cutK p l l.length).1 ++ (cutK p m j).1, (cutK p m j).2)
  | 0, _ => by
    rw [Nat.add_zero, cut_left p l m l.length (Nat.le_refl _)]
    simp only [cutK, List.append_nil]
    rw [← h]
  | j + 1, hj => by
    have hx : m[j]? = some (m[j]'(by omega)) := List.getElem?_eq_getElem _
    have hy : (l ++ m)[l.length + j]? = some (m[j]'(by omega)) := by rw [List.getElem?_append_right (by omega), Nat.add_sub_cancel_left]; exact hx
    rw [← Nat.add_assoc, cutK_step hx, cutK_step hy, cut_right p l m h j (by omega)]
    by_cases q : p (m[j]'(by omega)) = true
    · rw [if_pos q, if_pos q]; simp
    · rw [if_neg q, if_neg q]
theorem split_app {α : Type} (p : α → Bool) (l m : List α) {x : α} (hl : l[l.length - 1]? = some x) (hp : p x = true) : splitN p (l ++ m) = splitN p l ++ splitN p m := by
  have h0 : 0 < l.length := by
    have := (List.getElem?_eq_some_iff.1 hl).1
    omega
  have he : (cutK p l l.length).2 = [] := by
    have e : l.length = l.length - 1 + 1 := by omega
    rw [e, cutK_step hl, if_pos hp]
  have e1 := cut_split p (l ++ m)
  have e2 := cut_split p l
  have e3 := cut_split p m
  rw [List.length_append, cut_right p l m he m.length (Nat.le_refl _)] at e1
  rw [he] at e2
  simp only [List.length_nil, if_pos, List.append_nil] at e2
  rw [e1, e2, e3]
  simp only [List.append_assoc]
theorem cut_flat {α : Type} (p : α → Bool) (l : List α) : ∀ k, k ≤ l.length → (cutK p l k).1.flatten ++ (cutK p l k).2 = l.take k
  | 0, _ => by simp [cutK]
  | k + 1, h => by
    have hx : l[k]? = some (l[k]'(by omega)) := List.getElem?_eq_getElem _
    have ih := cut_flat p l k (by omega)
    rw [cutK_step hx, List.take_add_one, hx, ← ih]
    by_cases q : p (l[k]'(by omega)) = true
    · rw [if_pos q]; simp
    · rw [if_neg q]; simp
theorem split_flat {α : Type} (p : α → Bool) (l : List α) : (splitN p l).flatten = l := by
  have h := cut_flat p l l.length (Nat.le_refl _)
  rw [List.take_length] at h
  rw [cut_split]
  by_cases q : (cutK p l l.length).2.length = 0
  · rw [if_pos q]
    have : (cutK p l l.length).2 = [] := List.eq_nil_of_length_eq_zero q
    rw [this] at h
    simpa using h
  · rw [if_neg q]
    simpa using h
theorem flat_ge1 {α : Type} {r : List α} : ∀ {R : List (List α)}, r ∈ R → r.length ≤ R.flatten.length
  | [], h => by simp at h
  | x :: R, h => by
    rw [List.flatten_cons, List.length_append]
    rcases List.mem_cons.1 h with q | q
    · subst q; omega
    · have := flat_ge1 q; omega
theorem flat_take {α : Type} {R : List (List α)} {k : Nat} {r : List α} (h : R[k]? = some r) : (R.take (k + 1)).flatten = (R.take k).flatten ++ r := by
  rw [List.take_add_one, h]; simp
theorem flat_take_le {α : Type} (R : List (List α)) (k : Nat) : (R.take k).flatten.length ≤ R.flatten.length := by
  conv => rhs; rw [← List.take_append_drop k R]
  rw [List.flatten_append, List.length_append]
  omega
end Apo
namespace Go.Proofs.Ytandjkogpdamcaa
open Go.RowKit Apo
attribute [local go_sem ↓] Apo.app_exec
theorem RdEn.ob2 {w w' : World} {G o : Nat} {t : TypeId} {cs : List Value} {l : List En} (h : RdEn w (some ⟨G, o, none⟩) l) (k : Ob w G t cs) (k' : Ob w' G t cs) : RdEn w' (some ⟨G, o, none⟩) l := by
  intro i e hi
  obtain ⟨g, o', h1, h2, h3⟩ := h i e hi
  injection h1 with h1
  injection h1 with e1 e2
  subst e1 e2
  exact ⟨G, o, rfl, (k'.cell _).trans ((k.cell _).symm.trans h2), (k'.cell _).trans ((k.cell _).symm.trans h3)⟩
set_option maxRecDepth 100000 in
theorem app_rd_En {O : Nat → Prop} {W : World} {v : Value} {cur l : List En} (h : Row O W 55 2 v cur.length (ecells cur)) {a : Option Addr} {c : Nat} (hr : RdEn W a l) (hn : a = none → c = 0) (hl : cur.length + l.length ≤ 1000000) :
    ∃ v' w', (Builtin.append_ #[22, 22] 22 #[v, .slice a l.length c]).run Try.prog W = .ok v' w' ∧ Row (Gro O W w') w' 55 2 v' (cur ++ l).length (ecells (cur ++ l)) ∧ Onl O W w' := by
  obtain ⟨i0, hi, hz0, hz1, hz2⟩ := info_parts info_En
  cases a with
  | none =>
    have h0 : l = [] := by
      cases l with
      | nil => rfl
      | cons x t => obtain ⟨_, _, h', _⟩ := hr 0 x rfl; cases h'
    subst h0
    have hc := hn rfl
    subst hc
    exact ⟨v, W, run_append_owned_none (P := Try.prog) W 0 22 22 55 i0 2 Try.underlying22 hi v _ _ h.1, by simpa using h.mono (fun i q => .inl q), Onl.refl _ _⟩
  | some x =>
    obtain ⟨v', w', RR, r1, r2, _, ho⟩ := run_append_own_at (P := Try.prog) W 0 22 22 55 i0 _ 2 32 Try.underlying22 hi hz0 hz1 hz2 rfl (by decide) v cur.length (ecells cur) h.1 x l.length c (ecells l) (ecells_len l) (RdEn.news hr) (by intro u hu; simp only [ecells, List.mem_flatMap] at hu; obtain ⟨e, _, h⟩ := hu; simp at h; rcases h with rfl | rfl <;> rfl) (by unfold maxLen; omega) (by omega) (Nat.zero_le _)
    refine ⟨v', w', RR, ⟨?_, fun g hg => ?_⟩, (Onl.refl O W).grown r2 (fun k hk => .inl (h.2 k hk))⟩
    · rw [List.length_append, show ecells (cur ++ l) = ecells cur ++ ecells l by simp [ecells]]
      exact r1
    · rcases ho with q | q
      · rw [q] at hg
        exact .inl (h.2 g hg)
      · have := (r1.lt g hg).2
        rw [q] at hg
        cases hg
        exact .inr ⟨Nat.le_refl _, this⟩
theorem RowsE.below {lo : Nat} {w w' : World} {v : Value} {rows : List (List En)} {vs : List Value} (h : RowsE lo w v rows vs) (b : Below w.heap.size w w') : RowsE lo w' v rows vs :=
  ⟨h.row.onl (F := fun _ => False) (Onl.ofBelow b) (fun _ _ q => q), h.len, fun i u r hu hr => by obtain ⟨G, o, h1, h2, h3, h4, h5, cs, h6⟩ := h.fin i u r hu hr; exact ⟨G, o, h1, h2.below b, h3, h4, h5, cs, h6.old b⟩⟩
set_option maxRecDepth 100000 in
/-- append(rows, more...) -/
theorem rowsE_app {lo : Nat} {w : World} {v1 v2 : Value} {R1 R2 : List (List En)} {vs1 vs2 : List Value} (h1 : RowsE lo w v1 R1 vs1) (h2 : RowsE lo w v2 R2 vs2) (hl : vs1.length + vs2.length ≤ 1000000) (hlo : lo ≤ w.heap.size) :
    ∃ v' w', (Builtin.append_ #[44, 44] 44 #[v1, v2]).run Try.prog w = .ok v' w' ∧ RowsE lo w' v' (R1 ++ R2) (vs1 ++ vs2) ∧ Below lo w w' := by
  obtain ⟨i0, hi, hz0, hz1, hz2⟩ := info_parts info_Ens
  obtain ⟨a2, c2, hv2, _, _, hn2, hx2⟩ := h2.row.form
  subst hv2
  have lens : ∀ {A B : List Value} {R S : List (List En)}, A.length = R.length → B.length = S.length → (A ++ B).length = (R ++ S).length := fun p q => by simp [p, q]
  cases a2 with
  | none =>
    have hc := hn2 rfl
    subst hc
    have h0 : vs2 = [] := by
      rcases h2.row.1.2 with ⟨hz, hzz⟩ | ⟨g, _, _, hv, _⟩
      · exact List.eq_nil_of_length_eq_zero hzz
      · injection hv with e1; cases e1
    subst h0
    have h00 : R2 = [] := List.eq_nil_of_length_eq_zero (by have := h2.len; simpa using this.symm)
    subst h00
    refine ⟨v1, w, run_append_owned_none (P := Try.prog) w 0 44 44 22 i0 1 Try.underlying44 hi v1 _ _ h1.row.1, by simpa using h1, Below.refl _ _⟩
  | some x =>
    obtain ⟨g2, hx, hg2⟩ := hx2 x rfl
    subst hx
    have hnews : ∀ j u, vs2[j]? = some u → w.cell? ((⟨g2, 0, none⟩ : Addr).add j) = some u := by
      intro j u hu
      have hj := (List.getElem?_eq_some_iff.1 hu).1
      have : (⟨g2, 0, none⟩ : Addr).add j = ⟨g2, j, none⟩ := by unfold Addr.add; split <;> simp_all
      rw [this, h2.row.1.cellAt j (by omega), hu]
    have hone : ∀ u ∈ vs2, u.oneCell' = true := by
      intro u hu
      obtain ⟨i, hi2, he⟩ := List.mem_iff_getElem.1 hu
      have hu2 : vs2[i]? = some u := by rw [List.getElem?_eq_getElem hi2, he]
      have hr : R2[i]? = some (R2[i]'(by have := h2.len; omega)) := List.getElem?_eq_getElem _
      obtain ⟨G, o, q1, _⟩ := h2.fin i u _ hu2 hr
      rw [q1]
      rfl
    obtain ⟨v', w', RR, r1, r2, _, ho⟩ := run_append_own_at (P := Try.prog) w 0 44 44 22 i0 _ 1 24 Try.underlying44 hi hz0 hz1 hz2 rfl (by decide) v1 vs1.length vs1 h1.row.1 ⟨g2, 0, none⟩ vs2.length c2 vs2 (by omega) hnews hone (by unfold maxLen; omega) (by omega) (Nat.zero_le _)
    have keep : ∀ {G o : Nat} {r : List En} {cs : List Value}, RdEn w (some ⟨G, o, none⟩) r → Ob w G 55 cs → RdEn w' (some ⟨G, o, none⟩) r ∧ Ob w' G 55 cs := by
      intro G o r cs q k
      have k' := k.kept r2 (Row.apartOb h1.row k (by decide))
      exact ⟨RdEn.ob2 q k k', k'⟩
    refine ⟨v', w', RR, ⟨⟨by rw [List.length_append]; exact r1, fun g hg => ?_⟩, lens h1.len h2.len, fun i u r hu hr => ?_⟩, (Below.refl lo w).grown r2 hlo (fun k hk => h1.row.2 k hk)⟩
    · rcases ho with q | q
      · rw [q] at hg
        exact h1.row.2 g hg
      · rw [q] at hg
        cases hg
        exact hlo
    · have hl1 := h1.len
      by_cases z : i < vs1.length
      · rw [List.getElem?_append_left z] at hu
        rw [List.getElem?_append_left (by omega)] at hr
        obtain ⟨G, o, q1, q2, q3, q4, q5, cs, q6⟩ := h1.fin i u r hu hr
        obtain ⟨k1, k2⟩ := keep q2 q6
        exact ⟨G, o, q1, k1, q3, q4, q5, cs, k2⟩
      · rw [List.getElem?_append_right (by omega)] at hu hr
        rw [show i - R1.length = i - vs1.length by omega] at hr
        obtain ⟨G, o, q1, q2, q3, q4, q5, cs, q6⟩ := h2.fin _ u r hu hr
        obtain ⟨k1, k2⟩ := keep q2 q6
        exact ⟨G, o, q1, k1, q3, q4, q5, cs, k2⟩
set_option maxRecDepth 100000 in
set_option maxHeartbeats 4000000 in
theorem parts9 (w : World) (x : EsA) (hx : OkEs w x) (z : EsA) (hz : OkEs w z) :
    Calls Try.prog 6 #[.slice x.a x.l.length x.c, .slice z.a z.l.length z.c] w fun e w' => e = .returned (.bool true) ∧ Below w.heap.size w w' := by
  obtain ⟨xa, xc, l⟩ := x
  obtain ⟨za, zc, m⟩ := z
  simp only at *
  have HCA := hide (awake9 w)
  have HX := hide hx
  have HZ := hide hz
  have HEL : Hid (l.length ≤ 9223372036854775807 ∧ m.length ≤ 9223372036854775807) := hide (by have h1 := hx.len; have h2 := hx.big; have h3 := hz.len; have h4 := hz.big; simp only at h1 h2 h3 h4; unfold maxLen at h2 h4; omega)
  obtain ⟨nl, hnl⟩ : ∃ nl, nl = l.length := ⟨_, rfl⟩
  obtain ⟨nm, hnm⟩ : ∃ nm, nm = m.length := ⟨_, rfl⟩
  rw [← hnl, ← hnm]
  have HNL := hide hnl
  have HNM := hide hnm
  have hnlb : nl ≤ 9223372036854775807 := by rw [hnl]; exact HEL.out.1
  clear hx hz hnl hnm
  go_enter Try.func6, Try.ntmps6
  go_wp2_with fail
  refine HCA.out.mono ?_
  rintro e w1 ⟨rfl, b1⟩
  have HB1 := hide b1
  have x1 := HX.out.below b1
  have HC1 : Hid (Calls Try.prog 17 #[.slice xa nl xc] w1 fun e w' => e = .returned (.bool (lightB l)) ∧ Below w1.heap.size w1 w') := hide (by rw [HNL.out]; exact light_any w1 xa xc l x1.rd HEL.out.1 x1.sz)
  clear HCA b1 x1
  go_wp2_with fail
  refine HC1.out.mono ?_
  rintro e w2 ⟨rfl, b2⟩
  have HB2 := hide (HB1.out.trans (b2.mono HB1.out.size))
  clear b2 HC1
  cases hli : lightB l
  · clear hli
    go_wp2
    go_ret
    exact ⟨rfl, HB2.out⟩
  · have hlo := light_ok hli
    have z2 := HZ.out.below HB2.out
    have HC2 : Hid (Calls Try.prog 17 #[.slice za nm zc] w2 fun e w' => e = .returned (.bool (lightB m)) ∧ Below w2.heap.size w2 w') := hide (by rw [HNM.out]; exact light_any w2 za zc m z2.rd HEL.out.2 z2.sz)
    have HLO := hide hlo
    clear hli hlo z2
    go_wp2_with fail
    refine HC2.out.mono ?_
    rintro e w3 ⟨rfl, b3⟩
    have HB3 := hide (HB2.out.trans (b3.mono HB2.out.size))
    clear b3 HC2
    cases hsm : lightB m
    · clear hsm
      go_wp2
      go_ret
      exact ⟨rfl, HB3.out⟩
    · have hso := light_ok hsm
      have HSO := hide hso
      clear hsm hso
      by_cases h0 : nl = 0
      · subst h0
        go_wp2
        go_ret
        exact ⟨rfl, HB3.out⟩
      · have d1 : ((nl : Int) == 0) = false := by rw [beq_eq_false_iff_ne]; omega
        have d2 : (nl == 0) = false := by rw [beq_eq_false_iff_ne]; omega
        obtain ⟨x9, hx9⟩ : ∃ e, l[nl - 1]? = some e := ⟨l[nl - 1]'(by have := HNL.out; omega), List.getElem?_eq_getElem _⟩
        obtain ⟨g, o, rfl, q1, q2⟩ := HX.out.rd _ _ hx9
        have q1' := (HB3.out.cell (p := ⟨g, o + (nl - 1) * 2, none⟩) (World.block_lt_of_cell? _ _ q1)).trans q1
        have hks := HLO.out.2 x9 (List.mem_of_getElem? hx9)
        obtain ⟨ek, ev⟩ := x9
        simp only at q1' hks
        have HC3 := hide (rendsN_any 0 ek w3 (by omega))
        obtain ⟨i1, hi1⟩ : ∃ i1, i1 = nl - 1 := ⟨_, rfl⟩
        have hwi : IntKind.i64.wrap ((nl : Int) - 1) = (i1 : Int) := by rw [IntKind.wrap_i64]; omega
        have hsub : (nl : Int) - 1 = (i1 : Int) := by omega
        have hin : i1 < nl := by omega
        rw [← hi1] at q1'
        have HX9 := hide hx9
        clear q1 q2 hx9 hi1 h0
        go_wp2_with fail
        refine HC3.out.mono ?_
        rintro e w4 ⟨rfl, b4⟩
        have HB4 := hide (HB3.out.trans (b4.mono HB3.out.size))
        clear b4 HC3
        cases hen : endsN 0 ek
        · clear hen
          go_wp2
          go_ret
          exact ⟨rfl, HB4.out⟩
        · have s4 := HB4.out.size
          have x4 := HX.out.below HB4.out
          have z4 := HZ.out.below HB4.out
          obtain ⟨P, hP⟩ : ∃ P, P = (fun e : En => endsN 0 e.k) := ⟨_, rfl⟩
          have hsplit : splitN P (l ++ m) = splitN P l ++ splitN P m := split_app P l m (by rw [← HNL.out]; exact HX9.out) (by rw [hP]; exact hen)
          have hll : l.length ≤ 60 ∧ m.length ≤ 60 := ⟨HLO.out.1, HSO.out.1⟩
          -- all
          obtain ⟨v5, w5, R5, r5, o5⟩ := app_rd_En (O := fun _ => False) (cur := []) (Row.nil _ _ _ _) x4.rd x4.nil (by simp; omega)
          have b5 : Below w4.heap.size w4 w5 := o5.toBelow (fun i q => q.elim) (Nat.le_refl _)
          have z5 := HZ.out.below (HB4.out.trans (b5.mono s4))
          obtain ⟨v6, w6, R6, r6, o6⟩ := app_rd_En r5 z5.rd z5.nil (by simp; omega)
          simp only [List.nil_append] at r6
          have s5 := b5.size
          have b6 : Below w4.heap.size w4 w6 := Below.onl b5 o6 (fun i q => q.elim (fun z => z.elim) (fun z => z.1)) (Nat.le_refl _)
          have B6 : Below w.heap.size w w6 := HB4.out.trans (b6.mono s4)
          obtain ⟨a6, c6, hv6, hrd6, hlc6, hcm6, hno6⟩ := rd_ecells r6
          obtain ⟨a5, c5, hv5, _⟩ := r5.form
          subst hv6
          subst hv5
          obtain ⟨p1, p2, p3⟩ := app_runs R5
          obtain ⟨p4, p5, p6⟩ := app_runs R6
          have x6 := HX.out.below B6
          have z6 := HZ.out.below B6
          have hz1 : ∀ e ∈ l, e.k.size ≤ 1099511627776 := fun e he => by have := HLO.out.2 e he; omega
          have hz2 : ∀ e ∈ m, e.k.size ≤ 1099511627776 := fun e he => by have := HSO.out.2 e he; omega
          obtain ⟨all, hall⟩ : ∃ all, all = l ++ m := ⟨_, rfl⟩
          rw [← hall] at hrd6 hlc6 p5 hsplit
          have HC6 : Hid (Calls Try.prog 18 #[.slice a6 all.length c6] w6 (SpoE w6 (splitN P all))) := hide (by rw [hP]; exact split_En a6 c6 all w6 hrd6 hno6 (by rw [hall, List.length_append]; omega) (by rw [hall]; intro e he; exact (List.mem_append.1 he).elim (hz1 e) (hz2 e)))
          have HC7 : Hid (∀ W, Below w6.heap.size w6 W → Calls Try.prog 18 #[.slice (some ⟨g, o, none⟩) nl xc] W (SpoE W (splitN P l))) := hide (fun W bb => by rw [HNL.out, hP]; exact split_En _ xc l W (x6.rd.below bb) x6.nil (by omega) hz1)
          have HC8 : Hid (∀ W, Below w6.heap.size w6 W → Calls Try.prog 18 #[.slice za nm zc] W (SpoE W (splitN P m))) := hide (fun W bb => by rw [HNM.out, hP]; exact split_En _ zc m W (z6.rd.below bb) z6.nil (by omega) hz2)
          obtain ⟨AB, hAB⟩ : ∃ AB, AB = splitN P all := ⟨_, rfl⟩
          have hABf : AB.flatten = all := by rw [hAB]; exact split_flat P all
          have hABl : AB.length ≤ 120 := by
            rw [hAB]
            have := split_len P all
            rw [hall, List.length_append] at this
            rw [hall]
            omega
          obtain ⟨AL, hAL⟩ : ∃ AL, AL = splitN P l := ⟨_, rfl⟩
          obtain ⟨AM, hAM⟩ : ∃ AM, AM = splitN P m := ⟨_, rfl⟩
          rw [← hAB] at HC6 hsplit
          rw [← hAL] at HC7 hsplit
          rw [← hAM] at HC8 hsplit
          have hallb : all.length ≤ 120 := by rw [hall, List.length_append]; omega
          obtain ⟨nall, hnall⟩ : ∃ nall, nall = all.length := ⟨_, rfl⟩
          rw [← hnall] at HC6 p5 hlc6 hallb
          have HNA := hide hnall
          have HRD6 := hide hrd6
          have HB6 := hide B6
          have HSP := hide hsplit
          have HFL := hide hABf
          rw [← HNL.out] at p1 p2 p3
          rw [← HNM.out] at p4 p5 p6
          simp only [List.nil_append] at p2 p4 p5 p6
          rw [← HNL.out] at p2 p4 p5 p6
          clear hen x4 z4 hP hll R5 r5 o5 b5 z5 R6 r6 o6 b6 B6 hrd6 hno6 x6 z6 hz1 hz2 hall hAB hAL hAM hnall hsplit hABf HX HZ HX9
          go_wp2_with fail
          refine HC6.out.mono ?_
          rintro e w7 ⟨v7, vs7, rfl, r7, b7⟩
          obtain ⟨ra, rc, hv7, rd7, hc7, hm7⟩ := r7.rd
          subst hv7
          have HR7 := hide r7
          have HRD7 := hide rd7
          have HB7 := hide b7
          have HC7' := hide (HC7.out w7 b7)
          clear HC6 r7 rd7 b7 HC7
          go_wp2_with fail
          refine HC7'.out.mono ?_
          rintro e w8 ⟨v8, vs8, rfl, r8, b8⟩
          have HB78 := hide b8
          have HB8 := hide (HB7.out.trans (b8.mono HB7.out.size))
          have HR8 := hide r8
          have HC8' := hide (HC8.out w8 HB8.out)
          obtain ⟨a8, c8, hv8, _⟩ := r8.row.form
          subst hv8
          clear HC7' r8 b8 HC8
          go_wp2_with fail
          refine HC8'.out.mono ?_
          rintro e w9 ⟨v9, vs9, rfl, r9, b9⟩
          obtain ⟨a9, c9, hv9, _⟩ := r9.row.form
          subst hv9
          have s78 := HB78.out.size
          have hvl : vs8.length + vs9.length ≤ 120 := by
            have h1 := HR8.out.len
            have h2 := r9.len
            have h3 := congrArg List.length HSP.out
            rw [List.length_append] at h3
            omega
          obtain ⟨v10, w10, R10, r10, b10⟩ := rowsE_app (HR8.out.below b9) (r9.lower s78) (by omega) (Nat.le_trans s78 b9.size)
          rw [← HSP.out] at r10
          obtain ⟨rb, rd, hv10, rd10, hc10, hm10⟩ := r10.rd
          subst hv10
          obtain ⟨p7, p8, p9⟩ := app_runs R10
          have b710 : Below w7.heap.size w7 w10 := (HB78.out.trans (b9.mono s78)).trans b10
          have HRA := hide (RdRowsE.below HRD7.out b710)
          have HRB := hide rd10
          have b610 : Below w6.heap.size w6 w10 := HB7.out.trans (b710.mono HB7.out.size)
          have HALL := hide (HRD6.out.below b610)
          have HB10 := hide (HB6.out.trans (b610.mono HB6.out.size))
          have HPOS : Hid (∀ r ∈ AB, 0 < r.length ∧ r.length ≤ 120) := by
            refine hide (fun r hr => ?_)
            obtain ⟨i, hi2, he⟩ := List.mem_iff_getElem.1 hr
            have hr2 : AB[i]? = some r := by rw [List.getElem?_eq_getElem hi2, he]
            have hvi : vs7[i]? = some (vs7[i]'(by have := HR7.out.len; omega)) := List.getElem?_eq_getElem _
            obtain ⟨G, o', _, _, q3, _⟩ := HR7.out.fin i _ r hvi hr2
            refine ⟨q3, ?_⟩
            have h1 := congrArg List.length HFL.out
            have h2 := flat_ge1 hr
            have := HNA.out
            omega
          obtain ⟨na, hna⟩ : ∃ na, na = AB.length := ⟨_, rfl⟩
          rw [← hna] at hABl hc7 p8 hc10 ⊢
          have Hna := hide hna
          have hm7' : rc ≤ 9223372036854775807 := by unfold maxLen at hm7; omega
          have hm10' : rd ≤ 9223372036854775807 := by unfold maxLen at hm10; omega
          clear HC8' r9 b9 R10 r10 rd10 b10 b710 b610 hna hm7 hm10 hvl HR8 HR7 HRD7
          obtain ⟨WD, hWD⟩ : ∃ WD, WD = w10 := ⟨_, rfl⟩
          rw [← hWD] at HRA HRB HALL HB10 p9
          clear hWD
          have s10 := HB10.out.size
          go_wp2
          go_loopw [8, 50] (fun v i wr => ∃ (k : Nat) (ba : Option Addr) (bn bc : Nat), k ≤ na ∧ i = .int .i64 k ∧ v = .slice ba bn bc ∧ Hid (Row (fun g => WD.heap.size ≤ g) wr 55 2 (.slice ba bn bc) ((AB.take k).flatten).length (ecells (AB.take k).flatten)) ∧ Hid (Below WD.heap.size WD wr)) (fun _ i _ => na - (intOf i).toNat)
          case atStart => exact ⟨0, none, 0, 0, Nat.zero_le _, rfl, rfl, hide (Row.nil _ _ _ _), hide (Below.refl _ _)⟩
          case round =>
            obtain ⟨k, ba, bn, bc, hk, rfl, rfl, HO, HB⟩ := hrel
            have hs := HB.out.size
            by_cases hkn : k < na
            · obtain ⟨r, hr⟩ : ∃ r, AB[k]? = some r := ⟨AB[k]'(by have := Hna.out; omega), List.getElem?_eq_getElem _⟩
              obtain ⟨g1, o1, sa, sc, rfl, q1, q2, hq3, hq4, hq5⟩ := HRA.out k r hr
              obtain ⟨g2, o2, ta, tc, rfl, u1, u2, _⟩ := HRB.out k r hr
              have q1' := (HB.out.cell (p := ⟨g1, o1 + k, none⟩) (World.block_lt_of_cell? _ _ q1)).trans q1
              have u1' := (HB.out.cell (p := ⟨g2, o2 + k, none⟩) (World.block_lt_of_cell? _ _ u1)).trans u1
              have hpos := HPOS.out r (List.mem_of_getElem? hr)
              have HCS : Hid (Calls Try.prog 22 #[.slice sa r.length sc, .slice ta r.length tc] wr fun e w' => e = .returned (.bool true) ∧ Below wr.heap.size wr w') := hide ((sameEn_any sa sc r ta tc r wr (q2.below HB.out) (u2.below HB.out) (by omega)).mono (fun e w' h => ⟨by rw [h.1]; simp, h.2⟩))
              have hft := flat_take hr
              have hfl : ((AB.take k).flatten).length + r.length ≤ 120 := by
                have h1 := congrArg List.length hft
                rw [List.length_append] at h1
                have h2 := flat_take_le AB (k + 1)
                have h3 := congrArg List.length HFL.out
                have := HNA.out
                omega
              have HAP : Hid (∀ W, Below wr.heap.size wr W → ∃ va vn vc w', (Builtin.append_ #[22, 22] 22 #[.slice ba bn bc, .slice sa r.length sc]).run Try.prog W = .ok (.slice va vn vc) w' ∧ Row (fun g => WD.heap.size ≤ g) w' 55 2 (.slice va vn vc) ((AB.take (k + 1)).flatten).length (ecells (AB.take (k + 1)).flatten) ∧ Below WD.heap.size WD w') := by
                refine hide (fun W bb => ?_)
                have row := HO.out.onl (F := fun _ => False) (Onl.ofBelow bb) (fun _ _ q => q)
                obtain ⟨v', w', RR, r1, o1'⟩ := app_rd_En row ((q2.below HB.out).below bb) hq5 (by omega)
                obtain ⟨va, vc, hv, _⟩ := r1.form
                subst hv
                have z := bb.size
                rw [← hft] at r1 RR
                exact ⟨va, _, vc, w', RR, r1.mono (fun i q => q.elim (fun t => t) (fun t => by omega)), Below.onl (HB.out.trans (bb.mono hs)) o1' (fun i q => q) (Nat.le_refl _)⟩
              obtain ⟨rl, hrl⟩ : ∃ rl, rl = r.length := ⟨_, rfl⟩
              rw [← hrl] at q1' u1' HCS HAP hpos
              have d1 : decide ((na : Int) ≤ (k : Int)) = false := by simp; omega
              have d2 : decide (na ≤ k) = false := by simp; omega
              have d3 : ((rl : Int) == 0) = false := by rw [beq_eq_false_iff_ne]; omega
              have d4 : (rl == 0) = false := by rw [beq_eq_false_iff_ne]; omega
              clear q1 q2 u1 u2 hr hrl hft hfl HO hq5 hq3
              go_wp2_with fail
              refine HCS.out.mono ?_
              rintro e w11 ⟨rfl, b11⟩
              obtain ⟨va, vn, vc, w12, R12, r12, b12⟩ := HAP.out w11 b11
              obtain ⟨k1, k2, k3⟩ := app_runs R12
              have HR12 := hide r12
              have HB12 := hide b12
              clear b11 R12 r12 b12 HAP HCS
              go_wp2
              go_roundw
              case rel => exact ⟨k + 1, va, vn, vc, by omega, by simp, rfl, HR12, HB12⟩
              case measure => simp [intOf]; omega
            · obtain rfl : k = na := by omega
              have hfin : (AB.take k).flatten = all := by rw [Hna.out, List.take_length]; exact HFL.out
              rw [hfin] at HO
              obtain ⟨ba', bc', hv', hrd, _⟩ := rd_ecells HO.out
              injection hv' with e1 e2 e3
              subst e1 e2 e3
              have HCS : Hid (Calls Try.prog 22 #[.slice ba all.length bc, .slice a6 all.length c6] wr fun e w' => e = .returned (.bool true) ∧ Below wr.heap.size wr w') := hide ((sameEn_any ba bc all a6 c6 all wr hrd (HALL.out.below HB.out) (by have := HNA.out; omega)).mono (fun e w' h => ⟨by rw [h.1]; simp, h.2⟩))
              rw [← HNA.out] at HCS ⊢
              clear hfin HO hrd
              go_wp2_with fail
              refine HCS.out.mono ?_
              rintro e w11 ⟨rfl, b11⟩
              have HF := hide (HB10.out.trans ((HB.out.trans (b11.mono hs)).mono s10))
              clear b11 HCS
              go_wp2
              go_ret
              exact ⟨rfl, HF.out⟩
end Go.Proofs.Ytandjkogpdamcaa
