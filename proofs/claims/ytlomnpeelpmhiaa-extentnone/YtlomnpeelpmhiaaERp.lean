/- slices.Replace at rows of spans, over the translation: what it hands out lies in the row's own block, or in a new one. -/
import Derived.Test.YtlomnpeelpmhiaaERw
namespace Go.Proofs.Ytlomnpeelpmhiaa
open Go.RowKit Apo

theorem mul2 {a b : Nat} (h : a ≤ b) : a * 2 ≤ b * 2 := Nat.mul_le_mul_right 2 h
set_option maxHeartbeats 4000000 in
theorem replace_any {O U : Nat → Prop} {w : World} {v vv : Value} {R V : List (Nat × Nat)} {i j : Nat} (hr : Row O w 29 2 v R.length (rcells R)) (hv : Row U w 29 2 vv V.length (rcells V)) (hap : ∀ g, v.ownBlock = some g → vv.ownBlock ≠ some g)
    (hnil : V = [] → vv = .slice none 0 0) (hij : i ≤ j) (hj : j ≤ R.length) (hV : i = j → 0 < V.length) (hVl : V.length ≤ 16384) (hRl : R.length ≤ 16384) :
    Calls Try.prog 38 #[v, .int .i64 i, .int .i64 j, vv] w fun e w' => ∃ u, e = .returned u ∧ (Row (Gro O w w') w' 29 2 u (i + V.length + (R.length - j)) (rcells (R.take i ++ (V ++ R.drop j))) ∧ w.grownBy w' v.ownBlock) := by
  obtain ⟨i0, hi0, hz0, hz1, hz2⟩ := info_parts info_span
  have hvf : ∃ va mc, vv = .slice va V.length mc := by
    obtain ⟨a, c, e⟩ := own_len2 hv.1
    exact ⟨a, c, e⟩
  rcases Nat.eq_or_lt_of_le hij with rfl | hlt
  · have hI := insert_any hr hv hap hj (hV rfl) hVl hRl
    have hI' : Calls Try.prog 40 #[v, .int .i64 i, vv] w (fun e w' => ∃ a n2 c2, e = .returned (.slice a n2 c2) ∧ (Row (Gro O w w') w' 29 2 (.slice a n2 c2) (i + V.length + (R.length - i)) (rcells (R.take i ++ (V ++ R.drop i))) ∧ w.grownBy w' v.ownBlock)) := hI.mono (fun e w' ⟨u, h1, h2, h3⟩ => by
      obtain ⟨a, c, e⟩ := own_len2 h2.1
      subst e
      exact ⟨a, _, c, h1, by rw [show i + V.length + (R.length - i) = R.length + V.length by omega]; exact h2, h3⟩)
    obtain ⟨va, mc, rfl⟩ := hvf
    rcases row_ob hr with ⟨rfl, h0, _⟩ | ⟨g, cap, cur, rfl, _, _, hr1, hr2, _, _⟩
    · have e : i = 0 := by omega
      subst e
      exact replace_ins0 (Q := fun u w' => Row (Gro O w w') w' 29 2 u (0 + V.length + (R.length - 0)) (rcells (R.take 0 ++ (V ++ R.drop 0))) ∧ w.grownBy w' _) hI'
    · exact replace_ins (Q := fun u w' => Row (Gro O w w') w' 29 2 u (i + V.length + (R.length - i)) (rcells (R.take i ++ (V ++ R.drop i))) ∧ w.grownBy w' _) hj hr1 hRl (by unfold maxLen at hr2; omega) hI'
  rcases row_ob hr with ⟨_, h0, _⟩ | ⟨g, cap, cur, rfl, hOg, bR, hr1, hr2, hr3, hr4⟩
  · omega
  have hcap : cap ≤ 9223372036854775807 := by unfold maxLen at hr2; omega
  have hsrcR := row_src rfl hr4 j
  have hpreR := row_pre rfl hr4 (Nat.le_trans hij hj)
  have hdl : (rcells (R.drop j)).length = (R.length - j) * 2 := by rw [rcells_len, List.length_drop]
  have htl : (rcells (R.take i)).length = i * 2 := by rw [rcells_len, List.length_take, Nat.min_eq_left (by omega)]
  have hvl := rcells_len V
  obtain ⟨va, mc, hvv⟩ := hvf
  -- the values that come, at any world in which v's block alone was changed
  have hsv : ∀ W : World, w.grownBy W (some g) → 0 < V.length → ∃ a, va = some a ∧ ∀ k u, (rcells V)[k]? = some u → W.cell? (a.add k) = some u := by
    intro W hW h0
    rcases row_ob hv with ⟨_, h1, _⟩ | ⟨h, vc, vcur, e, _, bV, hv1, hv2, hv3, hv4⟩
    · omega
    · rw [hvv] at e
      cases e
      have hgh : g ≠ h := fun q => hap g rfl (by rw [hvv, q]; rfl)
      refine ⟨_, rfl, ob_src (Ob.kept bV hW (fun q => hgh (Option.some.inj q))) (fun k u hu => ?_)⟩
      have hk := (List.getElem?_eq_some_iff.1 hu).1
      rw [hvl] at hk
      rw [← hv4, List.getElem?_take_of_lt hk] at hu
      rw [Nat.zero_add]; exact hu
  have hsv0 := hsv w (grew_below _ (Below.refl _ _))
  have hwd : w.grownBy w.drew (some g) := grew_below _ ((Below.refl _ w).drew)
  subst hvv
  rcases Nat.eq_or_lt_of_le hj with rfl | hjl
  · -- up to the end
    have hd0 : R.drop R.length = [] := List.drop_length
    rw [hd0, List.append_nil, Nat.sub_self, Nat.add_zero, rcells_app]
    by_cases hroom : i + V.length ≤ cap
    · obtain ⟨w1, RA, o1, g1⟩ := run_append_in (P := Try.prog) (w := w) (t := 37) (ty := 37) Try.underlying37 hi0 hz1 g i cap cur bR va V.length mc (rcells V) hvl hsv0 hroom (by omega) (rcells_one V)
      obtain ⟨q1, q2, q3⟩ := app_runs RA
      have hl1 : (splice cur (i * 2) (rcells V)).length = cap * 2 := by rw [length_splice _ _ _ (by omega), hr3]
      have hfin : (splice cur (i * 2) (rcells V)).take ((i + V.length) * 2) = rcells (R.take i) ++ rcells V := by
        have := place_xb (L := cur) (A := rcells (R.take i)) (X := rcells V) (B := []) (a := i * 2) (b := 0) (c := V.length * 2) rfl hvl hpreR (by omega)
        rw [List.append_nil, Nat.add_zero] at this
        rw [← this, show splice (splice cur (i * 2) (rcells V)) (i * 2 + V.length * 2) [] = splice cur (i * 2) (rcells V) by simp [splice]]
        congr 1
        omega
      by_cases hT : i + V.length < R.length
      · obtain ⟨w2, zs, RB, hzl, o2, g2⟩ := run_clear_ob (P := Try.prog) (w := w1) (T := 37) (ty := 0) Try.underlying37 hi0 hz0 (size := 2) rfl (by simp [Value.cells, Value.oneCell']) g ((i + V.length) * 2) _ o1 (some ⟨g, (i + V.length) * 2, none⟩) (R.length - (i + V.length)) (cap - (i + V.length)) (fun _ => rfl) (by rw [hl1]; omega)
        obtain ⟨r1, r2, r3⟩ := cl_runs RB
        have R2 : Row (Gro O w w2) w2 29 2 (.slice (some ⟨g, 0, none⟩) (i + V.length) cap) (i + V.length) (rcells (R.take i) ++ rcells V) :=
          ob_row (Gro.of g hOg) o2 hroom hr2 (by rw [length_splice _ _ _ (by rw [hl1, hzl]; omega), hl1]) (by rw [splice_take _ _ _ _ (Nat.le_refl _) (by rw [hl1]; omega)]; exact hfin)
        exact (replace_endc hlt hr1 hRl hcap hT q1 q2 q3 r1 r2 r3).mono (fun e w' ⟨h1, h2⟩ => by subst h2; exact ⟨_, h1, R2, grew_trans g1 g2⟩)
      · have R2 : Row (Gro O w w1) w1 29 2 (.slice (some ⟨g, 0, none⟩) (i + V.length) cap) (i + V.length) (rcells (R.take i) ++ rcells V) := ob_row (Gro.of g hOg) o1 hroom hr2 hl1 hfin
        exact (replace_endn hlt hr1 hRl hcap (by omega) q1 q2 q3).mono (fun e w' ⟨h1, h2⟩ => by subst h2; exact ⟨_, h1, R2, g1⟩)
    · have hrow : w.ownsRow 0 29 2 (.slice (some ⟨g, 0, none⟩) i cap) i (rcells (R.take i)) := (ob_row (O := O) hOg bR (by omega) hr2 hr3 hpreR).1
      obtain ⟨a, rfl, hnews⟩ := hsv0 (by omega)
      obtain ⟨v5, w5, RR, r5, g5, _, ho5⟩ := run_append_own_at (P := Try.prog) w 0 37 37 29 i0 _ 2 16 Try.underlying37 hi0 hz0 hz1 hz2 rfl (by decide) (.slice (some ⟨g, 0, none⟩) i cap) i (rcells (R.take i)) hrow a V.length mc (rcells V) hvl hnews (rcells_one V) (by unfold maxLen; omega) (by omega) (Nat.zero_le _)
      obtain ⟨a5, c5, e5⟩ := own_len2 r5
      subst e5
      obtain ⟨q1, q2, q3⟩ := app_runs RR
      have R5 : Row (Gro O w w5) w5 29 2 (.slice a5 (i + V.length) c5) (i + V.length) (rcells (R.take i) ++ rcells V) := by
        refine ⟨r5, fun k hk => ?_⟩
        rcases ho5 with q | q
        · rw [hk] at q
          cases q
          exact Gro.of _ hOg
        · rw [q] at hk
          cases hk
          exact Gro.new (Nat.le_refl _) (r5.lt _ q).2
      exact (replace_endn hlt hr1 hRl hcap (by omega) q1 q2 q3).mono (fun e w' ⟨h1, h2⟩ => by subst h2; exact ⟨_, h1, R5, g5⟩)
  · -- in the midst
    have eJ : IntKind.i64.wrap ((i : Int) + (V.length : Int)) = ((i + V.length : Nat) : Int) := wrap_nat (by omega) (by omega)
    have eT : IntKind.i64.wrap (((i + V.length : Nat) : Int) + ((R.length - j : Nat) : Int)) = ((i + V.length + (R.length - j) : Nat) : Int) := wrap_nat (by omega) (by omega)
    have bR1 : Ob w.drew g 29 cur := bR
    rw [rcells_app, rcells_app]
    have eTT : i * 2 + V.length * 2 + (R.length - j) * 2 = (i + V.length + (R.length - j)) * 2 := by omega
    have eJJ : i * 2 + V.length * 2 = (i + V.length) * 2 := by omega
    by_cases hroom : i + V.length + (R.length - j) ≤ cap
    · by_cases hJj : i + V.length ≤ j
      · -- what comes fits where something goes
        obtain ⟨w2, RA, o2, g2⟩ := run_copy_ob (P := Try.prog) (w := w.drew) (dT := 37) (sT := 37) (ty := 3) Try.underlying37 span_size g (i * 2) cur bR1 (some ⟨g, i * 2, none⟩) va (i + V.length + (R.length - j) - i) (cap - i) V.length mc (rcells V)
          (by rw [hvl]; congr 1; simp only [Nat.min_def]; split <;> omega) (fun h => ⟨rfl, hsv w.drew hwd (by omega)⟩) (by decide) (by omega) (rcells_one _)
        have hl2 : (splice cur (i * 2) (rcells V)).length = cap * 2 := by rw [length_splice _ _ _ (by omega), hr3]
        have o2d : Ob w2.drew g 29 (splice cur (i * 2) (rcells V)) := o2
        obtain ⟨w3, RB, o3, g3⟩ := run_copy_ob (P := Try.prog) (w := w2.drew) (dT := 37) (sT := 37) (ty := 3) Try.underlying37 span_size g ((i + V.length) * 2) _ o2d (some ⟨g, (i + V.length) * 2, none⟩) (some ⟨g, j * 2, none⟩) (i + V.length + (R.length - j) - (i + V.length)) (cap - (i + V.length)) (R.length - j) (cap - j) (rcells (R.drop j))
          (by rw [hdl]; congr 1; simp only [Nat.min_def]; split <;> omega)
          (fun _ => ⟨rfl, _, rfl, ob_src o2d (fun k u hu => by rw [splice_at _ _ _ (by omega), if_neg (by omega), if_neg (by omega)]; exact hsrcR k u hu)⟩) (by decide) (by rw [hl2, hdl]; omega) (rcells_one _)
        have hl3 : (splice (splice cur (i * 2) (rcells V)) ((i + V.length) * 2) (rcells (R.drop j))).length = cap * 2 := by rw [length_splice _ _ _ (by rw [hl2, hdl]; omega), hl2]
        have hfin : (splice (splice cur (i * 2) (rcells V)) ((i + V.length) * 2) (rcells (R.drop j))).take ((i + V.length + (R.length - j)) * 2) = rcells (R.take i) ++ (rcells V ++ rcells (R.drop j)) := by
          have := place_xb (L := cur) (A := rcells (R.take i)) (X := rcells V) (B := rcells (R.drop j)) hdl hvl hpreR (by omega)
          rw [eTT, eJJ] at this
          exact this
        have G3 : w.grownBy w3 (some g) := grew_trans (grew_trans (grew_trans hwd g2) (grew_below _ ((Below.refl _ w2).drew))) g3
        obtain ⟨r1, r2, r3⟩ := cp_runs RA
        obtain ⟨s1, s2, s3⟩ := cp_runs RB
        have fin : ∀ w4 zs, Ob w4 g 29 (splice (splice (splice cur (i * 2) (rcells V)) ((i + V.length) * 2) (rcells (R.drop j))) ((i + V.length + (R.length - j)) * 2) zs) → zs.length = (R.length - (i + V.length + (R.length - j))) * 2 →
            Row (Gro O w w4) w4 29 2 (.slice (some ⟨g, 0, none⟩) (i + V.length + (R.length - j)) cap) (i + V.length + (R.length - j)) (rcells (R.take i) ++ (rcells V ++ rcells (R.drop j))) := fun w4 zs o4 hzl =>
          ob_row (Gro.of g hOg) o4 hroom hr2 (by rw [length_splice _ _ _ (by rw [hl3, hzl]; omega), hl3]) (by rw [splice_take _ _ _ _ (Nat.le_refl _) (by rw [hl3]; omega)]; exact hfin)
        rcases Nat.eq_or_lt_of_le hroom with hfull | hfull
        · have eC : cap = R.length := by omega
          have eT2 : i + V.length + (R.length - j) = R.length := by omega
          obtain ⟨w4, zs, RC, hzl, o4, g4⟩ := run_clear_ob (P := Try.prog) (w := w3) (T := 37) (ty := 0) Try.underlying37 hi0 hz0 (size := 2) rfl (by simp [Value.cells, Value.oneCell']) g ((i + V.length + (R.length - j)) * 2) _ o3 (some ⟨g, 0, none⟩) 0 0 (fun h => by omega) (by rw [hl3]; omega)
          have R4 := fin w4 zs o4 (by omega)
          obtain ⟨c1, c2, c3⟩ := cl_runs RC
          rw [eT2] at R4 eT r1 r2 r3 s1 s2 s3 ⊢
          subst eC
          exact (replace_full hlt hjl hRl hVl hcap eJ eT hJj (by omega) r1 r2 r3 s1 s2 s3 c1 c2 c3).mono (fun e w' ⟨h1, h2⟩ => by subst h2; exact ⟨_, h1, R4, grew_trans G3 g4⟩)
        · obtain ⟨w4, zs, RC, hzl, o4, g4⟩ := run_clear_ob (P := Try.prog) (w := w3) (T := 37) (ty := 0) Try.underlying37 hi0 hz0 (size := 2) rfl (by simp [Value.cells, Value.oneCell']) g ((i + V.length + (R.length - j)) * 2) _ o3 (some ⟨g, (i + V.length + (R.length - j)) * 2, none⟩) (R.length - (i + V.length + (R.length - j))) (cap - (i + V.length + (R.length - j))) (fun _ => rfl) (by rw [hl3]; omega)
          have R4 := fin w4 zs o4 hzl
          obtain ⟨c1, c2, c3⟩ := cl_runs RC
          exact (replace_fit hlt hjl hr1 hRl hVl hcap eJ eT hfull hJj (by omega) (by omega) (by omega) r1 r2 r3 s1 s2 s3 c1 c2 c3).mono (fun e w' ⟨h1, h2⟩ => by subst h2; exact ⟨_, h1, R4, grew_trans G3 g4⟩)
      · -- more comes than goes
        rcases row_ob hv with ⟨_, h0, _⟩ | ⟨h, vc, vcur, e, _, bV, hv1, hv2, hv3, hv4⟩
        · omega
        cases e
        have hgh : g ≠ h := fun q => hap g rfl (by rw [q]; rfl)
        have bRd : Ob w.drew.drew g 29 cur := bR
        obtain ⟨w2, RA, o2, g2⟩ := run_copy_ob (P := Try.prog) (w := w.drew.drew) (dT := 37) (sT := 37) (ty := 3) Try.underlying37 span_size g ((i + V.length) * 2) cur bRd (some ⟨g, (i + V.length) * 2, none⟩) (some ⟨g, j * 2, none⟩) (i + V.length + (R.length - j) - (i + V.length)) (cap - (i + V.length)) (R.length - j) (cap - j) (rcells (R.drop j))
          (by rw [hdl]; congr 1; simp only [Nat.min_def]; split <;> omega) (fun _ => ⟨rfl, _, rfl, ob_src bRd hsrcR⟩) (by decide) (by rw [hdl]; omega) (rcells_one _)
        have hl2 : (splice cur ((i + V.length) * 2) (rcells (R.drop j))).length = cap * 2 := by rw [length_splice _ _ _ (by rw [hdl]; omega), hr3]
        have G2 : w.grownBy w2 (some g) := grew_trans (grew_below _ (((Below.refl _ w).drew).drew)) g2
        obtain ⟨w3, RB, o3, g3⟩ := run_copy_ob (P := Try.prog) (w := w2) (dT := 37) (sT := 37) (ty := 3) Try.underlying37 span_size g (i * 2) _ o2 (some ⟨g, i * 2, none⟩) (some ⟨h, 0, none⟩) (i + V.length + (R.length - j) - i) (cap - i) V.length mc (rcells V)
          (by rw [hvl]; congr 1; simp only [Nat.min_def]; split <;> omega) (fun _ => ⟨rfl, hsv w2 G2 (by omega)⟩) (by decide) (by rw [hl2]; omega) (rcells_one _)
        have hfin : (splice (splice cur ((i + V.length) * 2) (rcells (R.drop j))) (i * 2) (rcells V)).take ((i + V.length + (R.length - j)) * 2) = rcells (R.take i) ++ (rcells V ++ rcells (R.drop j)) := by
          have := place_bx (L := cur) (A := rcells (R.take i)) (X := rcells V) (B := rcells (R.drop j)) hdl hvl hpreR (by omega)
          rw [eTT, eJJ] at this
          exact this
        obtain ⟨r1, r2, r3⟩ := cp_runs RA
        obtain ⟨s1, s2, s3⟩ := cp_runs RB
        have R3 : Row (Gro O w w3) w3 29 2 (.slice (some ⟨g, 0, none⟩) (i + V.length + (R.length - j)) cap) (i + V.length + (R.length - j)) (rcells (R.take i) ++ (rcells V ++ rcells (R.drop j))) :=
          ob_row (Gro.of g hOg) o3 hroom hr2 (by rw [length_splice _ _ _ (by rw [hl2]; omega), hl2]) hfin
        have bVd : Ob w.drew h 29 vcur := bV
        exact (replace_more hlt hjl hr1 hRl hVl hcap eJ eT hroom (by omega) (by omega) (by omega) (over_no hgh bR1 bVd (by omega)) r1 r2 r3 s1 s2 s3).mono (fun e w' ⟨h1, h2⟩ => by subst h2; exact ⟨_, h1, R3, grew_trans G2 g3⟩)
    · -- no room
      obtain ⟨c2, w1, Z, RA, o1, hZ, hc1, hc2, b1, _⟩ := run_append_zeros (P := Try.prog) (w := w.drew) (t := 37) (tn := 3) (ty := 37) Try.underlying37 (by kernel_rfl) hi0 hz0 hz1 hz2 rfl (by decide) ⟨g, 0, none⟩ i cap (i + V.length + (R.length - j) - i) (rcells (R.take i)) htl
        (ob_src bR1 (fun k u hu => by
          have hk := (List.getElem?_eq_some_iff.1 hu).1
          rw [← hpreR, List.getElem?_take_of_lt (by omega)] at hu
          rw [Nat.zero_add]; exact hu)) (by omega) (by omega) (by unfold maxLen; omega) (by omega)
      have eI : i + (i + V.length + (R.length - j) - i) = i + V.length + (R.length - j) := by omega
      have eS : w.drew.heap.size = w.heap.size := rfl
      rw [eI, eS] at RA
      rw [eI] at hc1
      rw [eS] at o1 b1
      have B1 : Below w.heap.size w w1 := ((Below.refl _ w).drew).trans b1
      have hgs : g ≠ w.heap.size := Nat.ne_of_lt bR.lt
      have bR2 : Ob w1 g 29 cur := bR.old B1
      have hzl : (rcells (R.take i) ++ Z).length = c2 * 2 := by rw [List.length_append]; omega
      obtain ⟨w2, RB, o2, g2⟩ := run_copy_ob (P := Try.prog) (w := w1) (dT := 37) (sT := 37) (ty := 3) Try.underlying37 span_size w.heap.size (i * 2) _ o1 (some ⟨w.heap.size, i * 2, none⟩) va (i + V.length + (R.length - j) - i) (c2 - i) V.length mc (rcells V)
        (by rw [hvl]; congr 1; simp only [Nat.min_def]; split <;> omega) (fun _ => ⟨rfl, hsv w1 (grew_below _ B1) (by omega)⟩) (by decide) (by rw [hzl]; omega) (rcells_one _)
      have bR3 : Ob w2.drew g 29 cur := Ob.kept (w := w1) (w' := w2) bR2 g2 (fun e => hgs (Option.some.inj e).symm)
      have hl2 : (splice (rcells (R.take i) ++ Z) (i * 2) (rcells V)).length = c2 * 2 := by rw [length_splice _ _ _ (by rw [hzl]; omega), hzl]
      have o2d : Ob w2.drew w.heap.size 29 (splice (rcells (R.take i) ++ Z) (i * 2) (rcells V)) := o2
      obtain ⟨w3, RC, o3, g3⟩ := run_copy_ob (P := Try.prog) (w := w2.drew) (dT := 37) (sT := 37) (ty := 3) Try.underlying37 span_size w.heap.size ((i + V.length) * 2) _ o2d (some ⟨w.heap.size, (i + V.length) * 2, none⟩) (some ⟨g, j * 2, none⟩) (i + V.length + (R.length - j) - (i + V.length)) (c2 - (i + V.length)) (R.length - j) (cap - j) (rcells (R.drop j))
        (by rw [hdl]; congr 1; simp only [Nat.min_def]; split <;> omega) (fun _ => ⟨rfl, _, rfl, ob_src bR3 hsrcR⟩) (by decide) (by rw [hl2, hdl]; omega) (rcells_one _)
      obtain ⟨p1, p2, p3⟩ := app_runs RA
      obtain ⟨r1, r2, r3⟩ := cp_runs RB
      obtain ⟨s1, s2, s3⟩ := cp_runs RC
      have hfin : (splice (splice (rcells (R.take i) ++ Z) (i * 2) (rcells V)) ((i + V.length) * 2) (rcells (R.drop j))).take ((i + V.length + (R.length - j)) * 2) = rcells (R.take i) ++ (rcells V ++ rcells (R.drop j)) := by
        have := place_xb (L := rcells (R.take i) ++ Z) (A := rcells (R.take i)) (X := rcells V) (B := rcells (R.drop j)) (a := i * 2) hdl hvl (by rw [← htl]; exact List.take_left) (by rw [hzl]; omega)
        rw [eTT, eJJ] at this
        exact this
      have B2 : Below w.heap.size w w2 := B1.grown g2 B1.size (fun k hk => by cases hk; exact Nat.le_refl _)
      have B3 : Below w.heap.size w w3 := (B2.drew).grown g3 (by have := B2.size; simpa using this) (fun k hk => by cases hk; exact Nat.le_refl _)
      have R3 : Row (Gro O w w3) w3 29 2 (.slice (some ⟨w.heap.size, 0, none⟩) (i + V.length + (R.length - j)) c2) (i + V.length + (R.length - j)) (rcells (R.take i) ++ (rcells V ++ rcells (R.drop j))) :=
        ob_row (Gro.new (Nat.le_refl _) o3.lt) o3 hc1 hc2 (by rw [length_splice _ _ _ (by rw [hl2, hdl]; omega), hl2]) hfin
      exact (replace_grow hlt hjl hr1 hRl hVl hcap eJ eT (by omega) (by omega) (by omega) hc1 (by omega) (by unfold maxLen at hc2; omega) (wrap_nat (n := i + V.length + (R.length - j) - i) (by omega) (by omega)) p1 p2 p3 r1 r2 r3 s1 s2 s3).mono (fun e w' ⟨h1, h2⟩ => by subst h2; exact ⟨_, h1, R3, grew_below _ B3⟩)
end Go.Proofs.Ytlomnpeelpmhiaa
