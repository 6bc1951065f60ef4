/- Whether clashes may be, told once; node.Key, node.Val; conflict's sides, texts and unlike, over the translation. -/
import Derived.Shelf.SlSortCmp.QuietGrown
import Derived.Test.YtgjhmpmjbedjoaaQA4
namespace Apo
open Go Go.RowKit Go.Sort
/-- whether a side may be -/
def sdOk (s : Si) : Bool := decide (s.v.size ≤ 200) && (s.b || decide (s.v.size = 0))
def clT (c : Cl) : Int := if keyE c.k ≠ 0 then 100 else if (sdOk c.a && sdOk c.b && sdOk c.c) = true then 0 else 101
open Classical in
noncomputable def unlikeB (c : Cl) : Bool := decide (c.b ≠ c.c) && decide (c.b ≠ c.a) && decide (c.c ≠ c.a)
open Classical in
/-- what is wrong with the clash at a place -/
noncomputable def erAt (l : List Cl) (i : Nat) : Int := match l[i]? with
  | none => 0
  | some c => if clT c ≠ 0 then clT c else if (∃ p, 0 < i ∧ l[i - 1]? = some p ∧ sLt p.k c.k = false) ∨ unlikeB c = false then 132 else 0
noncomputable def clashE (l : List Cl) : Int := firstE (erAt l) (List.range l.length)
theorem clashE_at {l : List Cl} {k : Nat} {e : Int} (hk : k < l.length) (hp : ∀ j, j < k → erAt l j = 0) (he : erAt l k = e) (h0 : e ≠ 0) : clashE l = e := by
  unfold clashE
  rw [firstE_at (k := k) (x := k) (by rw [List.getElem?_range hk]) (fun y hy => ?_) (by rw [he]; exact h0), he]
  rw [List.take_range, List.mem_range] at hy
  exact hp y (by omega)
theorem clashE_zero {l : List Cl} (hp : ∀ j, j < l.length → erAt l j = 0) : clashE l = 0 := firstE_none (fun x hx => hp x (by simpa using hx))
theorem clashE_ok {l : List Cl} (h : clashE l = 0) : ∀ j, j < l.length → erAt l j = 0 := fun j hj => firstE_zero h j (by simpa using hj)
theorem erAt_text {l : List Cl} {k : Nat} {c : Cl} (h : l[k]? = some c) (hc : clT c ≠ 0) : erAt l k = clT c := by
  unfold erAt
  rw [h]
  simp only
  rw [if_pos hc]
theorem erAt_low {l : List Cl} {k : Nat} {c p : Cl} (h : l[k]? = some c) (hc : clT c = 0) (hk : 0 < k) (hp : l[k - 1]? = some p) (hs : sLt p.k c.k = false) : erAt l k = 132 := by
  unfold erAt
  rw [h]
  simp only
  rw [if_neg (by simp [hc]), if_pos (.inl ⟨p, hk, hp, hs⟩)]
theorem erAt_like {l : List Cl} {k : Nat} {c : Cl} (h : l[k]? = some c) (hc : clT c = 0) (hu : unlikeB c = false) : erAt l k = 132 := by
  unfold erAt
  rw [h]
  simp only
  rw [if_neg (by simp [hc]), if_pos (.inr hu)]
theorem erAt_ok {l : List Cl} {k : Nat} {c : Cl} (h : l[k]? = some c) (hc : clT c = 0) (hs : ∀ p, 0 < k → l[k - 1]? = some p → sLt p.k c.k = true) (hu : unlikeB c = true) : erAt l k = 0 := by
  unfold erAt
  rw [h]
  simp only
  rw [if_neg (by simp [hc]), if_neg]
  rintro (⟨p, h1, h2, h3⟩ | h3)
  · rw [hs p h1 h2] at h3; cases h3
  · rw [hu] at h3; cases h3
theorem clT_val (c : Cl) : clT c = 0 ∨ clT c = 100 ∨ clT c = 101 := by
  unfold clT
  split
  · exact .inr (.inl rfl)
  · split
    · exact .inl rfl
    · exact .inr (.inr rfl)
theorem clT_ok {c : Cl} (h : clT c = 0) : (1 ≤ c.k.size ∧ c.k.size ≤ 40) ∧ sdOk c.a = true ∧ sdOk c.b = true ∧ sdOk c.c = true := by
  unfold clT at h
  split at h
  · cases h
  · rename_i hk
    split at h
    · rename_i hs
      simp only [Bool.and_eq_true] at hs
      exact ⟨keyE_ok (by omega), hs.1.1, hs.1.2, hs.2⟩
    · cases h
theorem sdOk_size {s : Si} (h : sdOk s = true) : s.v.size ≤ 200 := by
  unfold sdOk at h
  simp only [Bool.and_eq_true, decide_eq_true_eq] at h
  exact h.1
theorem sdOk_plain {s : Si} (h : sdOk s = true) : s.plain = s := by
  obtain ⟨b, v⟩ := s
  cases b with
  | true => rfl
  | false =>
    simp only [sdOk, Bool.false_or, Bool.and_eq_true, decide_eq_true_eq] at h
    have : v = ⟨#[]⟩ := by
      obtain ⟨d⟩ := v
      have h2 : d.size = 0 := h.2
      rw [Array.eq_empty_of_size_eq_zero h2]
    rw [this]
    rfl
open Classical in
theorem pick_unlike {c : Cl} (ha : sdOk c.a = true) (hb : sdOk c.b = true) (hc : sdOk c.c = true) : (pickS c.a c.b c.c).2 = !unlikeB c := by
  unfold pickS
  rw [sdOk_plain ha, sdOk_plain hb, sdOk_plain hc]
  unfold pickP unlikeB
  by_cases h1 : c.b = c.c
  · rw [if_pos h1]; simp [h1]
  · rw [if_neg h1]
    by_cases h2 : c.b = c.a
    · rw [if_pos h2]; simp [h2]
    · rw [if_neg h2]
      by_cases h3 : c.c = c.a
      · simp [h3]
      · simp [h1, h2, h3]
/-- the side at a place -/
def Cl.at (c : Cl) : Nat → Si
  | 0 => c.a
  | 1 => c.b
  | _ => c.c
theorem bad_side {c : Cl} {j : Nat} (h : sdOk (c.at j) = false) : (sdOk c.a && sdOk c.b && sdOk c.c) = false := by
  match j with
  | 0 => simp only [Cl.at] at h; simp [h]
  | 1 => simp only [Cl.at] at h; simp [h]
  | j + 2 => simp only [Cl.at] at h; simp [h]
theorem arr_nil {v : ByteArray} (h : v.size = 0) : v = ⟨#[]⟩ := by
  obtain ⟨d⟩ := v
  have h2 : d.size = 0 := h
  rw [Array.eq_empty_of_size_eq_zero h2]
end Apo
namespace Go.Proofs.Ytgjhmpmjbedjoaa
open Go.RowKit Apo
set_option maxRecDepth 100000 in
theorem key_any (k : ByteArray) (w : World) (hk : k.size ≤ 9223372036854775807) : Calls Try.prog 78 #[.string k] w fun e w' => e = .returned (.int .i64 (keyE k)) ∧ w = w' := by
  unfold keyE
  by_cases h1 : k.size < 1
  · have d1 : ((k.size : Int) == 0) = true := by rw [beq_iff_eq]; omega
    have d2 : (k.size == 0) = true := by rw [beq_iff_eq]; omega
    rw [if_pos (.inl h1)]
    go_enter Try.func78, Try.ntmps78
    go_wp2
    go_ret
    exact ⟨rfl, rfl⟩
  · have d1 : ((k.size : Int) == 0) = false := by rw [beq_eq_false_iff_ne]; omega
    have d1n : (k.size == 0) = false := by rw [beq_eq_false_iff_ne]; omega
    by_cases h2 : 40 < k.size
    · have d2 : decide ((40 : Int) < (k.size : Int)) = true := by simp; omega
      have d2n : decide (40 < k.size) = true := by simp; omega
      rw [if_pos (.inr h2)]
      go_enter Try.func78, Try.ntmps78
      go_wp2
      go_ret
      exact ⟨rfl, rfl⟩
    · have d2 : decide ((40 : Int) < (k.size : Int)) = false := by simp; omega
      have d2n : decide (40 < k.size) = false := by simp; omega
      rw [if_neg (by omega)]
      go_enter Try.func78, Try.ntmps78
      go_wp2
      go_ret
      exact ⟨rfl, rfl⟩
set_option maxRecDepth 100000 in
theorem val_any (v : ByteArray) (w : World) (hk : v.size ≤ 9223372036854775807) : Calls Try.prog 79 #[.string v] w fun e w' => e = .returned (.int .i64 (valE v)) ∧ w = w' := by
  unfold valE
  by_cases h2 : 200 < v.size
  · have d2 : decide ((200 : Int) < (v.size : Int)) = true := by simp; omega
    rw [if_pos h2]
    go_enter Try.func79, Try.ntmps79
    go_wp2
    go_ret
    exact ⟨rfl, rfl⟩
  · have d2 : decide ((200 : Int) < (v.size : Int)) = false := by simp; omega
    rw [if_neg h2]
    go_enter Try.func79, Try.ntmps79
    go_wp2
    go_ret
    exact ⟨rfl, rfl⟩
theorem list_nil : (⟨#[]⟩ : ByteArray).toList = [] := by simp
theorem str_nil {v : ByteArray} (h : v.size = 0) : v.toList = [] := by rw [arr_nil h]; exact list_nil
theorem str_some {v : ByteArray} (h : ¬ v.size = 0) : ¬ v.toList = [] := fun e => h (by rw [bytes_of_list (e.trans list_nil.symm)]; rfl)
set_option maxRecDepth 100000 in
theorem idx0 (c0 c2 c4 : Bool) (c1 c3 c5 : ByteArray) (w : World) : (Instr.index 89 (.agg #[.bool c0, .string c1, .bool c2, .string c3, .bool c4, .string c5]) (.int .i64 0)).run Try.prog w = .ok (.agg #[.bool c0, .string c1]) w := by kernel_rfl
set_option maxRecDepth 100000 in
theorem idx1 (c0 c2 c4 : Bool) (c1 c3 c5 : ByteArray) (w : World) : (Instr.index 89 (.agg #[.bool c0, .string c1, .bool c2, .string c3, .bool c4, .string c5]) (.int .i64 1)).run Try.prog w = .ok (.agg #[.bool c2, .string c3]) w := by kernel_rfl
set_option maxRecDepth 100000 in
theorem idx2 (c0 c2 c4 : Bool) (c1 c3 c5 : ByteArray) (w : World) : (Instr.index 89 (.agg #[.bool c0, .string c1, .bool c2, .string c3, .bool c4, .string c5]) (.int .i64 2)).run Try.prog w = .ok (.agg #[.bool c4, .string c5]) w := by kernel_rfl
set_option maxRecDepth 100000 in
theorem size_sides : (Try.prog.info? 89).map (·.size) = some 6 := by kernel_rfl
set_option maxRecDepth 100000 in
theorem fin_sides {W : World} {g : Nat} {c0 c1 c2 c3 c4 c5 : Value} {tmps : Array Value} {Q : Ending → World → Prop} (k : Ob W g 89 [c0, c1, c2, c3, c4, c5]) (h4 : tmps.getD 2 undef = .pointer (some ⟨g, 0, none⟩)) (hq : Q (.returned (.agg #[c0, c1, c2, c3, c4, c5])) W) :
    bodyPost Try.prog Try.f50 Q Exit.ret { tmps := tmps, defers := [] } W := by
  have hl := run_loadVar_row (P := Try.prog) W g 89 89 #[c0, c1, c2, c3, c4, c5] (0, 0) _ k Try.underlying89 rfl (by rw [size_sides]; rfl)
  have h4' : tmps[2]?.getD undef = .pointer (some ⟨g, 0, none⟩) := by simpa using h4
  refine bodyPost_ret (v := .agg #[c0, c1, c2, c3, c4, c5]) ?_ rfl hq
  simp [results, Try.results50, asAddr, h4', hl]
theorem ob_twoL (w : World) (o : Obj) (t : TypeId) (cs : List Value) : Ob ((w.alloc o).alloc (.cells cs.toArray t)) (w.heap.size + 1) t cs := by
  have := Ob.new (w.alloc o) cs t
  rw [World.size_alloc] at this
  exact this
set_option maxRecDepth 100000 in
set_option maxHeartbeats 4000000 in
theorem sides_any (c : Cl) (w : World) : Calls Try.prog 50 #[c.val] w fun e w' => e = .returned (.agg #[.bool c.a.b, .string c.a.v, .bool c.b.b, .string c.b.v, .bool c.c.b, .string c.c.v]) ∧ Below w.heap.size w w' := by
  simp only [Cl.val]
  go_enter Try.func50, Try.ntmps50
  go_wp2
  exact fin_sides (ob_twoL w _ _ [_, _, _, _, _, _]) rfl ⟨rfl, ((Below.refl _ w).alloc (Nat.le_refl _) _).alloc (by simp) _⟩
open Classical in
set_option maxRecDepth 100000 in
set_option maxHeartbeats 4000000 in
theorem unlike_any (c : Cl) (w : World) : Calls Try.prog 69 #[c.val] w fun e w' => e = .returned (.bool (unlikeB c)) ∧ ∃ q os, w' = Sort.grow (w.drewN q) os := by
  have HG : Hid (∃ q os, w.alloc (.cells (cCl c).toArray 75) = Sort.grow (w.drewN q) os) := hide ⟨0, #[.cells (cCl c).toArray 75], by rw [Sort.alloc_eq_grow]; rfl⟩
  simp only [Cl.val]
  have hgd : Try.prog.eqGuardType Try.prog.depth 73 = false := by kernel_rfl
  have e1 := neqSd c.b.b c.c.b c.b.v c.c.v
  have e2 := neqSd c.b.b c.a.b c.b.v c.a.v
  have e3 := neqSd c.c.b c.a.b c.c.v c.a.v
  by_cases h1 : c.b = c.c
  · have HU : Hid (unlikeB c = false) := hide (by simp [unlikeB, h1])
    rw [decide_eq_true ((Si.eq_iff _ _).2 h1)] at e1
    clear h1
    go_enter Try.func69, Try.ntmps69
    go_wp2
    go_ret
    exact ⟨by rw [HU.out]; rfl, HG.out⟩
  · rw [decide_eq_false (fun q => h1 ((Si.eq_iff _ _).1 q))] at e1
    by_cases h2 : c.b = c.a
    · have HU : Hid (unlikeB c = false) := hide (by simp [unlikeB, h2])
      rw [decide_eq_true ((Si.eq_iff _ _).2 h2)] at e2
      clear h1 h2
      go_enter Try.func69, Try.ntmps69
      go_wp2
      go_ret
      exact ⟨by rw [HU.out]; rfl, HG.out⟩
    · rw [decide_eq_false (fun q => h2 ((Si.eq_iff _ _).1 q))] at e2
      by_cases h3 : c.c = c.a
      · have HU : Hid (unlikeB c = false) := hide (by simp [unlikeB, h3])
        rw [decide_eq_true ((Si.eq_iff _ _).2 h3)] at e3
        clear h1 h2 h3
        go_enter Try.func69, Try.ntmps69
        go_wp2
        go_ret
        exact ⟨by rw [HU.out]; rfl, HG.out⟩
      · have HU : Hid (unlikeB c = true) := hide (by simp [unlikeB, h1, h2, h3])
        rw [decide_eq_false (fun q => h3 ((Si.eq_iff _ _).1 q))] at e3
        clear h1 h2 h3
        go_enter Try.func69, Try.ntmps69
        go_wp2
        go_ret
        exact ⟨by rw [HU.out]; rfl, HG.out⟩
set_option maxRecDepth 100000 in
set_option maxHeartbeats 4000000 in
theorem texts_any (c : Cl) (w : World) (hs : c.k.size ≤ maxLen ∧ c.a.v.size ≤ maxLen ∧ c.b.v.size ≤ maxLen ∧ c.c.v.size ≤ maxLen) : Calls Try.prog 68 #[c.val] w fun e w' => e = .returned (.int .i64 (clT c)) ∧ Below w.heap.size w w' := by
  unfold maxLen at hs
  obtain ⟨W0, hW0⟩ : ∃ W0, W0 = w.alloc (.cells #[.string c.k, .bool c.a.b, .string c.a.v, .bool c.b.b, .string c.b.v, .bool c.c.b, .string c.c.v] 75) := ⟨_, rfl⟩
  have B0 : Below w.heap.size w W0 := by rw [hW0]; exact (Below.refl _ w).alloc (Nat.le_refl _) _
  have HB0 := hide B0
  have HC1 := hide (key_any c.k W0 (by omega))
  have HC2 := hide (sides_any c W0)
  have HV : Hid (∀ (v : ByteArray) (W : World), v.size ≤ 9223372036854775807 → Calls Try.prog 79 #[.string v] W fun e w' => e = .returned (.int .i64 (valE v)) ∧ W = w') := hide (fun v W h => val_any v W h)
  simp only [Cl.val] at HC2 ⊢
  obtain ⟨T, hT⟩ : ∃ T, T = clT c := ⟨_, rfl⟩
  rw [← hT]
  unfold clT at hT
  by_cases hk : keyE c.k = 0
  · rw [if_neg (by simp [hk])] at hT
    have HT := hide hT
    rw [hk] at HC1
    rw [hW0] at HC1
    clear hT B0 hk
    go_enter Try.func68, Try.ntmps68
    go_wp2_with fail
    refine HC1.out.mono ?_
    rintro e w1 ⟨rfl, rfl⟩
    rw [hW0] at HC2
    go_wp2_with fail
    refine HC2.out.mono ?_
    rintro e w2 ⟨rfl, u2⟩
    rw [← hW0] at u2
    have HU2 := hide (HB0.out.trans (u2.mono HB0.out.size))
    clear u2 HC1 HC2 hW0 HB0
    go_wp2
    go_loopw [15] (fun i wr => ∃ j : Nat, j ≤ 3 ∧ i = .int .i64 j ∧ Hid (∀ i, i < j → sdOk (c.at i) = true) ∧ Hid (Below w.heap.size w wr)) (fun i _ => 3 - (intOf i).toNat)
    case atStart => exact ⟨0, by omega, rfl, hide (fun i hi => absurd hi (by omega)), HU2⟩
    case round =>
      obtain ⟨j, hj, rfl, HJ, HB⟩ := hrel
      have step : ∀ s : Si, c.at j = s → j < 3 → sdOk s = true → Hid (∀ i, i < j + 1 → sdOk (c.at i) = true) := fun s h1 h2 h3 => hide (fun i hi => by
        by_cases q : i < j
        · exact HJ.out i q
        · obtain rfl : i = j := by omega
          rw [h1]
          exact h3)
      have HST := hide step
      clear step
      match j, hj with
      | 0, _ =>
        have hsv : c.a.v.size ≤ 9223372036854775807 := by omega
        have hat : c.at 0 = c.a := rfl
        have ix := idx0 c.a.b c.b.b c.c.b c.a.v c.b.v c.c.v
        have HBA := hide (HB.out.alloc HB.out.size (.cells #[.bool c.a.b, .string c.a.v] 73))
        have HCV := hide (HV.out c.a.v (wr.alloc (.cells #[.bool c.a.b, .string c.a.v] 73)) hsv)
        by_cases hv : c.a.v.size ≤ 200
        · have hv0 : valE c.a.v = 0 := by unfold valE; rw [if_neg (by omega)]
          rw [hv0] at HCV
          cases hb : c.a.b with
          | true =>
            rw [hb] at HBA HCV ix
            have HJ2 := HST.out c.a hat (by omega) (by simp [sdOk, hv, hb])
            clear hv0 hv hat
            go_wp2_with fail
            refine HCV.out.mono ?_
            rintro e w3 ⟨rfl, rfl⟩
            go_wp2
            go_roundw
            case rel => exact ⟨1, by omega, rfl, HJ2, HBA⟩
            case measure => simp [intOf]
          | false =>
            rw [hb] at HBA HCV ix
            by_cases h0 : c.a.v.size = 0
            · have n1 := str_nil h0
              have n2 : c.a.v.toList.isEmpty = true := by rw [n1]; rfl
              have HJ2 := HST.out c.a hat (by omega) (by simp [sdOk, h0])
              clear hv0 hv hat h0
              go_wp2_with fail
              refine HCV.out.mono ?_
              rintro e w3 ⟨rfl, rfl⟩
              go_wp2
              go_roundw
              case rel => exact ⟨1, by omega, rfl, HJ2, HBA⟩
              case measure => simp [intOf]
            · have n1 := str_some h0
              have n2 : c.a.v.toList.isEmpty = false := by cases q : c.a.v.toList with
                | nil => exact absurd q n1
                | cons _ _ => rfl
              have HE : Hid (T = 101) := hide (by rw [HT.out, if_neg]; rw [bad_side (j := 0) (by rw [hat]; simp [sdOk, h0, hb])]; simp)
              clear hv0 hv hat h0
              go_wp2_with fail
              refine HCV.out.mono ?_
              rintro e w3 ⟨rfl, rfl⟩
              go_wp2
              go_ret
              exact ⟨by rw [HE.out]; rfl, HBA.out⟩
        · have hv0 : valE c.a.v = 101 := by unfold valE; rw [if_pos (by omega)]
          rw [hv0] at HCV
          have HE : Hid (T = 101) := hide (by rw [HT.out, if_neg]; rw [bad_side (j := 0) (by rw [hat]; simp [sdOk, hv])]; simp)
          clear hv0 hv hat
          go_wp2_with fail
          refine HCV.out.mono ?_
          rintro e w3 ⟨rfl, rfl⟩
          go_wp2
          go_ret
          exact ⟨by rw [HE.out]; rfl, HBA.out⟩
      | 1, _ =>
        have hsv : c.b.v.size ≤ 9223372036854775807 := by omega
        have hat : c.at 1 = c.b := rfl
        have ix := idx1 c.a.b c.b.b c.c.b c.a.v c.b.v c.c.v
        have HBA := hide (HB.out.alloc HB.out.size (.cells #[.bool c.b.b, .string c.b.v] 73))
        have HCV := hide (HV.out c.b.v (wr.alloc (.cells #[.bool c.b.b, .string c.b.v] 73)) hsv)
        by_cases hv : c.b.v.size ≤ 200
        · have hv0 : valE c.b.v = 0 := by unfold valE; rw [if_neg (by omega)]
          rw [hv0] at HCV
          cases hb : c.b.b with
          | true =>
            rw [hb] at HBA HCV ix
            have HJ2 := HST.out c.b hat (by omega) (by simp [sdOk, hv, hb])
            clear hv0 hv hat
            go_wp2_with fail
            refine HCV.out.mono ?_
            rintro e w3 ⟨rfl, rfl⟩
            go_wp2
            go_roundw
            case rel => exact ⟨2, by omega, rfl, HJ2, HBA⟩
            case measure => simp [intOf]
          | false =>
            rw [hb] at HBA HCV ix
            by_cases h0 : c.b.v.size = 0
            · have n1 := str_nil h0
              have n2 : c.b.v.toList.isEmpty = true := by rw [n1]; rfl
              have HJ2 := HST.out c.b hat (by omega) (by simp [sdOk, h0])
              clear hv0 hv hat h0
              go_wp2_with fail
              refine HCV.out.mono ?_
              rintro e w3 ⟨rfl, rfl⟩
              go_wp2
              go_roundw
              case rel => exact ⟨2, by omega, rfl, HJ2, HBA⟩
              case measure => simp [intOf]
            · have n1 := str_some h0
              have n2 : c.b.v.toList.isEmpty = false := by cases q : c.b.v.toList with
                | nil => exact absurd q n1
                | cons _ _ => rfl
              have HE : Hid (T = 101) := hide (by rw [HT.out, if_neg]; rw [bad_side (j := 1) (by rw [hat]; simp [sdOk, h0, hb])]; simp)
              clear hv0 hv hat h0
              go_wp2_with fail
              refine HCV.out.mono ?_
              rintro e w3 ⟨rfl, rfl⟩
              go_wp2
              go_ret
              exact ⟨by rw [HE.out]; rfl, HBA.out⟩
        · have hv0 : valE c.b.v = 101 := by unfold valE; rw [if_pos (by omega)]
          rw [hv0] at HCV
          have HE : Hid (T = 101) := hide (by rw [HT.out, if_neg]; rw [bad_side (j := 1) (by rw [hat]; simp [sdOk, hv])]; simp)
          clear hv0 hv hat
          go_wp2_with fail
          refine HCV.out.mono ?_
          rintro e w3 ⟨rfl, rfl⟩
          go_wp2
          go_ret
          exact ⟨by rw [HE.out]; rfl, HBA.out⟩
      | 2, _ =>
        have hsv : c.c.v.size ≤ 9223372036854775807 := by omega
        have hat : c.at 2 = c.c := rfl
        have ix := idx2 c.a.b c.b.b c.c.b c.a.v c.b.v c.c.v
        have HBA := hide (HB.out.alloc HB.out.size (.cells #[.bool c.c.b, .string c.c.v] 73))
        have HCV := hide (HV.out c.c.v (wr.alloc (.cells #[.bool c.c.b, .string c.c.v] 73)) hsv)
        by_cases hv : c.c.v.size ≤ 200
        · have hv0 : valE c.c.v = 0 := by unfold valE; rw [if_neg (by omega)]
          rw [hv0] at HCV
          cases hb : c.c.b with
          | true =>
            rw [hb] at HBA HCV ix
            have HJ2 := HST.out c.c hat (by omega) (by simp [sdOk, hv, hb])
            clear hv0 hv hat
            go_wp2_with fail
            refine HCV.out.mono ?_
            rintro e w3 ⟨rfl, rfl⟩
            go_wp2
            go_roundw
            case rel => exact ⟨3, by omega, rfl, HJ2, HBA⟩
            case measure => simp [intOf]
          | false =>
            rw [hb] at HBA HCV ix
            by_cases h0 : c.c.v.size = 0
            · have n1 := str_nil h0
              have n2 : c.c.v.toList.isEmpty = true := by rw [n1]; rfl
              have HJ2 := HST.out c.c hat (by omega) (by simp [sdOk, h0])
              clear hv0 hv hat h0
              go_wp2_with fail
              refine HCV.out.mono ?_
              rintro e w3 ⟨rfl, rfl⟩
              go_wp2
              go_roundw
              case rel => exact ⟨3, by omega, rfl, HJ2, HBA⟩
              case measure => simp [intOf]
            · have n1 := str_some h0
              have n2 : c.c.v.toList.isEmpty = false := by cases q : c.c.v.toList with
                | nil => exact absurd q n1
                | cons _ _ => rfl
              have HE : Hid (T = 101) := hide (by rw [HT.out, if_neg]; rw [bad_side (j := 2) (by rw [hat]; simp [sdOk, h0, hb])]; simp)
              clear hv0 hv hat h0
              go_wp2_with fail
              refine HCV.out.mono ?_
              rintro e w3 ⟨rfl, rfl⟩
              go_wp2
              go_ret
              exact ⟨by rw [HE.out]; rfl, HBA.out⟩
        · have hv0 : valE c.c.v = 101 := by unfold valE; rw [if_pos (by omega)]
          rw [hv0] at HCV
          have HE : Hid (T = 101) := hide (by rw [HT.out, if_neg]; rw [bad_side (j := 2) (by rw [hat]; simp [sdOk, hv])]; simp)
          clear hv0 hv hat
          go_wp2_with fail
          refine HCV.out.mono ?_
          rintro e w3 ⟨rfl, rfl⟩
          go_wp2
          go_ret
          exact ⟨by rw [HE.out]; rfl, HBA.out⟩
      | 3, _ =>
        have HE : Hid (T = 0) := hide (by
          have h0 := HJ.out 0 (by omega)
          have h1 := HJ.out 1 (by omega)
          have h2 := HJ.out 2 (by omega)
          simp only [Cl.at] at h0 h1 h2
          rw [HT.out, if_pos]
          rw [h0, h1, h2]
          rfl)
        go_wp2
        go_ret
        exact ⟨by rw [HE.out]; rfl, HB.out⟩
  · have hk1 : keyE c.k = 100 := by
      unfold keyE at hk ⊢
      split
      · rfl
      · rename_i q
        rw [if_neg q] at hk
        exact absurd rfl hk
    rw [if_pos (by rw [hk1]; decide)] at hT
    have HT := hide hT
    rw [hk1, hW0] at HC1
    clear hT B0 hk hk1
    rw [hW0] at HB0
    go_enter Try.func68, Try.ntmps68
    go_wp2_with fail
    refine HC1.out.mono ?_
    rintro e w1 ⟨rfl, rfl⟩
    clear hW0
    go_wp2
    go_ret
    exact ⟨by rw [HT.out]; rfl, HB0.out⟩
end Go.Proofs.Ytgjhmpmjbedjoaa
