/- What the methods of the document's own reader do, over the translation. -/
import Derived.Test.YtgjhmpmjbedjoaaQKRe
import Derived.Test.YtgjhmpmjbedjoaaQCLb
namespace Go.Proofs.Ytgjhmpmjbedjoaa
open Go.RowKit Apo

set_option maxRecDepth 100000 in
theorem xfail_any (p g : Nat) (c0 c1 : Value) (w : World) (h : Ob w p 83 [c0, c1]) :
    Calls Try.prog 66 #[.pointer (some ⟨p, 0, none⟩)] w fun e w' => e = .returned (.tuple #[]) ∧ Rr w' p 83 g none ∧ w.grownBy w' (some p) := by
  have k0 := h.cell 0
  have k1 := h.cell 1
  have f0 := h.frozen 0
  have f1 := h.frozen 1
  simp only [List.getElem?_cons_zero, List.getElem?_cons_succ] at k0 k1
  have HR : Hid (Rr ((w.setCell ⟨p, 0, none⟩ (.slice none 0 0)).setCell ⟨p, 1, none⟩ (.bool true)) p 83 g none) := (h.set 0 (.slice none 0 0)).set 1 (.bool true)
  have HG := hide (grew_trans (grew_set w p 0 (.slice none 0 0)) (grew_set _ p 1 (.bool true)))
  clear h
  go_enter Try.func66, Try.ntmps66
  go_wp2
  go_returns
  exact ⟨rfl, HR, HG⟩

set_option maxRecDepth 100000 in
set_option maxHeartbeats 1000000 in
theorem xnum_any (p g : Nat) (st : St) (most : Int) (w : World) (h : Rr w p 83 g st) :
    Calls Try.prog 45 #[.pointer (some ⟨p, 0, none⟩), .int .u64 most] w fun e w' => e = .returned (.int .u64 (rnum st most).1) ∧ Rr w' p 83 g (rnum st most).2 ∧ w.grownBy w' (some p) := by
  have hfail : ∀ c0 c1 w1, Ob w p 83 [c0, c1] → Below w.heap.size w w1 → (Calls Try.prog 66 #[.pointer (some ⟨p, 0, none⟩)] w1 fun e w' => e = .returned (.tuple #[]) ∧ Rr w' p 83 g none ∧ w.grownBy w' (some p)) := fun c0 c1 w1 hh hb => (xfail_any p g c0 c1 w1 (hh.old hb)).mono (fun e w' ⟨e1, e2, e3⟩ => ⟨e1, e2, grew_trans (grew_below _ hb) e3⟩)
  cases st with
  | none =>
    have hno : NoNum [] := by
      intro n r _ e
      have := congrArg List.length e
      have := enc_len n
      simp at *
      omega
    have HF := hide (fun w1 => hfail _ _ w1 h)
    have c0 := Ob.cell h 0
    have hp := Ob.lt h
    have H := hide (fun w1 hb => Ob.cell (Ob.old (w' := w1) h hb) 1)
    simp only [List.getElem?_cons_zero] at c0
    have HC := hide (leb_no none 0 [] w (Rd.nil _ _ _) (by simp) (by simp) (by intro z hz; simp at hz) hno)
    clear hfail h
    go_enter Try.func45, Try.ntmps45
    go_wp2_with fail
    refine HC.out.mono ?_
    rintro e w1 ⟨rfl, hb1⟩
    have c1 := H.out w1 hb1
    simp only [List.getElem?_cons_zero, List.getElem?_cons_succ] at c1
    have HF1 := hide (HF.out w1 hb1)
    clear HF H HC
    go_wp2_with fail
    refine HF1.out.mono ?_
    rintro e w2 ⟨rfl, r1, r2⟩
    go_wp2
    go_ret
    exact ⟨rfl, r1, r2⟩
  | some l =>
    obtain ⟨a, cap, k1, k2, k3, k4, k5, k6, k7⟩ := h
    have c0 := Ob.cell k1 0
    have hp := Ob.lt k1
    have H0 := hide (fun w1 hb => Ob.cell (Ob.old (w' := w1) k1 hb) 0)
    have H1 := hide (fun w1 hb => Ob.cell (Ob.old (w' := w1) k1 hb) 1)
    have HF := hide (fun w1 => hfail _ _ w1 k1)
    simp only [List.getElem?_cons_zero] at c0
    rcases num1_cases l with ⟨n, r, g1, g2, g3⟩ | ⟨g2, g3⟩
    · have hel := enc_len n
      have hnt : (n : Int) ≤ 18446744073709551615 := by unfold top at g1; omega
      have HC := hide (leb_yes a cap l n r w k2 k3 g1 g2)
      by_cases hm : (n : Int) ≤ most
      · have HV : Hid (rnum (some l) most = ((n : Int), some r)) := by show _ = _; simp [rnum, g3, hm]
        have hll : l.length = (enc n).length + r.length := by rw [g2, List.length_append]
        obtain ⟨b, off, rfl, _⟩ := k2 0 (by omega)
        have K1 := hide k1
        have K2 := hide k2
        have K5 := hide k5
        have K6 := hide k6
        have hR : Hid (l.drop (enc n).length = r) := by show _ = _; rw [g2, List.drop_left]
        have hql : (enc n).length ≤ l.length := by omega
        clear hfail HF hll k1 k2 k4 k5 k6 g2 g3
        generalize (enc n).length = q at *
        go_enter Try.func45, Try.ntmps45
        go_wp2_with fail
        refine HC.out.mono ?_
        rintro e w1 ⟨rfl, hb1⟩
        have d0 := H0.out w1 hb1
        have d1 := H1.out w1 hb1
        have f0 := Ob.frozen (K1.out.old hb1) 0
        simp only [List.getElem?_cons_zero, List.getElem?_cons_succ] at d0 d1
        have K1' := hide (K1.out.old hb1)
        have K2' := hide (K2.out.below hb1)
        have K5' : Hid (∀ x, some (⟨b, off, none⟩ : Addr) = some x → 0 < l.length → x.block = g ∧ x.block ≠ p ∧ x.block < w1.heap.size) := fun x hx h0 => ⟨(K5.out x hx h0).1, (K5.out x hx h0).2.1, Nat.lt_of_lt_of_le (K5.out x hx h0).2.2 hb1.size⟩
        have HB := hide hb1
        clear HC H0 H1 K1 K2 K5 hb1
        go_wp2
        rotate_left
        · go_ret
          rw [HV.out]
          refine ⟨rfl, ?_, grew_trans (grew_below _ HB.out) (grew_set _ _ _ _)⟩
          have := Rr.drop (k := q) (a := ⟨b, off + q, none⟩) (c := cap - q) K1'.out K2'.out K5'.out K6.out k7 hql (Or.inl rfl) (by omega)
          rw [hR.out] at this
          exact this
        · go_ret
          rw [HV.out]
          refine ⟨rfl, ?_, grew_trans (grew_below _ HB.out) (grew_set _ _ _ _)⟩
          have := Rr.drop (k := q) (a := ⟨b, off, none⟩) (c := 0) K1'.out K2'.out K5'.out K6.out k7 hql (Or.inr ⟨by omega, rfl⟩) (by omega)
          rw [hR.out] at this
          exact this
      · have HV : Hid (rnum (some l) most = (0, none)) := by show _ = _; simp [rnum, g3, hm]
        clear hfail k1 k2 k4 k5 k6 g2 g3
        generalize (enc n).length = q at *
        go_enter Try.func45, Try.ntmps45
        go_wp2_with fail
        refine HC.out.mono ?_
        rintro e w1 ⟨rfl, hb1⟩
        have d1 := H1.out w1 hb1
        have HF1 := hide (HF.out w1 hb1)
        simp only [List.getElem?_cons_zero, List.getElem?_cons_succ] at d1
        clear HC H0 H1 HF
        go_wp2_with fail
        refine HF1.out.mono ?_
        rintro e w2 ⟨rfl, r1, r2⟩
        go_wp2
        go_ret
        rw [HV.out]
        exact ⟨rfl, r1, r2⟩
    · have HC := hide (leb_no a cap l w k2 k3 k7 k6 g2)
      have HV : Hid (rnum (some l) most = (0, none)) := by show _ = _; simp [rnum, g3]
      clear hfail k1 k2 k4 k5 k6 g2 g3
      go_enter Try.func45, Try.ntmps45
      go_wp2_with fail
      refine HC.out.mono ?_
      rintro e w1 ⟨rfl, hb1⟩
      have d1 := H1.out w1 hb1
      have HF1 := hide (HF.out w1 hb1)
      simp only [List.getElem?_cons_zero, List.getElem?_cons_succ] at d1
      clear HC H0 H1 HF
      go_wp2_with fail
      refine HF1.out.mono ?_
      rintro e w2 ⟨rfl, r1, r2⟩
      go_wp2
      go_ret
      rw [HV.out]
      exact ⟨rfl, r1, r2⟩

set_option maxRecDepth 100000 in
theorem xflag_any (p g : Nat) (st : St) (w : World) (h : Rr w p 83 g st) :
    Calls Try.prog 46 #[.pointer (some ⟨p, 0, none⟩)] w fun e w' => e = .returned (.bool (rflag st).1) ∧ Rr w' p 83 g (rflag st).2 ∧ w.grownBy w' (some p) := by
  have HC := hide (xnum_any p g st 1 w h)
  clear h
  go_enter Try.func46, Try.ntmps46
  go_wp2_with fail
  refine HC.out.mono ?_
  rintro e w1 ⟨rfl, r1, r2⟩
  have R1 := hide r1
  have R2 := hide r2
  clear r1 r2
  go_wp2
  go_ret
  exact ⟨rfl, R1, R2⟩

set_option maxRecDepth 100000 in
theorem xdone_any (p g : Nat) (st : St) (w : World) (h : Rr w p 83 g st) :
    Calls Try.prog 48 #[.pointer (some ⟨p, 0, none⟩)] w fun e w' => e = .returned (.bool (decide (st = some []))) ∧ w = w' := by
  obtain ⟨a, cap, ho⟩ := left_of h
  have c0 := ho.cell 0
  have c1 := ho.cell 1
  simp only [List.getElem?_cons_zero, List.getElem?_cons_succ] at c0 c1
  clear h ho
  cases st with
  | none =>
    go_enter Try.func48, Try.ntmps48
    go_wp2
    go_ret
    exact ⟨rfl, rfl⟩
  | some l =>
    simp only [Option.isNone_some, Option.getD_some] at c0 c1
    go_enter Try.func48, Try.ntmps48
    go_wp2
    go_ret
    refine ⟨?_, rfl⟩
    cases l <;> simp
    omega

set_option maxRecDepth 100000 in
set_option maxHeartbeats 1000000 in
theorem xtext_any (p g : Nat) (st : St) (most : Int) (w : World) (h : Rr w p 83 g st) (h1 : most ≤ 9223372036854775807) :
    Calls Try.prog 44 #[.pointer (some ⟨p, 0, none⟩), .int .i64 most] w fun e w' => e = .returned (.string (strOfNums (rtext st most).1)) ∧ Rr w' p 83 g (rtext st most).2 ∧ w.grownBy w' (some p) := by
  by_cases hm : most < 0
  · obtain ⟨c0, c1, ho⟩ := h.ob
    have HF := hide (xfail_any p g c0 c1 w ho)
    have HV : Hid (rtext st most = ([], none)) := by show _ = _; simp [rtext, hm]
    clear h ho
    go_enter Try.func44, Try.ntmps44
    go_wp2_with fail
    refine HF.out.mono ?_
    rintro e w2 ⟨rfl, r1, r2⟩
    go_wp2
    go_ret
    rw [HV.out]
    exact ⟨rfl, r1, r2⟩
  · have HC := hide (xnum_any p g st most w h)
    have hmt : most.toNat = most := by omega
    have hm0 : 0 ≤ most := by omega
    clear h
    rcases hv : rnum st most with ⟨n, _ | r⟩
    · have hn := rnum_bad hv
      subst hn
      have HV : Hid (rtext st most = ([], none)) := by show _ = _; simp [rtext, hm, hv]
      rw [hv] at HC
      clear hv hmt
      go_enter Try.func44, Try.ntmps44
      go_wp2_with fail
      refine HC.out.mono ?_
      rintro e w1 ⟨rfl, r1, r2⟩
      have c1 := Ob.cell r1 1
      simp only [List.getElem?_cons_zero, List.getElem?_cons_succ] at c1
      have HF := hide (xfail_any p g _ _ w1 r1)
      have R2 := hide r2
      clear HC r1 r2
      go_wp2_with fail
      refine HF.out.mono ?_
      rintro e w2 ⟨rfl, r3, r4⟩
      go_wp2
      go_ret
      rw [HV.out]
      exact ⟨rfl, r3, grew_trans R2.out r4⟩
    · have hn := rnum_le hv
      rw [hv] at HC
      by_cases hnr : n ≤ r.length
      · have HV : Hid (rtext st most = (r.take n.toNat, some (r.drop n.toNat))) := by show _ = _; simp [rtext, hm, hv, hnr]
        clear hv hmt
        obtain ⟨k, rfl⟩ := Int.eq_ofNat_of_zero_le hn.1
        simp only [Int.toNat_natCast] at HV
        have hkr : k ≤ r.length := by omega
        by_cases hr0 : r.length = 0
        · have hr1 : r = [] := List.eq_nil_of_length_eq_zero hr0
          have hk0 : k = 0 := by omega
          subst hr1 hk0
          clear hr0 hnr hkr
          go_enter Try.func44, Try.ntmps44
          go_wp2_with fail
          refine HC.out.mono ?_
          rintro e w1 ⟨rfl, ⟨a, cap, k1, k2, k3, k4, k5, k6, k7⟩, r2⟩
          have c0 := Ob.cell k1 0
          have c1 := Ob.cell k1 1
          have f0 := Ob.frozen k1 0
          simp only [List.getElem?_cons_zero, List.getElem?_cons_succ, List.length_nil] at c0 c1
          have cv := (Rd.nil .u8 w1 a).conv 30 5 9 Try.underlying30 Try.underlying5 Try.underlying9
          simp only [List.length_nil] at cv
          have K1 := hide k1
          have K4 := hide k4
          have K5 := hide k5
          have R2 := hide r2
          clear HC k1 k2 k4 k5 k6 k7 r2
          cases a with
          | none =>
            have hcap := K4.out rfl
            subst hcap
            go_wp2
            go_ret
            rw [HV.out]
            exact ⟨rfl, Rr.again K1.out (by simp), grew_trans R2.out (grew_set _ _ _ _)⟩
          | some x =>
            go_wp2
            go_ret
            rw [HV.out]
            exact ⟨rfl, Rr.again K1.out (by simp), grew_trans R2.out (grew_set _ _ _ _)⟩
        · clear hnr
          go_enter Try.func44, Try.ntmps44
          go_wp2_with fail
          refine HC.out.mono ?_
          rintro e w1 ⟨rfl, ⟨a, cap, k1, k2, k3, k4, k5, k6, k7⟩, r2⟩
          obtain ⟨b, off, rfl, _⟩ := k2 0 (by omega)
          have c0 := Ob.cell k1 0
          have c1 := Ob.cell k1 1
          have f0 := Ob.frozen k1 0
          simp only [List.getElem?_cons_zero, List.getElem?_cons_succ] at c0 c1
          have cv := (Rd.take k2 k).conv 30 5 9 Try.underlying30 Try.underlying5 Try.underlying9
          simp only [List.length_take, Nat.min_eq_left hkr] at cv
          have K1 := hide k1
          have K2 := hide k2
          have K5 := hide k5
          have K6 := hide k6
          have R2 := hide r2
          have hkc : k ≤ cap := by omega
          clear HC k1 k2 k4 k5 k6 r2
          go_wp2
          rotate_left
          · go_ret
            rw [HV.out]
            refine ⟨rfl, ?_, grew_trans R2.out (grew_set _ _ _ _)⟩
            exact Rr.drop (k := k) (a := ⟨b, off + k, none⟩) (c := cap - k) K1.out K2.out K5.out K6.out k7 hkr (Or.inl rfl) (by omega)
          · go_ret
            rw [HV.out]
            refine ⟨rfl, ?_, grew_trans R2.out (grew_set _ _ _ _)⟩
            exact Rr.drop (k := k) (a := ⟨b, off, none⟩) (c := 0) K1.out K2.out K5.out K6.out k7 hkr (Or.inr ⟨by omega, rfl⟩) (by omega)
      · have HV : Hid (rtext st most = ([], none)) := by show _ = _; simp [rtext, hm, hv, hnr]
        clear hv hmt
        obtain ⟨k, rfl⟩ := Int.eq_ofNat_of_zero_le hn.1
        have hkr : r.length < k := by omega
        clear hnr
        go_enter Try.func44, Try.ntmps44
        go_wp2_with fail
        refine HC.out.mono ?_
        rintro e w1 ⟨rfl, ⟨a, cap, k1, k2, k3, k4, k5, k6, k7⟩, r2⟩
        have c0 := Ob.cell k1 0
        have c1 := Ob.cell k1 1
        simp only [List.getElem?_cons_zero, List.getElem?_cons_succ] at c0 c1
        have HF := hide (xfail_any p g _ _ w1 k1)
        have R2 := hide r2
        clear HC k1 k2 k4 k5 k6 r2
        go_wp2_with fail
        refine HF.out.mono ?_
        rintro e w2 ⟨rfl, r3, r4⟩
        go_wp2
        go_ret
        rw [HV.out]
        exact ⟨rfl, r3, grew_trans R2.out r4⟩
end Go.Proofs.Ytgjhmpmjbedjoaa
