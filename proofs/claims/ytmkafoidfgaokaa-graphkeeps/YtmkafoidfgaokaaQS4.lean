/- slices.pdqsortOrdered at 64-bit numbers, over the translation. slices.Sort at 64-bit numbers, over the translation; and of no numbers. -/
import Derived.Deep.Cut
import Derived.Test.YtmkafoidfgaokaaQS1
import Derived.Test.YtmkafoidfgaokaaQUPt
import Derived.Test.YtmkafoidfgaokaaQUPi
import Derived.Test.YtmkafoidfgaokaaQS3
import Derived.Test.YtmkafoidfgaokaaQS2
namespace Go.Proofs.Ytmkafoidfgaokaa
open Go.RowKit Apo
theorem hintN_two {h : Sort.Hint} (e : hintN h = 2) : h = .decreasing := by cases h <;> simp [hintN] at e ⊢
set_option maxRecDepth 100000 in
set_option maxHeartbeats 8000000 in
theorem uq_le : ∀ (N : Nat) (w : World) (g cap : Nat) (d : Array Int) (ex : List Value) (a b limit : Nat), b - a < N → Ro w g d ex → a ≤ b → b ≤ d.size → d.size < 65536 → limit ≤ 1000 → Sort.Below Sort.ltInt a b d →
    Calls Try.prog 69 #[.slice (some ⟨g, 0, none⟩) d.size cap, .int .i64 a, .int .i64 b, .int .i64 limit] w (UsP w g (Sort.pdq Sort.ltInt d a b limit true true) ex) := by
  intro N
  induction N with
  | zero => intro _ _ _ _ _ _ _ _ h; exact absurd h (Nat.not_lt_zero _)
  | succ N ih =>
    intro w g cap d ex a b limit hN h hab hb hn hlm hB
    obtain ⟨n, hnn⟩ : ∃ n, n = d.size := ⟨_, rfl⟩
    obtain ⟨R, hR⟩ : ∃ R, R = Sort.pdq Sort.ltInt d a b limit true true := ⟨_, rfl⟩
    rw [← hR]
    rw [← hnn] at hb hn ⊢
    have HIH := hide ih
    have HR : Hid (Sort.pdq Sort.ltInt d a b limit true true = R) := hide hR.symm
    have HB := hide hB
    have HH := hide h
    have HN := hide hnn
    clear ih hR hB h hnn
    go_enter Try.func69, Try.ntmps69
    go_wp2
    go_loopw [1, 2, 3, 8, 9] (fun va vb vl vB vP wr => ∃ (a1 b1 lim : Nat) (wb wp : Bool) (e : Array Int), va = .int .i64 a1 ∧ vb = .int .i64 b1 ∧ vl = .int .i64 lim ∧ vB = .bool wb ∧ vP = .bool wp ∧ a1 ≤ b1 ∧ b1 ≤ n ∧ b1 - a1 ≤ N ∧ lim ≤ limit ∧ Hid (e.size = n) ∧ Hid (Sort.Below Sort.ltInt a1 b1 e) ∧ Hid (Sort.pdq Sort.ltInt e a1 b1 lim wb wp = R) ∧ Hid (Ro wr g e ex) ∧ Hid (w.grownBy wr (some g))) (fun va vb _ _ _ _ => (intOf vb - intOf va).toNat)
    case atStart => exact ⟨a, b, limit, true, true, d, rfl, rfl, rfl, rfl, rfl, hab, hb, by omega, Nat.le_refl _, hide HN.out.symm, HB, HR, HH, hide (World.grownBy.refl _ _)⟩
    case round =>
      clear HB HR HH HN hab hb hN
      obtain ⟨a1, b1, lim, wb, wp, e, rfl, rfl, rfl, rfl, rfl, hq1, hq2, hq3, hq4, HS, HB, HL, HO, HG⟩ := hrel
      have hes := HS.out
      obtain ⟨L, hL⟩ : ∃ L, L = b1 - a1 := ⟨_, rfl⟩
      have m1 : (b1 : Int) - (a1 : Int) = (L : Int) := by omega
      have m2 := wrap_natU (k := L) (by omega)
      have HLB := hide hL
      clear hL
      by_cases h12 : L ≤ 12
      · have d1 : decide ((L : Int) ≤ 12) = true := by simp; omega
        have d2 : decide (L ≤ 12) = true := by simp; omega
        have HC : Hid (Calls Try.prog 71 #[.slice (some ⟨g, 0, none⟩) n cap, .int .i64 a1, .int .i64 b1] wr (UsP wr g R ex)) := hide (by
          rw [← HL.out, Sort.pdq_small (by omega), ← hes]
          exact uins_any wr g cap e ex HO.out a1 b1 hq1 (by omega) (by omega))
        clear hes HL HB
        go_wp2_with fail
        refine HC.out.mono ?_
        rintro en w1 ⟨rfl, r1, g1⟩
        have HO1 := hide r1
        have HG1 := hide (grew_trans HG.out g1)
        clear r1 g1 HC
        go_wp2
        go_returns
        exact ⟨rfl, HO1.out, HG1.out⟩
      · have d1 : decide ((L : Int) ≤ 12) = false := by simp; omega
        have d2 : decide (L ≤ 12) = false := by simp; omega
        by_cases hl0 : lim = 0
        · have g1 : ((lim : Int) == 0) = true := by rw [beq_iff_eq]; omega
          have g2 : (lim == 0) = true := by rw [beq_iff_eq]; omega
          have HC : Hid (Calls Try.prog 72 #[.slice (some ⟨g, 0, none⟩) n cap, .int .i64 a1, .int .i64 b1] wr (UsP wr g R ex)) := hide (by
            rw [← HL.out, Sort.pdq_heap (by omega) hl0, ← hes]
            exact uheap_any wr g cap e ex HO.out a1 b1 (by omega) (by omega) (by omega))
          clear hes HL HB
          go_wp2_with fail
          refine HC.out.mono ?_
          rintro en w1 ⟨rfl, r1, g1⟩
          have HO1 := hide r1
          have HG1 := hide (grew_trans HG.out g1)
          clear r1 g1 HC
          go_wp2
          go_returns
          exact ⟨rfl, HO1.out, HG1.out⟩
        · have g1 : ((lim : Int) == 0) = false := by rw [beq_eq_false_iff_ne]; omega
          have g2 : (lim == 0) = false := by rw [beq_eq_false_iff_ne]; omega
          obtain ⟨D1, lm, c1, c2, D2, pv, hint, D3, pd, F⟩ := rd_all wb wp (by omega) hl0 (by omega) HB.out HL.out
          have HF := hide F
          have rc := F.rc
          have rp := F.rp
          have lle := F.lle
          have hba : a1 + 12 < b1 := by omega
          clear F HL HB
          go_upto_if 35 with fail
          go_cut [3] from 19 (fun s3 wc => s3 = .int .i64 lm ∧ Hid (Ro wc g D1 ex) ∧ Hid (w.grownBy wc (some g)))
          case first =>
            cases wb
            · have HC : Hid (Calls Try.prog 73 #[.slice (some ⟨g, 0, none⟩) n cap, .int .i64 a1, .int .i64 b1] wr (UsP wr g D1 ex)) := hide (by
                rw [(HF.out.d1F rfl).1, ← hes]
                exact ubreak_any wr g cap e ex HO.out a1 b1 (by omega) (by omega) (by omega))
              have e1 : (lim : Int) - 1 = (lm : Int) := by have := (HF.out.d1F rfl).2; omega
              clear hes
              go_wp2_with fail
              refine HC.out.mono ?_
              rintro en w1 ⟨rfl, r1, g1'⟩
              have HO1 := hide r1
              have HG1 := hide (grew_trans HG.out g1')
              clear r1 g1' HC
              go_wp2
              go_meet
              case rel => exact ⟨by simp, HO1, HG1⟩
            · have e1 := (HF.out.d1T rfl).1
              have e2 := (HF.out.d1T rfl).2
              subst e1 e2
              clear hes
              go_wp2
              go_meet
              case rel => exact ⟨rfl, HO, HG⟩
          case rest =>
            obtain ⟨rfl, HO1, HG1⟩ := hcut
            clear HO HG
            obtain ⟨hv, hhv⟩ : ∃ hv : Int, hv = hintN hint := ⟨_, rfl⟩
            obtain ⟨cv, hcv⟩ : ∃ cv : Int, cv = hintN c2 := ⟨_, rfl⟩
            have HC : Hid (Calls Try.prog 74 #[.slice (some ⟨g, 0, none⟩) n cap, .int .i64 a1, .int .i64 b1] wc (fun e w' => e = .returned (.tuple #[.int .i64 c1, .int .i64 cv]) ∧ Ro w' g D1 ex ∧ Below wc.heap.size wc w')) := hide (by
              have q := uchoose_any wc g cap D1 ex HO1.out a1 b1 (by omega) (by rw [HF.out.s1]; omega) (by rw [HF.out.s1]; omega)
              rw [HF.out.s1, hes] at q
              rw [show Sort.choosePivot lti D1 a1 b1 = (c1, c2) from HF.out.ch] at q
              rw [hcv]
              exact q)
            have HHV := hide hhv
            have HCV := hide hcv
            have HES := hide hes
            clear hhv hcv hes
            go_upto_if 50 with fail
            refine HC.out.mono ?_
            rintro en w2 ⟨rfl, r1, b1'⟩
            have HO2 := hide r1
            have HG2 := hide (grew_trans HG1.out (grew_below _ b1'))
            clear r1 b1' HC HO1 HG1
            go_upto_if 50 with fail
            go_cut [11, 12] from 19 (fun s11 s12 wc => s11 = .int .i64 pv ∧ s12 = .int .i64 hv ∧ Hid (Ro wc g D2 ex) ∧ Hid (w.grownBy wc (some g)))
            case first =>
              by_cases hh : c2 = .decreasing
              · have c2v : (cv == 2) = true := by rw [HCV.out, hh]; rfl
                obtain ⟨e2, epv, eht⟩ := HF.out.dec hh
                have HC : Hid (Calls Try.prog 75 #[.slice (some ⟨g, 0, none⟩) n cap, .int .i64 a1, .int .i64 b1] w2 (UsP w2 g D2 ex)) := hide (by
                  have q := urev_any w2 g cap D1 ex HO2.out a1 b1 (by omega) (by rw [HF.out.s1, HES.out]; omega) (by rw [HF.out.s1, HES.out]; omega)
                  rw [HF.out.s1, HES.out] at q
                  rw [e2]
                  exact q)
                obtain ⟨bm, hbm⟩ : ∃ bm, bm = b1 - 1 := ⟨_, rfl⟩
                obtain ⟨ca, hca⟩ : ∃ ca, ca = c1 - a1 := ⟨_, rfl⟩
                have u1 : (b1 : Int) - 1 = (bm : Int) := by omega
                have u2 : (c1 : Int) - (a1 : Int) = (ca : Int) := by omega
                have u3 : (bm : Int) - (ca : Int) = (pv : Int) := by omega
                have u4 := wrap_natU (k := bm) (by omega)
                have u5 := wrap_natU (k := ca) (by omega)
                have u6 := wrap_natU (k := pv) (by omega)
                have hv1 : hv = 1 := by rw [HHV.out, eht]; rfl
                clear hh e2 epv eht hbm hca
                go_wp2_with fail
                refine HC.out.mono ?_
                rintro en w3 ⟨rfl, r1, g3⟩
                have HO3 := hide r1
                have HG3 := hide (grew_trans HG2.out g3)
                clear r1 g3 HC
                go_wp2
                go_meet
                case rel => exact ⟨by simp, by rw [hv1], HO3, HG3⟩
              · have c2v : (cv == 2) = false := by
                  rw [beq_eq_false_iff_ne]
                  intro q
                  rw [HCV.out] at q
                  exact hh (hintN_two q)
                obtain ⟨e2, epv, eht⟩ := HF.out.ndec hh
                have HO3 : Hid (Ro w2 g D2 ex) := hide (by rw [e2]; exact HO2.out)
                have hv1 : hv = cv := by rw [HHV.out, HCV.out, eht]
                clear hh e2 eht
                go_wp2
                go_meet
                case rel => exact ⟨by rw [epv], by rw [hv1], HO3, HG2⟩
            case rest =>
              obtain ⟨rfl, rfl, HO3, HG3⟩ := hcut
              clear HO2 HG2 HCV
              obtain ⟨T, hT⟩ : ∃ T, T = (wb && wp && decide (hint = .increasing)) := ⟨_, rfl⟩
              have HT := hide hT
              clear hT
              go_upto_region 15 with fail
              go_cut [12, 68] from 19 (fun s12 s68 wx => s12 = .int .i64 hv ∧ s68 = .bool T ∧ wx = wc)
              case first =>
                have ht := HT.out
                have hh := HHV.out
                clear HF HT HHV HES
                cases wb <;> cases wp <;> cases hint <;> (simp at ht; simp only [hintN] at hh; subst ht hh; go_wp2; go_meet; exact ⟨by simp, by simp, rfl⟩)
              case rest =>
                obtain ⟨rfl, rfl, rfl⟩ := hcut
                go_upto_if 68 with fail
                go_cut [] from 19 (fun wx => pd = false ∧ Hid (Ro wx g D3 ex) ∧ Hid (w.grownBy wx (some g)))
                case first =>
                  cases T
                  · obtain ⟨e3, e4⟩ := HF.out.no HT.out.symm
                    go_wp2
                    go_meet
                    case rel => exact ⟨e4, by rw [e3]; exact HO3, HG3⟩
                  · have HC : Hid (Calls Try.prog 76 #[.slice (some ⟨g, 0, none⟩) n cap, .int .i64 a1, .int .i64 b1] wc (fun e w' => e = .returned (.bool pd) ∧ Ro w' g D3 ex ∧ wc.grownBy w' (some g))) := hide (by
                      have q := upins_any wc g cap D2 ex HO3.out a1 b1 (by omega) (by rw [HF.out.s2, HES.out]; omega) (by rw [HF.out.s2, HES.out]; omega)
                      rw [HF.out.s2, HES.out] at q
                      rw [show Sort.partialInsertionSort lti D2 a1 b1 = (D3, pd) from HF.out.yes HT.out.symm] at q
                      exact q)
                    go_wp2_with fail
                    refine HC.out.mono ?_
                    rintro en w4 ⟨rfl, r1, g3⟩
                    have HO4 := hide r1
                    have HG4 := hide (grew_trans HG3.out g3)
                    clear r1 g3 HC
                    cases pd
                    · go_wp2
                      go_meet
                      case rel => exact ⟨trivial, HO4, HG4⟩
                    · have HE := hide (HF.out.done rfl)
                      go_wp2
                      go_returns
                      exact ⟨rfl, by rw [HE.out]; exact HO4.out, HG4.out⟩
                case rest =>
                  obtain ⟨hpd, HO4, HG4⟩ := hcut
                  subst hpd
                  clear HO3 HG3 HT HHV
                  obtain ⟨T2, hT2⟩ : ∃ T2, T2 = (decide (a1 > 0) && !Sort.ltInt D3[a1 - 1]! D3[pv]!) := ⟨_, rfl⟩
                  have HT2 := hide hT2
                  clear hT2
                  go_upto_region 17 with fail
                  go_cut [87] from 19 (fun s87 wx => s87 = .bool T2 ∧ Hid (Ro wx g D3 ex) ∧ Hid (w.grownBy wx (some g)))
                  case first =>
                    have hes := HES.out
                    have hs3 := HF.out.s3
                    have ht := HT2.out
                    rcases Nat.eq_zero_or_pos a1 with ha0 | ha0
                    · have t1 : decide ((0 : Int) < (a1 : Int)) = false := by simp; omega
                      have t2 : decide (0 < a1) = false := by simp; omega
                      have ht2 : T2 = false := by rw [ht, ha0]; rfl
                      subst ht2
                      clear hes hs3 ht HT2 HF
                      go_quiet (fail)
                      have HOQ := hide (HO4.out.old (below_drewN (Below.refl _ _) nq))
                      have HGQ := hide (grew_trans HG4.out (grew_drewN _ nq _))
                      go_wp2
                      go_meet
                      case rel => exact ⟨by simp, HOQ, HGQ⟩
                    · have t1 : decide ((0 : Int) < (a1 : Int)) = true := by simp; omega
                      have t2 : decide (0 < a1) = true := by simp; omega
                      obtain ⟨am, ham⟩ : ∃ am, am = a1 - 1 := ⟨_, rfl⟩
                      have t3 : (a1 : Int) - 1 = (am : Int) := by omega
                      have t4 := wrap_natU (k := am) (by omega)
                      have hamn : am < n := by omega
                      have hpvn : pv < n := by omega
                      have cx := HO4.out.cell (i := am) (by omega)
                      have cp := HO4.out.cell (i := pv) (by omega)
                      obtain ⟨xv, hxv⟩ : ∃ xv, xv = D3[am]! := ⟨_, rfl⟩
                      obtain ⟨pw, hpw⟩ : ∃ pw, pw = D3[pv]! := ⟨_, rfl⟩
                      rw [← hxv] at cx
                      rw [← hpw] at cp
                      have hcl := fun W' => less_any W' xv pw
                      rw [← ham, ← hxv, ← hpw] at ht
                      have ht2 : T2 = !decide (xv < pw) := by
                        rw [ht, show decide (a1 > 0) = true from t2, Bool.true_and]
                        rfl
                      cases hlt : decide (xv < pw)
                      all_goals
                        rw [hlt] at hcl ht2
                        simp only [Bool.not_true, Bool.not_false] at ht2
                        subst ht2
                        have HCL := hide hcl
                        clear hcl hlt ht hxv hpw ham hes hs3 HT2 HF
                        go_quiet (first | (go_at_call 77; with_reducible exact (HCL.out _).mono (fun _ _ h => ⟨h.1, _, h.2.symm⟩)))
                        have HOQ := hide (HO4.out.old (below_drewN (Below.refl _ _) nq))
                        have HGQ := hide (grew_trans HG4.out (grew_drewN _ nq _))
                        go_wp2
                        go_meet
                        case rel => exact ⟨by simp, HOQ, HGQ⟩
                  case rest =>
                    obtain ⟨rfl, HO5, HG5⟩ := hcut
                    clear HO4 HG4
                    have hes := HES.out
                    cases T2
                    · obtain ⟨mid, ap, d4, hx⟩ : ∃ mid ap d4, Sort.partition Sort.ltInt D3 a1 b1 pv = (mid, ap, d4) := ⟨_, _, _, (by rfl : Sort.partition Sort.ltInt D3 a1 b1 pv = ((Sort.partition Sort.ltInt D3 a1 b1 pv).1, (Sort.partition Sort.ltInt D3 a1 b1 pv).2.1, (Sort.partition Sort.ltInt D3 a1 b1 pv).2.2))⟩
                      obtain ⟨p1, p2, p3, p4, p5, p6, p7⟩ := HF.out.part rfl HT2.out.symm mid ap d4 hx
                      have HC : Hid (Calls Try.prog 79 #[.slice (some ⟨g, 0, none⟩) n cap, .int .i64 a1, .int .i64 b1, .int .i64 pv] wc (fun e w' => e = .returned (.tuple #[.int .i64 mid, .bool ap]) ∧ Ro w' g d4 ex ∧ wc.grownBy w' (some g))) := hide (by
                        have q := upart_any wc g cap D3 ex HO5.out a1 b1 pv rp.1 rp.2 (by rw [HF.out.s3, hes]; omega) (by rw [HF.out.s3, hes]; omega)
                        rw [HF.out.s3, hes] at q
                        rw [show Sort.partition lti D3 a1 b1 pv = (mid, ap, d4) from hx] at q
                        exact q)
                      have H4 := hide p4
                      have H5 := hide p5
                      have H6 := hide p6
                      have H7 := hide p7
                      have HS4 : Hid (d4.size = n) := hide (by rw [p3, hes])
                      obtain ⟨lL, hlL⟩ : ∃ lL, lL = mid - a1 := ⟨_, rfl⟩
                      obtain ⟨rL, hrL⟩ : ∃ rL, rL = b1 - mid := ⟨_, rfl⟩
                      obtain ⟨l8, hl8⟩ : ∃ l8, l8 = L / 8 := ⟨_, rfl⟩
                      obtain ⟨md, hmd⟩ : ∃ md, md = mid + 1 := ⟨_, rfl⟩
                      have v1 : (mid : Int) - (a1 : Int) = (lL : Int) := by omega
                      have v2 : (b1 : Int) - (mid : Int) = (rL : Int) := by omega
                      have v3 : (L : Int) / 8 = (l8 : Int) := by omega
                      have v4 : Int.tdiv (L : Int) 8 = (l8 : Int) := by rw [Int.tdiv_eq_ediv_of_nonneg (by omega)]; omega
                      have v5 := wrap_natU (k := lL) (by omega)
                      have v6 := wrap_natU (k := rL) (by omega)
                      have v7 := wrap_natU (k := l8) (by omega)
                      have v8 : (mid : Int) + 1 = (md : Int) := by omega
                      have v9 := wrap_natU (k := md) (by omega)
                      have hmr : a1 ≤ mid ∧ mid < b1 := ⟨p1, p2⟩
                      rw [← hmd] at H5 H6 H7
                      rw [← hlL, ← hrL, ← HLB.out, ← hl8] at H6 H7
                      clear p1 p2 p3 p4 p5 p6 p7 hx hes hmd hlL hrL hl8
                      by_cases h4 : lL < rL
                      · have w1' : decide ((lL : Int) < (rL : Int)) = true := by simp; omega
                        have w2' : decide (lL < rL) = true := by simp; omega
                        obtain ⟨bb, hbb⟩ : ∃ bb, decide (l8 ≤ lL) = bb := ⟨_, rfl⟩
                        have w3' : decide ((l8 : Int) ≤ (lL : Int)) = bb := by rw [← hbb]; simp
                        obtain ⟨d5, hd5, s5, B5, E5⟩ := H6.out h4
                        have HC2 : Hid (∀ w7, Ro w7 g d4 ex → Calls Try.prog 69 #[.slice (some ⟨g, 0, none⟩) n cap, .int .i64 a1, .int .i64 mid, .int .i64 lm] w7 (UsP w7 g d5 ex)) := hide (by
                          intro w7 ho
                          have q := HIH.out w7 g cap d4 ex a1 mid lm (by omega) ho (by omega) (by rw [HS4.out]; omega) (by rw [HS4.out]; omega) (by omega) H4.out
                          rw [HS4.out] at q
                          rw [hd5]
                          exact q)
                        have HB5 := hide B5
                        have HE5 : Hid (Sort.pdq Sort.ltInt d5 md b1 lm bb ap = R) := hide (by rw [← hbb]; exact E5)
                        have HS5 : Hid (d5.size = n) := hide (by rw [s5, HES.out])
                        clear hd5 s5 B5 E5 H6 H7 HIH HF HT2
                        go_wp2_with fail
                        refine HC.out.mono ?_
                        rintro en w7 ⟨rfl, r1, g7⟩
                        have HC3 := hide (HC2.out w7 r1)
                        have HG7 := hide (grew_trans HG5.out g7)
                        clear r1 g7 HC HC2
                        go_wp2_with fail
                        refine HC3.out.mono ?_
                        rintro en w8 ⟨rfl, r1, g8⟩
                        have HO8 := hide r1
                        have HG8 := hide (grew_trans HG7.out g8)
                        clear r1 g8 HC3
                        go_wp2
                        go_roundw
                        case rel => exact ⟨md, b1, lm, bb, ap, d5, by simp, rfl, rfl, by first | rfl | simp [w3'], rfl, by omega, hq2, by omega, by omega, HS5, HB5, HE5, HO8, HG8⟩
                        case measure => simp [intOf]; omega
                      · have w1' : decide ((lL : Int) < (rL : Int)) = false := by simp; omega
                        have w2' : decide (lL < rL) = false := by simp; omega
                        obtain ⟨bb, hbb⟩ : ∃ bb, decide (l8 ≤ rL) = bb := ⟨_, rfl⟩
                        have w3' : decide ((l8 : Int) ≤ (rL : Int)) = bb := by rw [← hbb]; simp
                        obtain ⟨d5, hd5, s5, B5, E5⟩ := H7.out h4
                        have HC2 : Hid (∀ w7, Ro w7 g d4 ex → Calls Try.prog 69 #[.slice (some ⟨g, 0, none⟩) n cap, .int .i64 md, .int .i64 b1, .int .i64 lm] w7 (UsP w7 g d5 ex)) := hide (by
                          intro w7 ho
                          have q := HIH.out w7 g cap d4 ex md b1 lm (by omega) ho (by omega) (by rw [HS4.out]; omega) (by rw [HS4.out]; omega) (by omega) H5.out
                          rw [HS4.out] at q
                          rw [hd5]
                          exact q)
                        have HB5 := hide B5
                        have HE5 : Hid (Sort.pdq Sort.ltInt d5 a1 mid lm bb ap = R) := hide (by rw [← hbb]; exact E5)
                        have HS5 : Hid (d5.size = n) := hide (by rw [s5, HES.out])
                        clear hd5 s5 B5 E5 H6 H7 HIH HF HT2
                        go_wp2_with fail
                        refine HC.out.mono ?_
                        rintro en w7 ⟨rfl, r1, g7⟩
                        have HC3 := hide (HC2.out w7 r1)
                        have HG7 := hide (grew_trans HG5.out g7)
                        clear r1 g7 HC HC2
                        go_wp2_with fail
                        refine HC3.out.mono ?_
                        rintro en w8 ⟨rfl, r1, g8⟩
                        have HO8 := hide r1
                        have HG8 := hide (grew_trans HG7.out g8)
                        clear r1 g8 HC3
                        go_wp2
                        go_roundw
                        case rel => exact ⟨a1, mid, lm, bb, ap, d5, rfl, rfl, rfl, by first | rfl | simp [w3'], rfl, by omega, by omega, by omega, by omega, HS5, HB5, HE5, HO8, HG8⟩
                        case measure => simp [intOf]; omega
                    · obtain ⟨mid, d4, hx⟩ : ∃ mid d4, Sort.partitionEqual Sort.ltInt D3 a1 b1 pv = (mid, d4) := ⟨_, _, (by rfl : Sort.partitionEqual Sort.ltInt D3 a1 b1 pv = ((Sort.partitionEqual Sort.ltInt D3 a1 b1 pv).1, (Sort.partitionEqual Sort.ltInt D3 a1 b1 pv).2))⟩
                      obtain ⟨p1, p2, p3, p4, p5⟩ := HF.out.eq rfl HT2.out.symm mid d4 hx
                      have HC : Hid (Calls Try.prog 78 #[.slice (some ⟨g, 0, none⟩) n cap, .int .i64 a1, .int .i64 b1, .int .i64 pv] wc (fun e w' => e = .returned (.int .i64 mid) ∧ Ro w' g d4 ex ∧ wc.grownBy w' (some g))) := hide (by
                        have q := upeq_any wc g cap D3 ex HO5.out a1 b1 pv rp.1 rp.2 (by rw [HF.out.s3, hes]; omega) (by rw [HF.out.s3, hes]; omega)
                        rw [HF.out.s3, hes] at q
                        rw [show Sort.partitionEqual lti D3 a1 b1 pv = (mid, d4) from hx] at q
                        exact q)
                      have HB5 := hide p4
                      have HE5 := hide p5
                      have HS5 : Hid (d4.size = n) := hide (by rw [p3, hes])
                      clear p3 p4 p5 hx hes HF HT2 HIH
                      go_wp2_with fail
                      refine HC.out.mono ?_
                      rintro en w7 ⟨rfl, r1, g7⟩
                      have HO7 := hide r1
                      have HG7 := hide (grew_trans HG5.out g7)
                      clear r1 g7 HC
                      go_wp2
                      go_roundw
                      case rel => exact ⟨mid, b1, lm, wb, wp, d4, rfl, rfl, rfl, rfl, rfl, p2, hq2, by omega, by omega, HS5, HB5, HE5, HO7, HG7⟩
                      case measure => simp [intOf]; omega
theorem uq_any (w : World) (g cap : Nat) (d : Array Int) (ex : List Value) (h : Ro w g d ex) (a b limit : Nat) (hab : a ≤ b) (hb : b ≤ d.size) (hn : d.size < 65536) (hl : limit ≤ 1000) (hB : Sort.Below Sort.ltInt a b d) :
    Calls Try.prog 69 #[.slice (some ⟨g, 0, none⟩) d.size cap, .int .i64 a, .int .i64 b, .int .i64 limit] w (UsP w g (Sort.pdq Sort.ltInt d a b limit true true) ex) := uq_le (b - a + 1) w g cap d ex a b limit (by omega) h hab hb hn hl hB
end Go.Proofs.Ytmkafoidfgaokaa
namespace Go.Proofs.Ytmkafoidfgaokaa
open Go.RowKit Apo
theorem bitsLen_small {n : Nat} (h : n < 65536) : Sort.bitsLen n ≤ 16 := (Sort.bitsLen_le_iff n 16).2 (by omega)
set_option maxRecDepth 100000 in
set_option maxHeartbeats 800000 in
theorem usort_any (w : World) (g cap : Nat) (d : Array Int) (ex : List Value) (h : Ro w g d ex) (hn : d.size < 65536) :
    Calls Try.prog 64 #[.slice (some ⟨g, 0, none⟩) d.size cap] w (UsP w g (Sort.sort Sort.ltInt d) ex) := by
  obtain ⟨R, hR⟩ : ∃ R, R = Sort.sort Sort.ltInt d := ⟨_, rfl⟩
  have hbl := bitsLen_small hn
  have HC1 := hide (ulen_any d.size hn w)
  have HC : Hid (Calls Try.prog 69 #[.slice (some ⟨g, 0, none⟩) d.size cap, .int .i64 ((0 : Nat) : Int), .int .i64 d.size, .int .i64 (Sort.bitsLen d.size : Nat)] w (UsP w g R ex)) := hide (by
    rw [hR]
    exact uq_any w g cap d ex h 0 d.size (Sort.bitsLen d.size) (Nat.zero_le _) (Nat.le_refl _) hn (by omega) (Or.inl rfl))
  rw [← hR]
  obtain ⟨n, hnn⟩ : ∃ n, n = d.size := ⟨_, rfl⟩
  rw [← hnn] at HC HC1 hbl hn ⊢
  obtain ⟨bl, hblv⟩ : ∃ bl, bl = Sort.bitsLen n := ⟨_, rfl⟩
  rw [← hblv] at HC HC1 hbl
  have hwn : IntKind.u64.wrap (n : Int) = (n : Int) := by rw [IntKind.wrap_u64]; omega
  clear hR h hnn hblv
  go_enter Try.func64, Try.ntmps64
  go_wp2_with fail
  refine HC1.out.mono ?_
  rintro e w' ⟨rfl, rfl⟩
  go_wp2_with fail
  refine HC.out.mono ?_
  rintro e w1 ⟨rfl, r1, g1⟩
  have HO := hide r1
  have HG := hide g1
  clear r1 g1
  go_wp2
  go_returns
  exact ⟨rfl, HO.out, HG.out⟩
set_option maxRecDepth 100000 in
set_option maxHeartbeats 800000 in
theorem uins_nil (w : World) : Calls Try.prog 71 #[.slice none 0 0, .int .i64 0, .int .i64 0] w fun e w' => e = .returned (.tuple #[]) ∧ w = w' := by
  go_enter Try.func71, Try.ntmps71
  go_wp2
  go_loopw [6] (fun vi wr => vi = .int .i64 1 ∧ w = wr) (fun _ _ => 0)
  case atStart => exact ⟨rfl, rfl⟩
  case round =>
    obtain ⟨rfl, rfl⟩ := hrel
    go_wp2
    go_returns
    exact ⟨rfl, rfl⟩
set_option maxRecDepth 100000 in
set_option maxHeartbeats 800000 in
theorem uq_nil (w : World) : Calls Try.prog 69 #[.slice none 0 0, .int .i64 0, .int .i64 0, .int .i64 0] w fun e w' => e = .returned (.tuple #[]) ∧ w = w' := by
  have HC := hide (uins_nil w)
  go_enter Try.func69, Try.ntmps69
  go_wp2
  go_loopw [1, 2] (fun va vb wr => va = .int .i64 0 ∧ vb = .int .i64 0 ∧ w = wr) (fun _ _ _ => 0)
  case atStart => exact ⟨rfl, rfl, rfl⟩
  case round =>
    obtain ⟨rfl, rfl, rfl⟩ := hrel
    go_wp2_with fail
    refine HC.out.mono ?_
    rintro e w' ⟨rfl, rfl⟩
    go_wp2
    go_returns
    exact ⟨rfl, rfl⟩
set_option maxRecDepth 100000 in
set_option maxHeartbeats 800000 in
theorem usort_nil (w : World) : Calls Try.prog 64 #[.slice none 0 0] w fun e w' => e = .returned (.tuple #[]) ∧ w = w' := by
  have HC1 := hide (ulen_any 0 (by omega) w)
  have HC := hide (uq_nil w)
  go_enter Try.func64, Try.ntmps64
  go_wp2_with fail
  refine HC1.out.mono ?_
  rintro e w' ⟨rfl, rfl⟩
  go_wp2_with fail
  refine HC.out.mono ?_
  rintro e w' ⟨rfl, rfl⟩
  go_wp2
  go_returns
  exact ⟨rfl, rfl⟩
end Go.Proofs.Ytmkafoidfgaokaa
