/- StatePuts' walk. Over the translation. (Written by tools/gen17.py's rows.) -/
import Derived.Deep.RegionHeld3
import Derived.Test.YtgjhmpmjbedjoaaQSCo
namespace Go.Proofs.Ytgjhmpmjbedjoaa
open Go.RowKit Apo
open Classical in
set_option maxRecDepth 100000 in
set_option maxHeartbeats 16000000 in
theorem puts17 (D : StDo) (w : World) (x y : SvA) (hx : SvR w x) (hy : SvR w y) (id : Int) :
    Calls Try.prog 3 #[.agg #[.string x.s.hd, .int .u64 x.s.wk, .int .u64 x.s.nx, .int .u64 x.s.pd, .slice x.ra x.s.rf.length x.rc, .slice x.ma x.s.md.length x.mc, .slice x.ca x.s.cl.length x.cc], .agg #[.string y.s.hd, .int .u64 y.s.wk, .int .u64 y.s.nx, .int .u64 y.s.pd, .slice y.ra y.s.rf.length y.rc, .slice y.ma y.s.md.length y.mc, .slice y.ca y.s.cl.length y.cc], .int .u64 id] w fun e w' => e = .returned (.bool true) ∧ Below w.heap.size w w' := by
  obtain ⟨⟨hd, wk, nx, pd, rf, md, cl⟩, ra, rc, ma, mc, ca, cc⟩ := x
  obtain ⟨nr, hnr⟩ : ∃ nr, nr = rf.length := ⟨_, rfl⟩
  obtain ⟨nm, hnm⟩ : ∃ nm, nm = md.length := ⟨_, rfl⟩
  obtain ⟨nc, hnc⟩ : ∃ nc, nc = cl.length := ⟨_, rfl⟩
  simp only
  rw [← hnr, ← hnm, ← hnc]
  have HQ : Hid (Value.agg (cSv ⟨⟨hd, wk, nx, pd, rf, md, cl⟩, ra, rc, ma, mc, ca, cc⟩).toArray = .agg #[.string hd, .int .u64 wk, .int .u64 nx, .int .u64 pd, .slice ra nr rc, .slice ma nm mc, .slice ca nc cc]) := hide (by rw [hnr, hnm, hnc]; rfl)
  have HD := hide D
  have HX := hide hx
  obtain ⟨x, hxx⟩ : ∃ x : SvA, x = ⟨⟨hd, wk, nx, pd, rf, md, cl⟩, ra, rc, ma, mc, ca, cc⟩ := ⟨_, rfl⟩
  rw [← hxx] at HX HQ
  obtain ⟨⟨hd2, wk2, nx2, pd2, rf2, md2, cl2⟩, ra2, rc2, ma2, mc2, ca2, cc2⟩ := y
  obtain ⟨nr2, hnr2⟩ : ∃ nr, nr = rf2.length := ⟨_, rfl⟩
  obtain ⟨nm2, hnm2⟩ : ∃ nm, nm = md2.length := ⟨_, rfl⟩
  obtain ⟨nc2, hnc2⟩ : ∃ nc, nc = cl2.length := ⟨_, rfl⟩
  simp only
  rw [← hnr2, ← hnm2, ← hnc2]
  have HQ2 : Hid (Value.agg (cSv ⟨⟨hd2, wk2, nx2, pd2, rf2, md2, cl2⟩, ra2, rc2, ma2, mc2, ca2, cc2⟩).toArray = .agg #[.string hd2, .int .u64 wk2, .int .u64 nx2, .int .u64 pd2, .slice ra2 nr2 rc2, .slice ma2 nm2 mc2, .slice ca2 nc2 cc2]) := hide (by rw [hnr2, hnm2, hnc2]; rfl)
  have HY := hide hy
  obtain ⟨y, hyy⟩ : ∃ y : SvA, y = ⟨⟨hd2, wk2, nx2, pd2, rf2, md2, cl2⟩, ra2, rc2, ma2, mc2, ca2, cc2⟩ := ⟨_, rfl⟩
  rw [← hyy] at HY HQ2
  have HLT : Hid (∀ W, Below w.heap.size w W → Calls Try.prog 7 #[.agg #[.string hd, .int .u64 wk, .int .u64 nx, .int .u64 pd, .slice ra nr rc, .slice ma nm mc, .slice ca nc cc]] W fun e w' => e = .returned (.bool (lightS x.s)) ∧ Below W.heap.size W w') := hide fun W b => by
    have := light17 W x (HX.out.below b)
    have hq := HQ.out
    unfold cSv at hq
    rw [← hq]
    exact this
  have HLO : Hid (∀ W, Below w.heap.size w W → Calls Try.prog 7 #[.agg #[.string hd2, .int .u64 wk2, .int .u64 nx2, .int .u64 pd2, .slice ra2 nr2 rc2, .slice ma2 nm2 mc2, .slice ca2 nc2 cc2]] W fun e w' => e = .returned (.bool (lightS y.s)) ∧ Below W.heap.size W w') := hide fun W b => by
    have := light17 W y (HY.out.below b)
    have hq := HQ2.out
    unfold cSv at hq
    rw [← hq]
    exact this
  have HMD : Hid (∀ W, Below w.heap.size w W → Calls Try.prog 11 #[.agg #[.string hd, .int .u64 wk, .int .u64 nx, .int .u64 pd, .slice ra nr rc, .slice ma nm mc, .slice ca nc cc], .int .u64 id] W fun e w' => e = .returned (.tuple #[.int .u64 (chG x.s.md id), .bool (madeG x.s.md id).isSome]) ∧ Below W.heap.size W w') := hide fun W b => by
    have hr := (HX.out.below b).mr
    have hl := HX.out.ml
    rw [hxx] at hr hl ⊢
    simp only at hr hl ⊢
    unfold maxLen at hl
    have := rmade_of (.string hd) (.int .u64 wk) (.int .u64 nx) (.int .u64 pd) (.slice ra nr rc) (.slice ca nc cc) ma mc md id W hr (by omega)
    rw [← hnm] at this
    exact this
  obtain ⟨W0, hW0⟩ : ∃ W0, W0 = (w.alloc (.cells #[.string hd, .int .u64 wk, .int .u64 nx, .int .u64 pd, .slice ra nr rc, .slice ma nm mc, .slice ca nc cc] 27)).alloc (.cells #[.string hd2, .int .u64 wk2, .int .u64 nx2, .int .u64 pd2, .slice ra2 nr2 rc2, .slice ma2 nm2 mc2, .slice ca2 nc2 cc2] 27) := ⟨_, rfl⟩
  have k0 : Ob W0 w.heap.size 27 [.string hd, .int .u64 wk, .int .u64 nx, .int .u64 pd, .slice ra nr rc, .slice ma nm mc, .slice ca nc cc] := by rw [hW0]; exact (Ob.new w [.string hd, .int .u64 wk, .int .u64 nx, .int .u64 pd, .slice ra nr rc, .slice ma nm mc, .slice ca nc cc] _).alloc _
  have o0 : Ob W0 (w.heap.size + 1) 27 [.string hd2, .int .u64 wk2, .int .u64 nx2, .int .u64 pd2, .slice ra2 nr2 rc2, .slice ma2 nm2 mc2, .slice ca2 nc2 cc2] := by rw [hW0]; have := Ob.new (w.alloc (.cells #[.string hd, .int .u64 wk, .int .u64 nx, .int .u64 pd, .slice ra nr rc, .slice ma nm mc, .slice ca nc cc] 27)) [.string hd2, .int .u64 wk2, .int .u64 nx2, .int .u64 pd2, .slice ra2 nr2 rc2, .slice ma2 nm2 mc2, .slice ca2 nc2 cc2] 27; simpa using this
  have HB0 := hide (show Below w.heap.size w W0 by rw [hW0]; exact ((Below.refl _ _).alloc (Nat.le_refl _) _).alloc (by simp) _)
  have HCA := hide (awake17 D W0)
  rw [hW0] at HCA
  have HW0 := hide hW0
  have HK0 := hide k0
  have HO0 := hide o0
  clear hx hy D hxx hyy hnr hnm hnc hnr2 hnm2 hnc2 hW0 k0 o0
  go_enter Try.func3, Try.ntmps3
  go_wp2_with fail
  refine HCA.out.mono ?_
  rintro e w1 ⟨rfl, b1⟩
  rw [← HW0.out] at b1
  have HB1 := hide (HB0.out.trans (b1.mono HB0.out.size))
  have HK1 := hide (HK0.out.old b1)
  have HO1 := hide (HO0.out.old b1)
  have HL := hide (HLT.out w1 HB1.out)
  have c0 := HK1.out.cell 0
  have c1 := HK1.out.cell 1
  have c2 := HK1.out.cell 2
  have c3 := HK1.out.cell 3
  have c4 := HK1.out.cell 4
  have c5 := HK1.out.cell 5
  have c6 := HK1.out.cell 6
  simp only [List.getElem?_cons_succ, List.getElem?_cons_zero] at c0 c1 c2 c3 c4 c5 c6
  clear b1 HCA HK0 HB0 HW0 HO0
  cases hlt : lightS x.s with
  | false =>
    rw [hlt] at HL
    clear hlt
    go_wp2_with fail
    refine HL.out.mono ?_
    rintro e w2 ⟨rfl, b2⟩
    have HB2 := hide (HB1.out.trans (b2.mono HB1.out.size))
    clear b2 HL
    go_wp2
    go_ret
    exact ⟨rfl, HB2.out⟩
  | true =>
    have HLS := hide (lightS_ok hlt)
    have HLC := hide (lightC_ok HLS.out.2.2.2)
    rw [hlt] at HL
    clear hlt
    go_wp2_with fail
    refine HL.out.mono ?_
    rintro e w2 ⟨rfl, b2⟩
    have HB2 := hide (HB1.out.trans (b2.mono HB1.out.size))
    have HK2 := hide (HK1.out.old b2)
    have HO2 := hide (HO1.out.old b2)
    have HL2 := hide (HLO.out w2 HB2.out)
    clear b2 HL HB1 HK1 HO1 c0 c1 c2 c3 c4 c5 c6
    have d0 := HO2.out.cell 0
    have d1 := HO2.out.cell 1
    have d2 := HO2.out.cell 2
    have d3 := HO2.out.cell 3
    have d4 := HO2.out.cell 4
    have d5 := HO2.out.cell 5
    have d6 := HO2.out.cell 6
    simp only [List.getElem?_cons_succ, List.getElem?_cons_zero] at d0 d1 d2 d3 d4 d5 d6
    cases hlo : lightS y.s with
    | false =>
      rw [hlo] at HL2
      clear hlo
      go_wp2_with fail
      refine HL2.out.mono ?_
      rintro e w3 ⟨rfl, b3⟩
      have HB3 := hide (HB2.out.trans (b3.mono HB2.out.size))
      clear b3 HL2
      go_wp2
      go_ret
      exact ⟨rfl, HB3.out⟩
    | true =>
    rw [hlo] at HL2
    clear hlo
    go_wp2_with fail
    refine HL2.out.mono ?_
    rintro e w3 ⟨rfl, b3⟩
    have HB3 := hide (HB2.out.trans (b3.mono HB2.out.size))
    have HK3 := hide (HK2.out.old b3)
    have HO3 := hide (HO2.out.old b3)
    clear b3 HL2 HB2 HK2 HO2 d0 d1 d2 d3 d4 d5 d6
    have HFW : Hid (x.s.cl.length ≤ 1000000) := hide (by have := HLC.out.1; omega)
    have HPU := hide (HD.out.put x w3 (HX.out.below HB3.out) HFW.out)
    rw [HQ.out] at HPU
    have c0 := HK3.out.cell 0
    have c1 := HK3.out.cell 1
    have c2 := HK3.out.cell 2
    have c3 := HK3.out.cell 3
    have c4 := HK3.out.cell 4
    have c5 := HK3.out.cell 5
    have c6 := HK3.out.cell 6
    simp only [List.getElem?_cons_succ, List.getElem?_cons_zero] at c0 c1 c2 c3 c4 c5 c6
    go_wp2_with fail
    refine HPU.out.mono ?_
    rintro e w4 ⟨v, rfl, r4, b4⟩
    have HB4 := hide (HB3.out.trans (b4.mono HB3.out.size))
    have HK4 := hide (HK3.out.old b4)
    have HO4 := hide (HO3.out.old b4)
    clear HPU c0 c1 c2 c3 c4 c5 c6
    obtain ⟨PB, hPB⟩ : ∃ PB, PB = (putS x.s).1 := ⟨_, rfl⟩
    obtain ⟨PE, hPE⟩ : ∃ PE, PE = (putS x.s).2 := ⟨_, rfl⟩
    obtain ⟨pn, hpn⟩ : ∃ pn, pn = PB.length := ⟨_, rfl⟩
    rw [← hPB] at r4
    rw [← hPE]
    unfold RwB at r4
    obtain ⟨qa, qc, hq, _, _⟩ := own_form r4.1
    subst hq
    have HR4 := hide (Rd.own r4.1).1
    rw [← hpn]
    have HPB := hide hPB
    have HPE := hide hPE
    have HPN := hide hpn
    clear r4 b4 hPB hPE hpn
    have HPV := hide (rput_state x w4 (HX.out.below HB4.out) HFW.out)
    rw [HQ.out] at HPV
    have c0 := HK4.out.cell 0
    have c1 := HK4.out.cell 1
    have c2 := HK4.out.cell 2
    have c3 := HK4.out.cell 3
    have c4 := HK4.out.cell 4
    have c5 := HK4.out.cell 5
    have c6 := HK4.out.cell 6
    simp only [List.getElem?_cons_succ, List.getElem?_cons_zero] at c0 c1 c2 c3 c4 c5 c6
    go_wp2_with fail
    refine HPV.out.mono ?_
    rintro e w5 ⟨v, rfl, r5, b5⟩
    have HB5 := hide (HB4.out.trans (b5.mono HB4.out.size))
    have HK5 := hide (HK4.out.old b5)
    have HO5 := hide (HO4.out.old b5)
    clear HPV c0 c1 c2 c3 c4 c5 c6
    rw [← HPB.out] at r5
    rw [← HPE.out]
    unfold RwB at r5
    obtain ⟨qb, qd, hq, _, _⟩ := own_form r5.1
    subst hq
    have HS5 := hide (Rd.own r5.1).1
    rw [← HPN.out]
    have HR5 := hide (HR4.out.below b5)
    clear r5 b5 HR4
    obtain ⟨CH, hCH⟩ : ∃ CH, CH = chG x.s.md id := ⟨_, rfl⟩
    obtain ⟨IS, hIS⟩ : ∃ IS, IS = (madeG x.s.md id).isSome := ⟨_, rfl⟩
    rw [← hCH, ← hIS] at HMD
    have HCH := hide hCH
    have HIS := hide hIS
    clear hCH hIS
    have HFI := hide (HD.out.find x id w5 (HX.out.below HB5.out))
    rw [HQ.out, ← HCH.out, ← HIS.out] at HFI
    have c0 := HK5.out.cell 0
    have c1 := HK5.out.cell 1
    have c2 := HK5.out.cell 2
    have c3 := HK5.out.cell 3
    have c4 := HK5.out.cell 4
    have c5 := HK5.out.cell 5
    have c6 := HK5.out.cell 6
    simp only [List.getElem?_cons_succ, List.getElem?_cons_zero] at c0 c1 c2 c3 c4 c5 c6
    go_wp2_with fail
    refine HFI.out.mono ?_
    rintro e w6 ⟨rfl, b6⟩
    have HB6 := hide (HB5.out.trans (b6.mono HB5.out.size))
    have HK6 := hide (HK5.out.old b6)
    have HO6 := hide (HO5.out.old b6)
    clear HFI c0 c1 c2 c3 c4 c5 c6
    have HR6 := hide (HR5.out.below b6)
    have HS6 := hide (HS5.out.below b6)
    clear b6 HR5 HS5
    have HMA := hide (HMD.out w6 HB6.out)
    have c0 := HK6.out.cell 0
    have c1 := HK6.out.cell 1
    have c2 := HK6.out.cell 2
    have c3 := HK6.out.cell 3
    have c4 := HK6.out.cell 4
    have c5 := HK6.out.cell 5
    have c6 := HK6.out.cell 6
    simp only [List.getElem?_cons_succ, List.getElem?_cons_zero] at c0 c1 c2 c3 c4 c5 c6
    go_wp2_with fail
    refine HMA.out.mono ?_
    rintro e w7 ⟨rfl, b7⟩
    have HB7 := hide (HB6.out.trans (b7.mono HB6.out.size))
    have HK7 := hide (HK6.out.old b7)
    have HO7 := hide (HO6.out.old b7)
    clear HMA c0 c1 c2 c3 c4 c5 c6
    have HR7 := hide (HR6.out.below b7)
    have HS7 := hide (HS6.out.below b7)
    clear b7 HR6 HS6
    obtain ⟨SE, hSE⟩ : ∃ SE, SE = stateE x.s := ⟨_, rfl⟩
    obtain ⟨SM, hSM⟩ : ∃ SM : Bool, SM = decide (x.s = y.s) := ⟨_, rfl⟩
    have HRI : Hid (∀ W, Below w.heap.size w W → Calls Try.prog 12 #[.agg #[.string hd, .int .u64 wk, .int .u64 nx, .int .u64 pd, .slice ra nr rc, .slice ma nm mc, .slice ca nc cc]] W fun e w' => e = .returned (.int .i64 SE) ∧ Below W.heap.size W w') := hide fun W b => by
      have := HD.out.right x W (HX.out.below b) HFW.out
      rw [HQ.out, ← hSE] at this
      exact this
    have HSA : Hid (∀ W, Below w.heap.size w W → Calls Try.prog 13 #[.agg #[.string hd, .int .u64 wk, .int .u64 nx, .int .u64 pd, .slice ra nr rc, .slice ma nm mc, .slice ca nc cc]] W fun e w' => e = .returned (.int .i64 SE) ∧ Below W.heap.size W w') := hide fun W b => by
      have := rstate_any x W (HX.out.below b) HFW.out
      rw [HQ.out, ← hSE] at this
      exact this
    have HSQ : Hid (∀ W, Below w.heap.size w W → Calls Try.prog 14 #[.agg #[.string hd, .int .u64 wk, .int .u64 nx, .int .u64 pd, .slice ra nr rc, .slice ma nm mc, .slice ca nc cc], .agg #[.string hd2, .int .u64 wk2, .int .u64 nx2, .int .u64 pd2, .slice ra2 nr2 rc2, .slice ma2 nm2 mc2, .slice ca2 nc2 cc2]] W fun e w' => e = .returned (.bool SM) ∧ Below W.heap.size W w') := hide fun W b => by
      have := HD.out.same x y W (HX.out.below b) (HY.out.below b)
      rw [HQ.out, HQ2.out, ← hSM] at this
      exact this
    have HSR : Hid (∀ W, Below w.heap.size w W → Calls Try.prog 15 #[.agg #[.string hd, .int .u64 wk, .int .u64 nx, .int .u64 pd, .slice ra nr rc, .slice ma nm mc, .slice ca nc cc], .agg #[.string hd2, .int .u64 wk2, .int .u64 nx2, .int .u64 pd2, .slice ra2 nr2 rc2, .slice ma2 nm2 mc2, .slice ca2 nc2 cc2]] W fun e w' => e = .returned (.bool SM) ∧ Below W.heap.size W w') := hide fun W b => by
      have := rsame_state x y W (HX.out.below b) (HY.out.below b)
      rw [HQ.out, HQ2.out, ← hSM] at this
      exact this
    obtain ⟨SB, hSB⟩ : ∃ SB, SB = strOfNums PB := ⟨_, rfl⟩
    have HCV1 : Hid (∀ W, Rd .u8 W qa PB → (convert 30 9 (.slice qa pn qc)).run Try.prog W = .ok (.string SB) W) := hide fun W r => by
      have := r.conv 30 5 9 Try.underlying30 Try.underlying5 Try.underlying9 qc
      rw [← HPN.out, ← hSB] at this
      exact this
    have HCV2 : Hid (∀ W, Rd .u8 W qb PB → (convert 30 9 (.slice qb pn qd)).run Try.prog W = .ok (.string SB) W) := hide fun W r => by
      have := r.conv 30 5 9 Try.underlying30 Try.underlying5 Try.underlying9 qd
      rw [← HPN.out, ← hSB] at this
      exact this
    have hsq : (SB.toList == SB.toList) = true := by simp
    have HK8 : Hid (Ob w7.drew w.heap.size 27 [.string hd, .int .u64 wk, .int .u64 nx, .int .u64 pd, .slice ra nr rc, .slice ma nm mc, .slice ca nc cc]) := hide HK7.out
    have HO8 : Hid (Ob w7.drew (w.heap.size + 1) 27 [.string hd2, .int .u64 wk2, .int .u64 nx2, .int .u64 pd2, .slice ra2 nr2 rc2, .slice ma2 nm2 mc2, .slice ca2 nc2 cc2]) := hide HO7.out
    have HB8 := hide HB7.out.drew
    have HR8 : Hid (Rd .u8 w7.drew qa PB) := hide HR7.out
    have HS8 : Hid (Rd .u8 w7.drew qb PB) := hide HS7.out
    clear hSE hSM hSB HX HY HD HK7 HO7 HB7 HR7 HS7 HMD HCH HIS HLS HLC HLT HLO HQ HQ2
    have c0 := HK8.out.cell 0
    have c1 := HK8.out.cell 1
    have c2 := HK8.out.cell 2
    have c3 := HK8.out.cell 3
    have c4 := HK8.out.cell 4
    have c5 := HK8.out.cell 5
    have c6 := HK8.out.cell 6
    simp only [List.getElem?_cons_succ, List.getElem?_cons_zero] at c0 c1 c2 c3 c4 c5 c6
    have d0 := HO8.out.cell 0
    have d1 := HO8.out.cell 1
    have d2 := HO8.out.cell 2
    have d3 := HO8.out.cell 3
    have d4 := HO8.out.cell 4
    have d5 := HO8.out.cell 5
    have d6 := HO8.out.cell 6
    simp only [List.getElem?_cons_succ, List.getElem?_cons_zero] at d0 d1 d2 d3 d4 d5 d6
    have cv1 := HCV1.out w7.drew HR8.out
    have cv2 := HCV2.out w7.drew HS8.out
    go_wp2_with fail
    go_region_held3 (fun W' => W'.cell? ⟨w.heap.size, 0, none⟩ = some (.string hd) ∧ W'.cell? ⟨w.heap.size, 1, none⟩ = some (.int .u64 wk) ∧ W'.cell? ⟨w.heap.size, 2, none⟩ = some (.int .u64 nx) ∧ W'.cell? ⟨w.heap.size, 3, none⟩ = some (.int .u64 pd) ∧ W'.cell? ⟨w.heap.size, 4, none⟩ = some (.slice ra nr rc) ∧ W'.cell? ⟨w.heap.size, 5, none⟩ = some (.slice ma nm mc) ∧ W'.cell? ⟨w.heap.size, 6, none⟩ = some (.slice ca nc cc) ∧ W'.cell? ⟨w.heap.size + 1, 0, none⟩ = some (.string hd2) ∧ W'.cell? ⟨w.heap.size + 1, 1, none⟩ = some (.int .u64 wk2) ∧ W'.cell? ⟨w.heap.size + 1, 2, none⟩ = some (.int .u64 nx2) ∧ W'.cell? ⟨w.heap.size + 1, 3, none⟩ = some (.int .u64 pd2) ∧ W'.cell? ⟨w.heap.size + 1, 4, none⟩ = some (.slice ra2 nr2 rc2) ∧ W'.cell? ⟨w.heap.size + 1, 5, none⟩ = some (.slice ma2 nm2 mc2) ∧ W'.cell? ⟨w.heap.size + 1, 6, none⟩ = some (.slice ca2 nc2 cc2) ∧ (convert 30 9 (.slice qa pn qc)).run Try.prog W' = .ok (.string SB) W' ∧ (convert 30 9 (.slice qb pn qd)).run Try.prog W' = .ok (.string SB) W') (go_keep) (first
      | (go_at_call 12; refine (HRI.out w7.drew HB8.out).mono ?_; rintro e w9 ⟨rfl, b9⟩; have HB9 := hide (HB8.out.trans (b9.mono HB8.out.size)); have HK9 := hide (HK8.out.old b9); have HO9 := hide (HO8.out.old b9); have HR9 := hide (HR8.out.below b9); have HS9 := hide (HS8.out.below b9); have c0 := HK9.out.cell 0; have c1 := HK9.out.cell 1; have c2 := HK9.out.cell 2; have c3 := HK9.out.cell 3; have c4 := HK9.out.cell 4; have c5 := HK9.out.cell 5; have c6 := HK9.out.cell 6; have d0 := HO9.out.cell 0; have d1 := HO9.out.cell 1; have d2 := HO9.out.cell 2; have d3 := HO9.out.cell 3; have d4 := HO9.out.cell 4; have d5 := HO9.out.cell 5; have d6 := HO9.out.cell 6; simp only [List.getElem?_cons_succ, List.getElem?_cons_zero] at c0 c1 c2 c3 c4 c5 c6 d0 d1 d2 d3 d4 d5 d6; have cv1 := HCV1.out w9 HR9.out; have cv2 := HCV2.out w9 HS9.out; clear b9)
      | (go_at_call 13; refine (HSA.out w9 HB9.out).mono ?_; rintro e w10 ⟨rfl, b10⟩; have HB10 := hide (HB9.out.trans (b10.mono HB9.out.size)); have HK10 := hide (HK9.out.old b10); have HO10 := hide (HO9.out.old b10); have HR10 := hide (HR9.out.below b10); have HS10 := hide (HS9.out.below b10); have c0 := HK10.out.cell 0; have c1 := HK10.out.cell 1; have c2 := HK10.out.cell 2; have c3 := HK10.out.cell 3; have c4 := HK10.out.cell 4; have c5 := HK10.out.cell 5; have c6 := HK10.out.cell 6; have d0 := HO10.out.cell 0; have d1 := HO10.out.cell 1; have d2 := HO10.out.cell 2; have d3 := HO10.out.cell 3; have d4 := HO10.out.cell 4; have d5 := HO10.out.cell 5; have d6 := HO10.out.cell 6; simp only [List.getElem?_cons_succ, List.getElem?_cons_zero] at c0 c1 c2 c3 c4 c5 c6 d0 d1 d2 d3 d4 d5 d6; have cv1 := HCV1.out w10 HR10.out; have cv2 := HCV2.out w10 HS10.out; clear b10)
      | (go_at_call 14; refine (HSQ.out w10 HB10.out).mono ?_; rintro e w11 ⟨rfl, b11⟩; have HB11 := hide (HB10.out.trans (b11.mono HB10.out.size)); have HK11 := hide (HK10.out.old b11); have HO11 := hide (HO10.out.old b11); have HR11 := hide (HR10.out.below b11); have HS11 := hide (HS10.out.below b11); have c0 := HK11.out.cell 0; have c1 := HK11.out.cell 1; have c2 := HK11.out.cell 2; have c3 := HK11.out.cell 3; have c4 := HK11.out.cell 4; have c5 := HK11.out.cell 5; have c6 := HK11.out.cell 6; have d0 := HO11.out.cell 0; have d1 := HO11.out.cell 1; have d2 := HO11.out.cell 2; have d3 := HO11.out.cell 3; have d4 := HO11.out.cell 4; have d5 := HO11.out.cell 5; have d6 := HO11.out.cell 6; simp only [List.getElem?_cons_succ, List.getElem?_cons_zero] at c0 c1 c2 c3 c4 c5 c6 d0 d1 d2 d3 d4 d5 d6; have cv1 := HCV1.out w11 HR11.out; have cv2 := HCV2.out w11 HS11.out; clear b11)
      | (go_at_call 15; refine (HSR.out w11 HB11.out).mono ?_; rintro e w12 ⟨rfl, b12⟩; have HB12 := hide (HB11.out.trans (b12.mono HB11.out.size)); have HK12 := hide (HK11.out.old b12); have HO12 := hide (HO11.out.old b12); have HR12 := hide (HR11.out.below b12); have HS12 := hide (HS11.out.below b12); have c0 := HK12.out.cell 0; have c1 := HK12.out.cell 1; have c2 := HK12.out.cell 2; have c3 := HK12.out.cell 3; have c4 := HK12.out.cell 4; have c5 := HK12.out.cell 5; have c6 := HK12.out.cell 6; have d0 := HO12.out.cell 0; have d1 := HO12.out.cell 1; have d2 := HO12.out.cell 2; have d3 := HO12.out.cell 3; have d4 := HO12.out.cell 4; have d5 := HO12.out.cell 5; have d6 := HO12.out.cell 6; simp only [List.getElem?_cons_succ, List.getElem?_cons_zero] at c0 c1 c2 c3 c4 c5 c6 d0 d1 d2 d3 d4 d5 d6; have cv1 := HCV1.out w12 HR12.out; have cv2 := HCV2.out w12 HS12.out; clear b12))
    go_wp2
    go_ret
    simp
    exact HB12.out
end Go.Proofs.Ytgjhmpmjbedjoaa
