/- StateBack's walk. Over the translation. (Written by tools/gen17.py's rows.) -/
import Derived.Test.YtgjhmpmjbedjoaaQSCo
namespace Go.Proofs.Ytgjhmpmjbedjoaa
open Go.RowKit Apo
open Classical in
set_option maxRecDepth 100000 in
set_option maxHeartbeats 8000000 in
theorem back17 (D : StDo) (w : World) (x : SvA) (hx : SvR w x) :
    Calls Try.prog 5 #[.agg #[.string x.s.hd, .int .u64 x.s.wk, .int .u64 x.s.nx, .int .u64 x.s.pd, .slice x.ra x.s.rf.length x.rc, .slice x.ma x.s.md.length x.mc, .slice x.ca x.s.cl.length x.cc]] w fun e w' => e = .returned (.bool true) ∧ Below w.heap.size w w' := by
  obtain ⟨⟨hd, wk, nx, pd, rf, md, cl⟩, ra, rc, ma, mc, ca, cc⟩ := x
  obtain ⟨nr, hnr⟩ : ∃ nr, nr = rf.length := ⟨_, rfl⟩
  obtain ⟨nm, hnm⟩ : ∃ nm, nm = md.length := ⟨_, rfl⟩
  obtain ⟨nc, hnc⟩ : ∃ nc, nc = cl.length := ⟨_, rfl⟩
  simp only
  rw [← hnr, ← hnm, ← hnc]
  have HQ : Hid (Value.agg (cSv ⟨⟨hd, wk, nx, pd, rf, md, cl⟩, ra, rc, ma, mc, ca, cc⟩).toArray = .agg #[.string hd, .int .u64 wk, .int .u64 nx, .int .u64 pd, .slice ra nr rc, .slice ma nm mc, .slice ca nc cc]) := hide (by rw [hnr, hnm, hnc]; rfl)
  have HD := hide D
  have HX := hide hx
  obtain ⟨x, hxx⟩ : ∃ x : SvA, x = ⟨⟨hd, wk, nx, pd, rf, md, cl⟩, ra, rc, ma, mc, ca, cc⟩ := ⟨_, rfl⟩
  rw [← hxx] at HX HQ
  have HLT : ∀ W, Below w.heap.size w W → Calls Try.prog 7 #[.agg #[.string hd, .int .u64 wk, .int .u64 nx, .int .u64 pd, .slice ra nr rc, .slice ma nm mc, .slice ca nc cc]] W fun e w' => e = .returned (.bool (lightS x.s)) ∧ Below W.heap.size W w' := fun W b => by
    have := light17 W x (HX.out.below b)
    have hq := HQ.out
    unfold cSv at hq
    rw [← hq]
    exact this
  have HLT := hide HLT
  obtain ⟨W0, hW0⟩ : ∃ W0, W0 = w.alloc (.cells #[.string hd, .int .u64 wk, .int .u64 nx, .int .u64 pd, .slice ra nr rc, .slice ma nm mc, .slice ca nc cc] 27) := ⟨_, rfl⟩
  have k0 : Ob W0 w.heap.size 27 [.string hd, .int .u64 wk, .int .u64 nx, .int .u64 pd, .slice ra nr rc, .slice ma nm mc, .slice ca nc cc] := by rw [hW0]; exact Ob.new w [.string hd, .int .u64 wk, .int .u64 nx, .int .u64 pd, .slice ra nr rc, .slice ma nm mc, .slice ca nc cc] _
  have HB0 := hide (show Below w.heap.size w W0 by rw [hW0]; exact (Below.refl _ _).alloc (Nat.le_refl _) _)
  have HCA := hide (awake17 D W0)
  rw [hW0] at HCA
  have HW0 := hide hW0
  have HK0 := hide k0
  clear hx D hxx hnr hnm hnc hW0 k0
  go_enter Try.func5, Try.ntmps5
  go_wp2_with fail
  refine HCA.out.mono ?_
  rintro e w1 ⟨rfl, b1⟩
  rw [← HW0.out] at b1
  have HB1 := hide (HB0.out.trans (b1.mono HB0.out.size))
  have HK1 := hide (HK0.out.old b1)
  have HL := hide (HLT.out w1 HB1.out)
  have c0 := HK1.out.cell 0
  have c1 := HK1.out.cell 1
  have c2 := HK1.out.cell 2
  have c3 := HK1.out.cell 3
  have c4 := HK1.out.cell 4
  have c5 := HK1.out.cell 5
  have c6 := HK1.out.cell 6
  simp only [List.getElem?_cons_succ, List.getElem?_cons_zero] at c0 c1 c2 c3 c4 c5 c6
  clear b1 HCA HK0 HB0 HW0
  cases hlt : lightS x.s with
  | false =>
    rw [hlt] at HL
    clear hlt
    go_wp2_with fail
    refine HL.out.mono ?_
    rintro e w2 ⟨rfl, b2⟩
    have HB2 := hide (HB1.out.trans (b2.mono HB1.out.size))
    clear b2 HL
    go_wp2
    go_ret
    exact ⟨rfl, HB2.out⟩
  | true =>
    have HLS := hide (lightS_ok hlt)
    have HLC := hide (lightC_ok HLS.out.2.2.2)
    rw [hlt] at HL
    clear hlt
    go_wp2_with fail
    refine HL.out.mono ?_
    rintro e w2 ⟨rfl, b2⟩
    have HB2 := hide (HB1.out.trans (b2.mono HB1.out.size))
    have HK2 := hide (HK1.out.old b2)
    have HP := hide (HD.out.put x w2 (HX.out.below HB2.out) (by have := HLC.out.1; omega))
    rw [HQ.out] at HP
    clear b2 HL HB1 HK1 c0 c1 c2 c3 c4 c5 c6
    have c0 := HK2.out.cell 0
    have c1 := HK2.out.cell 1
    have c2 := HK2.out.cell 2
    have c3 := HK2.out.cell 3
    have c4 := HK2.out.cell 4
    have c5 := HK2.out.cell 5
    have c6 := HK2.out.cell 6
    simp only [List.getElem?_cons_succ, List.getElem?_cons_zero] at c0 c1 c2 c3 c4 c5 c6
    go_wp2_with fail
    refine HP.out.mono ?_
    rintro e w3 ⟨v, rfl, r3, b3⟩
    have HB3 := hide (HB2.out.trans (b3.mono HB2.out.size))
    have HK3 := hide (HK2.out.old b3)
    clear b3 HP HB2 HK2 c0 c1 c2 c3 c4 c5 c6
    by_cases hp : (putS x.s).2 = 0
    · have hpb := putS_byte HX.out.numz
      have hps : (putS x.s).1.length ≤ 100000 := putS_small (putC_small HLC.out.1 HLC.out.2)
      have HOF := hide (ofS_put HX.out.nz HX.out.ri HX.out.mi hp)
      rw [hp]
      obtain ⟨PB, hPB⟩ : ∃ PB, PB = (putS x.s).1 := ⟨_, rfl⟩
      rw [← hPB] at r3 HOF hpb hps
      unfold RwB at r3
      obtain ⟨qa, qc, hq, hqc, hqn⟩ := own_form r3.1
      subst hq
      have rd := (Rd.own r3.1).1
      have HO := hide (HD.out.of qa qc PB w3 rd hqc hqn hpb (by omega))
      obtain ⟨pn, hpn⟩ : ∃ pn, pn = PB.length := ⟨_, rfl⟩
      rw [← hpn] at HO ⊢
      clear r3 rd hpb hps hqc hqn hPB hpn hp
      go_wp2_with fail
      refine HO.out.mono ?_
      rintro e w4 ⟨⟨⟨hd2, wk2, nx2, pd2, rf2, md2, cl2⟩, ra2, rc2, ma2, mc2, ca2, cc2⟩, rfl, hy, hr, b4⟩
      rw [HOF.out] at hy ⊢
      simp only at hy ⊢
      have HB4 := hide (HB3.out.trans (b4.mono HB3.out.size))
      have HK4 := hide (HK3.out.old b4)
      obtain ⟨nr2, hnr2⟩ : ∃ nr, nr = rf2.length := ⟨_, rfl⟩
      obtain ⟨nm2, hnm2⟩ : ∃ nm, nm = md2.length := ⟨_, rfl⟩
      obtain ⟨nc2, hnc2⟩ : ∃ nc, nc = cl2.length := ⟨_, rfl⟩
      have HQ2 : Hid (Value.agg (cSv ⟨⟨hd2, wk2, nx2, pd2, rf2, md2, cl2⟩, ra2, rc2, ma2, mc2, ca2, cc2⟩).toArray = .agg #[.string hd2, .int .u64 wk2, .int .u64 nx2, .int .u64 pd2, .slice ra2 nr2 rc2, .slice ma2 nm2 mc2, .slice ca2 nc2 cc2]) := hide (by rw [hnr2, hnm2, hnc2]; rfl)
      rw [show cSv ⟨⟨hd2, wk2, nx2, pd2, rf2, md2, cl2⟩, ra2, rc2, ma2, mc2, ca2, cc2⟩ = [.string hd2, .int .u64 wk2, .int .u64 nx2, .int .u64 pd2, .slice ra2 nr2 rc2, .slice ma2 nm2 mc2, .slice ca2 nc2 cc2] by rw [hnr2, hnm2, hnc2]; rfl]
      have HY := hide hr
      have HYE := hide hy
      obtain ⟨W5, hW5⟩ : ∃ W5, W5 = w4.alloc (.cells #[.string hd2, .int .u64 wk2, .int .u64 nx2, .int .u64 pd2, .slice ra2 nr2 rc2, .slice ma2 nm2 mc2, .slice ca2 nc2 cc2] 27) := ⟨_, rfl⟩
      have b5 : Below w4.heap.size w4 W5 := by rw [hW5]; exact (Below.refl _ _).alloc (Nat.le_refl _) _
      have HK5 := hide (HK4.out.old b5)
      have HY5 := hide (show Ob W5 w4.heap.size 27 [.string hd2, .int .u64 wk2, .int .u64 nx2, .int .u64 pd2, .slice ra2 nr2 rc2, .slice ma2 nm2 mc2, .slice ca2 nc2 cc2] by rw [hW5]; exact Ob.new w4 [.string hd2, .int .u64 wk2, .int .u64 nx2, .int .u64 pd2, .slice ra2 nr2 rc2, .slice ma2 nm2 mc2, .slice ca2 nc2 cc2] _)
      have HB5 := hide (HB4.out.trans (b5.mono HB4.out.size))
      have HYR := hide (HY.out.below b5)
      have HS := hide (HD.out.same x _ W5 (HX.out.below HB5.out) HYR.out)
      rw [decide_eq_true (show x.s = (⟨⟨hd2, wk2, nx2, pd2, rf2, md2, cl2⟩, ra2, rc2, ma2, mc2, ca2, cc2⟩ : SvA).s from hy.symm), HQ.out, HQ2.out] at HS
      have c0 := HK5.out.cell 0
      have c1 := HK5.out.cell 1
      have c2 := HK5.out.cell 2
      have c3 := HK5.out.cell 3
      have c4 := HK5.out.cell 4
      have c5 := HK5.out.cell 5
      have c6 := HK5.out.cell 6
      simp only [List.getElem?_cons_succ, List.getElem?_cons_zero] at c0 c1 c2 c3 c4 c5 c6
      have d0 := HY5.out.cell 0
      have d1 := HY5.out.cell 1
      have d2 := HY5.out.cell 2
      have d3 := HY5.out.cell 3
      have d4 := HY5.out.cell 4
      have d5 := HY5.out.cell 5
      have d6 := HY5.out.cell 6
      simp only [List.getElem?_cons_succ, List.getElem?_cons_zero] at d0 d1 d2 d3 d4 d5 d6
      rw [hW5] at HS c0 c1 c2 c3 c4 c5 c6 d0 d1 d2 d3 d4 d5 d6
      have HW5 := hide hW5
      clear hr b4 b5 HO HOF HB3 HD hy hW5 hnr2 hnm2 hnc2 HK4 HK3 HY
      go_wp2_with fail
      refine HS.out.mono ?_
      rintro e w6 ⟨rfl, b6⟩
      rw [← HW5.out] at b6
      have HB6 := hide (HB5.out.trans (b6.mono HB5.out.size))
      have HK6 := hide (HK5.out.old b6)
      have HY6 := hide (HY5.out.old b6)
      have HT := hide (rsame_state x _ w6 (HX.out.below HB6.out) (HYR.out.below b6))
      rw [decide_eq_true (show x.s = (⟨⟨hd2, wk2, nx2, pd2, rf2, md2, cl2⟩, ra2, rc2, ma2, mc2, ca2, cc2⟩ : SvA).s from HYE.out.symm), HQ.out, HQ2.out] at HT
      clear b6 HS HW5 HB4 HK5 HY5 HB5 HYR c0 c1 c2 c3 c4 c5 c6 d0 d1 d2 d3 d4 d5 d6
      have c0 := HK6.out.cell 0
      have c1 := HK6.out.cell 1
      have c2 := HK6.out.cell 2
      have c3 := HK6.out.cell 3
      have c4 := HK6.out.cell 4
      have c5 := HK6.out.cell 5
      have c6 := HK6.out.cell 6
      simp only [List.getElem?_cons_succ, List.getElem?_cons_zero] at c0 c1 c2 c3 c4 c5 c6
      have d0 := HY6.out.cell 0
      have d1 := HY6.out.cell 1
      have d2 := HY6.out.cell 2
      have d3 := HY6.out.cell 3
      have d4 := HY6.out.cell 4
      have d5 := HY6.out.cell 5
      have d6 := HY6.out.cell 6
      simp only [List.getElem?_cons_succ, List.getElem?_cons_zero] at d0 d1 d2 d3 d4 d5 d6
      go_wp2_with fail
      refine HT.out.mono ?_
      rintro e w7 ⟨rfl, b7⟩
      have HB7 := hide (HB6.out.trans (b7.mono HB6.out.size))
      clear b7 HT HB6 HK6 HY6 c0 c1 c2 c3 c4 c5 c6 d0 d1 d2 d3 d4 d5 d6
      go_wp2
      go_ret
      exact ⟨rfl, HB7.out⟩
    · have hpn := putS_no hp
      rw [hpn] at r3 ⊢
      unfold RwB at r3
      obtain ⟨qa, qc, hq, hqc, hqn⟩ := own_form r3.1
      subst hq
      simp only at r3 ⊢
      rw [show ([] : List Int).length = 0 from rfl]
      have dz : ((150 : Int) != 0) = true := by decide
      clear r3 hp hpn hqn hqc HD
      go_wp2
      go_ret
      exact ⟨rfl, HB3.out⟩
end Go.Proofs.Ytgjhmpmjbedjoaa
