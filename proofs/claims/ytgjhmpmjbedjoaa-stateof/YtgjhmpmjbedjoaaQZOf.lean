/- state.Of, state.New. Over the translation. (Written by tools/genzof.py.) -/
import Derived.Test.YtgjhmpmjbedjoaaQZSs
import Derived.Test.YtgjhmpmjbedjoaaQZRi
import Derived.Test.YtgjhmpmjbedjoaaQSCo
namespace Go.Proofs.Ytgjhmpmjbedjoaa
open Go.RowKit Apo
set_option maxRecDepth 100000 in
theorem fin_Of17 {W : World} {g : Nat} {c0 c1 c2 c3 c4 c5 c6 er : Value} {tmps : Array Value} {Q : Ending → World → Prop} (k : Ob W g 27 [c0, c1, c2, c3, c4, c5, c6]) (h2 : tmps.getD 2 undef = .pointer (some ⟨g, 0, none⟩)) (h3 : tmps.getD 3 undef = er) (hq : Q (.returned (.tuple #[.agg #[c0, c1, c2, c3, c4, c5, c6], er])) W) :
    bodyPost Try.prog Try.f16 Q Exit.ret { tmps := tmps, defers := [] } W := by
  have hl := run_loadVar_row (P := Try.prog) W g 27 27 #[c0, c1, c2, c3, c4, c5, c6] (0, 0) _ k Try.underlying27 rfl (by rw [size_State]; rfl)
  have h2' : tmps[2]?.getD undef = .pointer (some ⟨g, 0, none⟩) := by simpa using h2
  have h3' : tmps[3]?.getD undef = er := by simpa using h3
  refine bodyPost_ret (v := .tuple #[.agg #[c0, c1, c2, c3, c4, c5, c6], er]) ?_ rfl hq
  simp [results, Try.results16, asAddr, h2', h3', hl]
theorem rawV_few (b : List Int) : (rawV b).1.cl.length ≤ 1000 := by
  unfold rawV
  dsimp only
  exact (ofC_sz _).2
set_option maxRecDepth 100000 in
set_option maxHeartbeats 16000000 in
theorem pof_state (a : Option Addr) (cap : Nat) (b : List Int) (w : World) (hr : Rd .u8 w a b) (hn : a = none → cap = 0) (hb : InB b) (hbl : b.length ≤ 1000000) :
    Calls Try.prog 16 #[.slice a b.length cap] w (OsP w b) := by
  obtain ⟨w1, hw1⟩ : ∃ w1, w1 = w.alloc (.cells #[.string ⟨#[]⟩, .int .u64 0, .int .u64 0, .int .u64 0, .slice none 0 0, .slice none 0 0, .slice none 0 0] 27) := ⟨_, rfl⟩
  have b1 : Below w.heap.size w w1 := by rw [hw1]; exact (Below.refl _ w).alloc (Nat.le_refl _) _
  have s1 : w1.heap.size = w.heap.size + 1 := by rw [hw1]; simp
  have zo1 : Ob w1 w.heap.size 27 (cSv zeroA17) := by rw [hw1]; exact Ob.new w [.string ⟨#[]⟩, .int .u64 0, .int .u64 0, .int .u64 0, .slice none 0 0, .slice none 0 0, .slice none 0 0] 27
  have HC1 := hide (read_any a cap b w1 (hr.below b1) hn hb (by omega))
  have HB1 := hide b1
  have HZ1 := hide zo1
  have HL := hide hbl
  obtain ⟨bn, hbn⟩ : ∃ bn, bn = b.length := ⟨_, rfl⟩
  rw [← hbn] at HC1 ⊢
  rw [hw1] at HC1
  have hfew := rawV_few b
  have HOF := hide (ofS_raw b)
  clear hr hn hb hbl b1 zo1 hbn
  go_enter Try.func16, Try.ntmps16
  go_wp2_with fail
  refine HC1.out.mono ?_
  rintro e w2 ⟨p, g, rfl, r2, p1, p2, p3, p4, b2⟩
  rw [← hw1] at p1 p2 b2
  obtain ⟨W3, hW3⟩ : ∃ W3, W3 = w2.alloc (.cells #[.pointer (some ⟨p, 0, none⟩)] 79) := ⟨_, rfl⟩
  have b3 : Below w2.heap.size w2 W3 := by rw [hW3]; exact (Below.refl _ w2).alloc (Nat.le_refl _) _
  have s3 : W3.heap.size = w2.heap.size + 1 := by rw [hW3]; simp
  have k3 : Ob W3 w2.heap.size 79 [.pointer (some ⟨p, 0, none⟩)] := by rw [hW3]; exact Ob.new w2 [.pointer (some ⟨p, 0, none⟩)] _
  have x0 := k3.cell 0
  simp only [List.getElem?_cons_zero] at x0
  have HC2 := hide (state_p p g b W3 (r2.old b3) (by omega) HL.out)
  have hB3 : Below w.heap.size w W3 := (HB1.out.trans (b2.mono (by omega))).trans (b3.mono (by have := b2.size; omega))
  have HB3 := hide hB3
  have HZ3 := hide ((HZ1.out.old b2).old b3)
  have HK3 := hide k3
  have z2 := b2.size
  rw [hW3] at HC2 x0
  clear HC1 r2 b2 b3 k3 hB3 HB1 HZ1 hw1
  go_wp2_with fail
  refine HC2.out.mono ?_
  rintro e w4 ⟨⟨s, ra, rc, ma, mc, ca, cc⟩, rfl, hx, hsv, had, r4, g4⟩
  rw [← hW3] at g4 had
  simp only at hx
  obtain ⟨R, hR⟩ : ∃ R, R = rawV b := ⟨_, rfl⟩
  rw [← hR] at hx r4 hfew HOF ⊢
  obtain ⟨Rs, ce, st⟩ := R
  simp only at hx r4 hfew HOF ⊢
  subst hx
  have o4 := grown_onl g4
  have z4 := g4.size
  have hk4 := HK3.out.onl o4 (by omega)
  have hz4 := HZ3.out.onl o4 (by omega)
  have hb4 : Below w.heap.size w w4 := Below.onl HB3.out o4 (fun i z => by omega) (Nat.le_refl _)
  have hn1 : (cSv ⟨s, ra, rc, ma, mc, ca, cc⟩) = [.string s.hd, .int .u64 s.wk, .int .u64 s.nx, .int .u64 s.pd, .slice ra s.rf.length rc, .slice ma s.md.length mc, .slice ca s.cl.length cc] := rfl
  rw [hn1]
  obtain ⟨W5, hW5⟩ : ∃ W5, W5 = w4.alloc (.cells #[.string s.hd, .int .u64 s.wk, .int .u64 s.nx, .int .u64 s.pd, .slice ra s.rf.length rc, .slice ma s.md.length mc, .slice ca s.cl.length cc] 27) := ⟨_, rfl⟩
  have b5 : Below w4.heap.size w4 W5 := by rw [hW5]; exact (Below.refl _ w4).alloc (Nat.le_refl _) _
  have k5 : Ob W5 w4.heap.size 27 [.string s.hd, .int .u64 s.wk, .int .u64 s.nx, .int .u64 s.pd, .slice ra s.rf.length rc, .slice ma s.md.length mc, .slice ca s.cl.length cc] := by rw [hW5]; exact Ob.new w4 [.string s.hd, .int .u64 s.wk, .int .u64 s.nx, .int .u64 s.pd, .slice ra s.rf.length rc, .slice ma s.md.length mc, .slice ca s.cl.length cc] _
  have HSV := hide (hsv.below b5)
  have HADR : Hid (∀ ad : Addr, (ra = some ad ∨ ma = some ad ∨ ca = some ad) → ad.block ≠ w.heap.size) := hide (fun ad h => by have := had ad h; omega)
  have HRI := hide (right17 ⟨s, ra, rc, ma, mc, ca, cc⟩ W5 HSV.out (by show s.cl.length ≤ _; omega))
  rw [hn1] at HRI
  have HDN := hide (rddone_any p g st W5 (r4.old b5))
  have y0 := (hk4.old b5).cell 0
  simp only [List.getElem?_cons_zero] at y0
  have hz5 := hz4.old b5
  have HBW := hide (hb4.trans (b5.mono (by have := hb4.size; omega)))
  have HZO : Hid (Ob W5 w.heap.size 27 [.string ⟨#[]⟩, .int .u64 0, .int .u64 0, .int .u64 0, .slice none 0 0, .slice none 0 0, .slice none 0 0]) := hide hz5
  obtain ⟨E, hE⟩ : ∃ E, E = stateE s := ⟨_, rfl⟩
  simp only at HRI
  rw [← hE] at HRI
  have HE := hide hE
  have HYQ : Hid (cSv ⟨s, ra, rc, ma, mc, ca, cc⟩ = [.string s.hd, .int .u64 s.wk, .int .u64 s.nx, .int .u64 s.pd, .slice ra s.rf.length rc, .slice ma s.md.length mc, .slice ca s.cl.length cc]) := hide hn1
  have HK5 := hide k5
  have d0 := k5.cell 0
  have d1 := k5.cell 1
  have d2 := k5.cell 2
  have d3 := k5.cell 3
  have d4 := k5.cell 4
  have d5 := k5.cell 5
  have d6 := k5.cell 6
  simp only [List.getElem?_cons_succ, List.getElem?_cons_zero] at d0 d1 d2 d3 d4 d5 d6
  have e0 := hz5.cell 0
  have e1 := hz5.cell 1
  have e2 := hz5.cell 2
  have e3 := hz5.cell 3
  have e4 := hz5.cell 4
  have e5 := hz5.cell 5
  have e6 := hz5.cell 6
  have f0 := hz5.frozen 0
  have f1 := hz5.frozen 1
  have f2 := hz5.frozen 2
  have f3 := hz5.frozen 3
  have f4 := hz5.frozen 4
  have f5 := hz5.frozen 5
  have f6 := hz5.frozen 6
  simp only [cSv, zeroA17, zeroSv, List.length_nil, List.getElem?_cons_succ, List.getElem?_cons_zero] at e0 e1 e2 e3 e4 e5 e6
  rw [hW5] at y0 d0 d1 d2 d3 d4 d5 d6 e0 e1 e2 e3 e4 e5 e6 f0 f1 f2 f3 f4 f5 f6 HDN
  have HW5 := hide hW5
  clear HC2 hsv r4 g4 o4 hk4 hz4 hb4 b5 k5 hz5 hn1 hE HK3 HZ3 HB3 hR x0 hW3 z4 had
  by_cases hce : ce = 0
  rotate_left
  · have dce : (ce != 0) = true := by simpa using hce
    have HB := hide (by rw [HOF.out]; exact finS_bad (fun z => hce z.1) : ofS b = (zeroSv, 20))
    clear hce
    rw [HW5.out] at HZO HBW
    go_wp2
    obtain ⟨WF, hWF⟩ : ∃ WF, WF = ((((((((w4.alloc (.cells #[.string s.hd, .int .u64 s.wk, .int .u64 s.nx, .int .u64 s.pd, .slice ra s.rf.length rc, .slice ma s.md.length mc, .slice ca s.cl.length cc] 27))).setCell ⟨w.heap.size, 0, none⟩ (.string ⟨#[]⟩)).setCell ⟨w.heap.size, 1, none⟩ (.int .u64 0)).setCell ⟨w.heap.size, 2, none⟩ (.int .u64 0)).setCell ⟨w.heap.size, 3, none⟩ (.int .u64 0)).setCell ⟨w.heap.size, 4, none⟩ (.slice none 0 0)).setCell ⟨w.heap.size, 5, none⟩ (.slice none 0 0)).setCell ⟨w.heap.size, 6, none⟩ (.slice none 0 0) := ⟨_, rfl⟩
    obtain ⟨kF, oF⟩ := ob_store7 HZO.out hWF
    rw [← hWF]
    exact fin_Of17 kF rfl rfl (osP_bad HB.out (Below.onl HBW.out oF (fun i z => by omega) (Nat.le_refl _)))
  have dce : (ce != 0) = false := by simpa using hce
  have HCE := hide hce
  clear hce
  by_cases hdn : st = some []
  rotate_left
  · have ddn : decide (st = some []) = false := by simpa using hdn
    rw [ddn] at HDN
    have HB := hide (by rw [HOF.out]; exact finS_bad (fun z => hdn z.2.1) : ofS b = (zeroSv, 20))
    clear hdn ddn
    rw [HW5.out] at HZO HBW
    go_wp2_with fail
    refine HDN.out.mono ?_
    rintro e w17 ⟨rfl, rfl⟩
    go_wp2
    obtain ⟨WF, hWF⟩ : ∃ WF, WF = ((((((((w4.alloc (.cells #[.string s.hd, .int .u64 s.wk, .int .u64 s.nx, .int .u64 s.pd, .slice ra s.rf.length rc, .slice ma s.md.length mc, .slice ca s.cl.length cc] 27))).setCell ⟨w.heap.size, 0, none⟩ (.string ⟨#[]⟩)).setCell ⟨w.heap.size, 1, none⟩ (.int .u64 0)).setCell ⟨w.heap.size, 2, none⟩ (.int .u64 0)).setCell ⟨w.heap.size, 3, none⟩ (.int .u64 0)).setCell ⟨w.heap.size, 4, none⟩ (.slice none 0 0)).setCell ⟨w.heap.size, 5, none⟩ (.slice none 0 0)).setCell ⟨w.heap.size, 6, none⟩ (.slice none 0 0) := ⟨_, rfl⟩
    obtain ⟨kF, oF⟩ := ob_store7 HZO.out hWF
    rw [← hWF]
    exact fin_Of17 kF rfl rfl (osP_bad HB.out (Below.onl HBW.out oF (fun i z => by omega) (Nat.le_refl _)))
  have ddn : decide (st = some []) = true := by simpa using hdn
  rw [ddn] at HDN
  have HDE := hide hdn
  clear hdn ddn
  go_wp2_with fail
  refine HDN.out.mono ?_
  rintro e w17 ⟨rfl, rfl⟩
  rw [← HW5.out]
  rw [← HW5.out] at d0 d1 d2 d3 d4 d5 d6
  clear y0 e0 e1 e2 e3 e4 e5 e6 f0 f1 f2 f3 f4 f5 f6 HDN
  clear hW5
  go_wp2_with fail
  refine HRI.out.mono ?_
  rintro e w18 ⟨rfl, b18⟩
  have HZ18 := hide (HZO.out.old b18)
  have HB18 := hide (HBW.out.trans (b18.mono HBW.out.size))
  have q18 := HK5.out.old b18
  have HSV18 := hide (HSV.out.below b18)
  clear d0 d1 d2 d3 d4 d5 d6 HZO HBW
  have HZO := HZ18
  have HBW := HB18
  have d0 := q18.cell 0
  have d1 := q18.cell 1
  have d2 := q18.cell 2
  have d3 := q18.cell 3
  have d4 := q18.cell 4
  have d5 := q18.cell 5
  have d6 := q18.cell 6
  have e0 := HZ18.out.cell 0
  have e1 := HZ18.out.cell 1
  have e2 := HZ18.out.cell 2
  have e3 := HZ18.out.cell 3
  have e4 := HZ18.out.cell 4
  have e5 := HZ18.out.cell 5
  have e6 := HZ18.out.cell 6
  have f0 := HZ18.out.frozen 0
  have f1 := HZ18.out.frozen 1
  have f2 := HZ18.out.frozen 2
  have f3 := HZ18.out.frozen 3
  have f4 := HZ18.out.frozen 4
  have f5 := HZ18.out.frozen 5
  have f6 := HZ18.out.frozen 6
  simp only [List.getElem?_cons_succ, List.getElem?_cons_zero] at d0 d1 d2 d3 d4 d5 d6 e0 e1 e2 e3 e4 e5 e6
  clear b18 q18 HZ18 HB18 HRI
  by_cases hE0 : E = 0
  rotate_left
  · have dE : (E != 0) = true := by simpa using hE0
    have HB := hide (by rw [HOF.out]; exact finS_bad (fun z => hE0 (by rw [HE.out]; exact z.2.2)) : ofS b = (zeroSv, 20))
    clear hE0
    go_wp2
    obtain ⟨WF, hWF⟩ : ∃ WF, WF = (((((((w18).setCell ⟨w.heap.size, 0, none⟩ (.string ⟨#[]⟩)).setCell ⟨w.heap.size, 1, none⟩ (.int .u64 0)).setCell ⟨w.heap.size, 2, none⟩ (.int .u64 0)).setCell ⟨w.heap.size, 3, none⟩ (.int .u64 0)).setCell ⟨w.heap.size, 4, none⟩ (.slice none 0 0)).setCell ⟨w.heap.size, 5, none⟩ (.slice none 0 0)).setCell ⟨w.heap.size, 6, none⟩ (.slice none 0 0) := ⟨_, rfl⟩
    obtain ⟨kF, oF⟩ := ob_store7 HZO.out hWF
    rw [← hWF]
    exact fin_Of17 kF rfl rfl (osP_bad HB.out (Below.onl HBW.out oF (fun i z => by omega) (Nat.le_refl _)))
  have dE : (E != 0) = false := by simpa using hE0
  have HB := hide (by rw [HOF.out]; exact finS_ok HCE.out HDE.out (by rw [← HE.out]; exact hE0) : ofS b = (s, 0))
  clear hE0
  go_wp2
  obtain ⟨WF, hWF⟩ : ∃ WF, WF = (((((((w18).setCell ⟨w.heap.size, 0, none⟩ (.string s.hd)).setCell ⟨w.heap.size, 1, none⟩ (.int .u64 s.wk)).setCell ⟨w.heap.size, 2, none⟩ (.int .u64 s.nx)).setCell ⟨w.heap.size, 3, none⟩ (.int .u64 s.pd)).setCell ⟨w.heap.size, 4, none⟩ (.slice ra s.rf.length rc)).setCell ⟨w.heap.size, 5, none⟩ (.slice ma s.md.length mc)).setCell ⟨w.heap.size, 6, none⟩ (.slice ca s.cl.length cc) := ⟨_, rfl⟩
  obtain ⟨kF, oF⟩ := ob_store7 HZO.out hWF
  rw [← hWF]
  refine fin_Of17 (er := .int .i64 0) kF rfl rfl ?_
  unfold OsP
  rw [HB.out]
  have hyq := HYQ.out
  have hsv := HSV18.out
  exact ⟨⟨s, ra, rc, ma, mc, ca, cc⟩, by rw [hyq], rfl, { hsv with rr := hsv.rr.onl oF (fun ad e => HADR.out ad (.inl e)), mr := hsv.mr.onl oF (fun ad e => HADR.out ad (.inr (.inl e))), cr := hsv.cr.onl oF (fun ad e => HADR.out ad (.inr (.inr e))) }, Below.onl HBW.out oF (fun i z => by omega) (Nat.le_refl _)⟩
open Classical in
set_option maxRecDepth 100000 in
theorem fin_New17 {W : World} {g : Nat} {c0 c1 c2 c3 c4 c5 c6 : Value} {tmps : Array Value} {Q : Ending → World → Prop} (k : Ob W g 27 [c0, c1, c2, c3, c4, c5, c6]) (h2 : tmps.getD 0 undef = .pointer (some ⟨g, 0, none⟩)) (hq : Q (.returned (.agg #[c0, c1, c2, c3, c4, c5, c6])) W) :
    bodyPost Try.prog Try.f18 Q Exit.ret { tmps := tmps, defers := [] } W := by
  have hl := run_loadVar_row (P := Try.prog) W g 27 27 #[c0, c1, c2, c3, c4, c5, c6] (0, 0) _ k Try.underlying27 rfl (by rw [size_State]; rfl)
  have h2' : tmps[0]?.getD undef = .pointer (some ⟨g, 0, none⟩) := by simpa using h2
  refine bodyPost_ret (v := .agg #[c0, c1, c2, c3, c4, c5, c6]) ?_ rfl hq
  simp [results, Try.results18, asAddr, h2', hl]
set_option maxRecDepth 100000 in
set_option maxHeartbeats 4000000 in
theorem new17 (w : World) : Calls Try.prog 18 #[] w (NsP w) := by
  obtain ⟨w1, hw1⟩ : ∃ w1, w1 = w.alloc (.cells #[.string ⟨#[109, 97, 105, 110]⟩, .int .u64 0, .int .u64 1, .int .u64 0, .slice (some ⟨w.heap.size + 1, 0, none⟩) 1 1, .slice none 0 0, .slice none 0 0] 27) := ⟨_, rfl⟩
  have b1 : Below w.heap.size w w1 := by rw [hw1]; exact (Below.refl _ w).alloc (Nat.le_refl _) _
  have s1 : w1.heap.size = w.heap.size + 1 := by rw [hw1]; simp
  obtain ⟨w2, hw2⟩ : ∃ w2, w2 = w1.alloc (.cells #[.string ⟨#[109, 97, 105, 110]⟩, .bool false, .int .u64 0] 57) := ⟨_, rfl⟩
  have b2 : Below w1.heap.size w1 w2 := by rw [hw2]; exact (Below.refl _ w1).alloc (Nat.le_refl _) _
  have kF : Ob w2 w.heap.size 27 [.string ⟨#[109, 97, 105, 110]⟩, .int .u64 0, .int .u64 1, .int .u64 0, .slice (some ⟨w.heap.size + 1, 0, none⟩) 1 1, .slice none 0 0, .slice none 0 0] := by
    have : Ob w1 w.heap.size 27 [.string ⟨#[109, 97, 105, 110]⟩, .int .u64 0, .int .u64 1, .int .u64 0, .slice (some ⟨w.heap.size + 1, 0, none⟩) 1 1, .slice none 0 0, .slice none 0 0] := by rw [hw1]; exact Ob.new w [.string ⟨#[109, 97, 105, 110]⟩, .int .u64 0, .int .u64 1, .int .u64 0, .slice (some ⟨w.heap.size + 1, 0, none⟩) 1 1, .slice none 0 0, .slice none 0 0] _
    exact this.old b2
  have lit : RdG cRf 3 w2 (some ⟨w1.heap.size, 0, none⟩) [⟨⟨#[109, 97, 105, 110]⟩, false, 0⟩] := by rw [hw2]; exact rd_lit _ w1 (⟨⟨#[109, 97, 105, 110]⟩, false, 0⟩ : Rf)
  have HB := hide (b1.trans (b2.mono (by omega)))
  have HZO := hide kF
  have HLIT := hide lit
  have HW2 := hide hw2
  have HW1 := hide hw1
  clear b1 b2 kF lit hw1 hw2
  go_enter Try.func18, Try.ntmps18
  go_wp2
  rw [← HW1.out, ← HW2.out]
  refine fin_New17 HZO.out rfl ?_
  refine ⟨⟨newS, some ⟨w.heap.size + 1, 0, none⟩, 1, none, 0, none, 0⟩, rfl, rfl, ?_, HB.out⟩
  refine ⟨?_, RdG.nil _ _, RdG.nil _ _, by show 4 ≤ maxLen; unfold maxLen; omega, fun r hr => ?_, fun f hf => by simp [newS] at hf, newS_nz.n3, newS_nz.ri, newS_nz.mi, ?_, ?_, ?_⟩
  · have := HLIT.out
    rw [s1] at this
    exact this
  · simp only [newS, List.mem_singleton] at hr
    subst hr
    show 4 ≤ maxLen
    unfold maxLen
    omega
  all_goals exact ⟨by simp [newS], by first | exact Nat.zero_le _ | (show 1 ≤ maxLen; unfold maxLen; omega)⟩
end Go.Proofs.Ytgjhmpmjbedjoaa
