/- state's reader: number, ref, made. Over the translation. -/
import Derived.Test.YtgjhmpmjbedjoaaQSXo
import Derived.Test.YtgjhmpmjbedjoaaQCOf
namespace Go.Proofs.Ytgjhmpmjbedjoaa
open Go.RowKit Apo
set_option maxRecDepth 100000 in
set_option maxHeartbeats 1000000 in
theorem number_p (p g : Nat) (st : St) (w : World) (h : Rr w p 99 g st) :
    Calls Try.prog 59 #[.agg #[.pointer (some ⟨p, 0, none⟩)]] w fun e w' => e = .returned (.int .u64 (rnum st fullS).1) ∧ Rr w' p 99 g (rnum st fullS).2 ∧ w.grownBy w' (some p) := by
  have b0 : Below w.heap.size w (w.alloc (.cells #[.pointer (some ⟨p, 0, none⟩)] 79)) := (Below.refl _ w).alloc (Nat.le_refl _) _
  have HC := hide (rdnum_any p g st fullS _ (h.old b0))
  have k0 := (Ob.new w [.pointer (some ⟨p, 0, none⟩)] 79).cell 0
  simp only [List.getElem?_cons_zero] at k0
  have HB := hide b0
  clear h b0
  unfold fullS at HC ⊢
  go_enter Try.func59, Try.ntmps59
  go_wp2_with fail
  refine HC.out.mono ?_
  rintro e w1 ⟨rfl, r1, g1⟩
  have R1 := hide r1
  have G1 := hide (grew_trans (grew_below (some p) HB.out) g1)
  clear r1 g1 HC
  go_wp2
  go_ret
  exact ⟨rfl, R1.out, G1.out⟩
set_option maxRecDepth 100000 in
theorem size_Rf17 : (Try.prog.info? 57).map (·.size) = some 3 := by kernel_rfl
set_option maxRecDepth 100000 in
theorem size_Mk17 : (Try.prog.info? 60).map (·.size) = some 2 := by kernel_rfl
set_option maxRecDepth 100000 in
theorem fin_Rf17 {W : World} {g : Nat} {c0 c1 c2 : Value} {tmps : Array Value} {Q : Ending → World → Prop} (k : Ob W g 57 [c0, c1, c2]) (h4 : tmps.getD 2 undef = .pointer (some ⟨g, 0, none⟩)) (hq : Q (.returned (.agg #[c0, c1, c2])) W) :
    bodyPost Try.prog Try.f62 Q Exit.ret { tmps := tmps, defers := [] } W := by
  have hl := run_loadVar_row (P := Try.prog) W g 57 57 #[c0, c1, c2] (0, 0) _ k Try.underlying57 rfl (by rw [size_Rf17]; rfl)
  have h4' : tmps[2]?.getD undef = .pointer (some ⟨g, 0, none⟩) := by simpa using h4
  refine bodyPost_ret (v := .agg #[c0, c1, c2]) ?_ rfl hq
  simp [results, Try.results62, asAddr, h4', hl]
set_option maxRecDepth 100000 in
theorem fin_Mk17 {W : World} {g : Nat} {c0 c1 : Value} {tmps : Array Value} {Q : Ending → World → Prop} (k : Ob W g 60 [c0, c1]) (h4 : tmps.getD 2 undef = .pointer (some ⟨g, 0, none⟩)) (hq : Q (.returned (.agg #[c0, c1])) W) :
    bodyPost Try.prog Try.f64 Q Exit.ret { tmps := tmps, defers := [] } W := by
  have hl := run_loadVar_row (P := Try.prog) W g 60 60 #[c0, c1] (0, 0) _ k Try.underlying60 rfl (by rw [size_Mk17]; rfl)
  have h4' : tmps[2]?.getD undef = .pointer (some ⟨g, 0, none⟩) := by simpa using h4
  refine bodyPost_ret (v := .agg #[c0, c1]) ?_ rfl hq
  simp [results, Try.results64, asAddr, h4', hl]
set_option maxRecDepth 100000 in
set_option maxHeartbeats 4000000 in
theorem ref_p (p g : Nat) (st : St) (w : World) (h : Rr w p 99 g st) (hg : g < w.heap.size) :
    Calls Try.prog 62 #[.agg #[.pointer (some ⟨p, 0, none⟩)]] w fun e w' => e = .returned (.agg #[.string (rfS st).1.n, .bool (rfS st).1.t, .int .u64 (rfS st).1.i]) ∧ Rr w' p 99 g (rfS st).2 ∧ w.grownBy w' (some p) := by
  have hp := h.lt
  have kr := Ob.new (w.alloc (.cells #[.pointer (some ⟨p, 0, none⟩)] 79)) [.string ByteArray.empty, .bool false, .int .u64 0] 57
  have kb1 := (Ob.new w [.pointer (some ⟨p, 0, none⟩)] 79).alloc (.cells #[.string ByteArray.empty, .bool false, .int .u64 0] 57)
  have bb : Below w.heap.size w ((w.alloc (.cells #[.pointer (some ⟨p, 0, none⟩)] 79)).alloc (.cells #[.string ByteArray.empty, .bool false, .int .u64 0] 57)) := ((Below.refl _ w).alloc (Nat.le_refl _) _).alloc (by simp) _
  simp only [World.size_alloc] at kr
  have HC1 := hide (rdtext_any p g st 20 _ (h.old bb) (by omega))
  have HBB := hide bb
  have HKB := hide kb1
  have HKR := hide kr
  have d0 := kb1.cell 0
  simp only [List.getElem?_cons_zero] at d0
  clear h kb1 kr bb
  go_enter Try.func62, Try.ntmps62
  go_wp2_with fail
  refine HC1.out.mono ?_
  rintro e w1 ⟨rfl, r1, g1⟩
  have kb2 := HKB.out.kept g1 (by intro e; have e2 := Option.some.inj e; omega)
  have kr2 := HKR.out.kept g1 (by intro e; have e2 := Option.some.inj e; omega)
  have d1 := kb2.cell 0
  simp only [List.getElem?_cons_zero] at d1
  have HKB2 := hide kb2
  have HC2 := hide (rdflag_any p g (rtext st 20).2 w1 r1)
  have HG1 := hide (grew_trans (grew_below (some p) HBB.out) g1)
  have HKR2 := hide kr2
  obtain ⟨nm, hnm⟩ : ∃ nm, nm = strOfNums (rtext st 20).1 := ⟨_, rfl⟩
  obtain ⟨q1, hq1⟩ : ∃ q1, q1 = w.heap.size + 1 := ⟨_, rfl⟩
  rw [← hnm, ← hq1]
  rw [← hq1] at HKR2
  have HNM := hide hnm
  have hq2 : q1 ≠ p := by omega
  have hq3 : q1 ≠ g := by omega
  have hq4 : w.heap.size ≤ q1 := by omega
  clear HC1 kb2 kr2 r1 g1 hnm hq1 HKR HKB d0
  go_wp2_with fail
  refine HC2.out.mono ?_
  rintro e w2 ⟨rfl, r2, g2⟩
  have kb3 := HKB2.out.kept g2 (by intro e; have e2 := Option.some.inj e; omega)
  have kr3 := HKR2.out.kept g2 (by intro e; have e2 := Option.some.inj e; omega)
  have d2 := kb3.cell 0
  simp only [List.getElem?_cons_zero] at d2
  have HC3 := hide (number_p p g (rflag (rtext st 20).2).2 w2 r2)
  have HG2 := hide (grew_trans HG1.out g2)
  have HKR3 := hide kr3
  obtain ⟨tg, htg⟩ : ∃ tg, tg = (rflag (rtext st 20).2).1 := ⟨_, rfl⟩
  rw [← htg]
  have HTG := hide htg
  clear HC2 kb3 kr3 r2 g2 htg HKR2 HKB2 d1 HG1
  go_wp2_with fail
  refine HC3.out.mono ?_
  rintro e w3 ⟨rfl, r3, g3⟩
  have kr4 := HKR3.out.kept g3 (by intro e; have e2 := Option.some.inj e; omega)
  have f0 := kr4.frozen 0
  have f1 := kr4.frozen 1
  have f2 := kr4.frozen 2
  have x0 := kr4.cell 0
  have x1 := kr4.cell 1
  have x2 := kr4.cell 2
  simp only [List.getElem?_cons_zero, List.getElem?_cons_succ] at x0 x1 x2
  obtain ⟨id, hid⟩ : ∃ id, id = (rnum (rflag (rtext st 20).2).2 fullS).1 := ⟨_, rfl⟩
  rw [← hid]
  have HID := hide hid
  have o8 : Onl (fun i => i = q1) w3 (((w3.setCell ⟨q1, 0, none⟩ (.string nm)).setCell ⟨q1, 1, none⟩ (.bool tg)).setCell ⟨q1, 2, none⟩ (.int .u64 id)) := (((Onl.refl (fun i => i = q1) w3).set (p := q1) (.inl rfl) _).set (p := q1) (.inl rfl) _).set (p := q1) (.inl rfl) _
  have HR4 := hide (Rr.onl r3 o8 (fun e => hq2 e.symm) (fun e => hq3 e.symm))
  have HK4 := hide (((kr4.set 0 (.string nm)).set 1 (.bool tg)).set 2 (.int .u64 id))
  have HG4 := hide (grew_onl (grew_trans HG2.out g3) o8 (fun i q => by omega))
  clear HC3 r3 g3 kr4 o8 hid HKR3 HG2 d2
  go_wp2
  refine fin_Rf17 HK4.out rfl ?_
  refine ⟨?_, HR4.out, HG4.out⟩
  unfold rfS
  simp only
  rw [← HNM.out, ← HTG.out, ← HID.out]
set_option maxRecDepth 100000 in
set_option maxHeartbeats 4000000 in
theorem made_p (p g : Nat) (st : St) (w : World) (h : Rr w p 99 g st) (hg : g < w.heap.size) :
    Calls Try.prog 64 #[.agg #[.pointer (some ⟨p, 0, none⟩)]] w fun e w' => e = .returned (.agg #[.int .u64 (mdS st).1.id, .int .u64 (mdS st).1.ch]) ∧ Rr w' p 99 g (mdS st).2 ∧ w.grownBy w' (some p) := by
  have hp := h.lt
  have kr := Ob.new (w.alloc (.cells #[.pointer (some ⟨p, 0, none⟩)] 79)) [.int .u64 0, .int .u64 0] 60
  have kb1 := (Ob.new w [.pointer (some ⟨p, 0, none⟩)] 79).alloc (.cells #[.int .u64 0, .int .u64 0] 60)
  have bb : Below w.heap.size w ((w.alloc (.cells #[.pointer (some ⟨p, 0, none⟩)] 79)).alloc (.cells #[.int .u64 0, .int .u64 0] 60)) := ((Below.refl _ w).alloc (Nat.le_refl _) _).alloc (by simp) _
  simp only [World.size_alloc] at kr
  have HC1 := hide (number_p p g st _ (h.old bb))
  have HBB := hide bb
  have HKB := hide kb1
  have HKR := hide kr
  have d0 := kb1.cell 0
  simp only [List.getElem?_cons_zero] at d0
  clear h kb1 kr bb
  go_enter Try.func64, Try.ntmps64
  go_wp2_with fail
  refine HC1.out.mono ?_
  rintro e w1 ⟨rfl, r1, g1⟩
  have kb2 := HKB.out.kept g1 (by intro e; have e2 := Option.some.inj e; omega)
  have kr2 := HKR.out.kept g1 (by intro e; have e2 := Option.some.inj e; omega)
  have d1 := kb2.cell 0
  simp only [List.getElem?_cons_zero] at d1
  have HC2 := hide (number_p p g (rnum st fullS).2 w1 r1)
  have HG1 := hide (grew_trans (grew_below (some p) HBB.out) g1)
  have HKR2 := hide kr2
  obtain ⟨nm, hnm⟩ : ∃ nm, nm = (rnum st fullS).1 := ⟨_, rfl⟩
  obtain ⟨q1, hq1⟩ : ∃ q1, q1 = w.heap.size + 1 := ⟨_, rfl⟩
  rw [← hnm, ← hq1]
  rw [← hq1] at HKR2
  have HNM := hide hnm
  have hq2 : q1 ≠ p := by omega
  have hq3 : q1 ≠ g := by omega
  have hq4 : w.heap.size ≤ q1 := by omega
  clear HC1 kb2 kr2 r1 g1 hnm hq1 HKR HKB d0
  go_wp2_with fail
  refine HC2.out.mono ?_
  rintro e w3 ⟨rfl, r3, g3⟩
  have kr4 := HKR2.out.kept g3 (by intro e; have e2 := Option.some.inj e; omega)
  have f0 := kr4.frozen 0
  have f1 := kr4.frozen 1
  have x0 := kr4.cell 0
  have x1 := kr4.cell 1
  simp only [List.getElem?_cons_zero, List.getElem?_cons_succ] at x0 x1
  obtain ⟨id, hid⟩ : ∃ id, id = (rnum (rnum st fullS).2 fullS).1 := ⟨_, rfl⟩
  rw [← hid]
  have HID := hide hid
  have o8 : Onl (fun i => i = q1) w3 ((w3.setCell ⟨q1, 0, none⟩ (.int .u64 nm)).setCell ⟨q1, 1, none⟩ (.int .u64 id)) := ((Onl.refl (fun i => i = q1) w3).set (p := q1) (.inl rfl) _).set (p := q1) (.inl rfl) _
  have HR4 := hide (Rr.onl r3 o8 (fun e => hq2 e.symm) (fun e => hq3 e.symm))
  have HK4 := hide ((kr4.set 0 (.int .u64 nm)).set 1 (.int .u64 id))
  have HG4 := hide (grew_onl (grew_trans HG1.out g3) o8 (fun i q => by omega))
  clear HC2 r3 g3 kr4 o8 hid HKR2 HG1 d1
  go_wp2
  refine fin_Mk17 HK4.out rfl ?_
  refine ⟨?_, HR4.out, HG4.out⟩
  unfold mdS
  simp only
  rw [← HNM.out, ← HID.out]
end Go.Proofs.Ytgjhmpmjbedjoaa
