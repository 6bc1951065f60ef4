/- conflict's reader: a side, a clash, over the translation. conflict's reader of clashes; conflict.Of, over the translation. -/
import Derived.Deep.RegionHeld3
import Derived.Test.YtgjhmpmjbedjoaaQCBy
import Derived.Test.YtgjhmpmjbedjoaaQA8
import Derived.Test.YtgjhmpmjbedjoaaQCRi
namespace Go.Proofs.Ytgjhmpmjbedjoaa
open Go.RowKit Apo
theorem Rr.onl {F : Nat → Prop} {w w' : World} {p g : Nat} {t : TypeId} {st : St} (h : Rr w p t g st) (o : Onl F w w') (hp : ¬ F p) (hg : ¬ F g) : Rr w' p t g st := by
  cases st with
  | none => exact Ob.onl h o hp
  | some l =>
    obtain ⟨a, cap, h1, h2, h3, h4, h5, h6, h7⟩ := h
    exact ⟨a, cap, h1.onl o hp, h2.onl o (fun x hx h0 => by rw [(h5 x hx h0).1]; exact hg), h3, h4, fun x hx h0 => ⟨(h5 x hx h0).1, (h5 x hx h0).2.1, Nat.lt_of_lt_of_le (h5 x hx h0).2.2 o.size⟩, h6, h7⟩
theorem grew_onl {a b c : World} {row : Option Nat} {F : Nat → Prop} (h : a.grownBy b row) (o : Onl F b c) (hF : ∀ i, F i → a.heap.size ≤ i) : a.grownBy c row :=
  ⟨o.os.trans h.os, o.tape.trans h.tape, o.output.trans h.output, Nat.le_trans h.size o.size, fun i hi hr => (o.block i (Nat.lt_of_lt_of_le hi h.size) (fun q => absurd (hF i q) (Nat.not_le.2 hi))).trans (h.block i hi hr)⟩
set_option maxRecDepth 100000 in
theorem size_Si : (Try.prog.info? 73).map (·.size) = some 2 := by kernel_rfl
set_option maxRecDepth 100000 in
theorem fin_Si {W : World} {g : Nat} {c0 c1 : Value} {tmps : Array Value} {Q : Ending → World → Prop} (k : Ob W g 73 [c0, c1]) (h4 : tmps.getD 2 undef = .pointer (some ⟨g, 0, none⟩)) (hq : Q (.returned (.agg #[c0, c1])) W) :
    bodyPost Try.prog Try.f83 Q Exit.ret { tmps := tmps, defers := [] } W := by
  have hl := run_loadVar_row (P := Try.prog) W g 73 73 #[c0, c1] (0, 0) _ k Try.underlying73 rfl (by rw [size_Si]; rfl)
  have h4' : tmps[2]?.getD undef = .pointer (some ⟨g, 0, none⟩) := by simpa using h4
  refine bodyPost_ret (v := .agg #[c0, c1]) ?_ rfl hq
  simp [results, Try.results83, asAddr, h4', hl]
set_option maxRecDepth 100000 in
set_option maxHeartbeats 1000000 in
theorem side_p (p g : Nat) (st : St) (w : World) (h : Rr w p 99 g st) (hg : g < w.heap.size) :
    Calls Try.prog 83 #[.agg #[.pointer (some ⟨p, 0, none⟩)]] w fun e w' => e = .returned (.agg #[.bool (siS st).1.b, .string (siS st).1.v]) ∧ Rr w' p 99 g (siS st).2 ∧ w.grownBy w' (some p) := by
  have hp := h.lt
  have kr := Ob.new (w.alloc (.cells #[.pointer (some ⟨p, 0, none⟩)] 117)) [.bool false, .string ByteArray.empty] 73
  have kb1 := (Ob.new w [.pointer (some ⟨p, 0, none⟩)] 117).alloc (.cells #[.bool false, .string ByteArray.empty] 73)
  have bb : Below w.heap.size w ((w.alloc (.cells #[.pointer (some ⟨p, 0, none⟩)] 117)).alloc (.cells #[.bool false, .string ByteArray.empty] 73)) := ((Below.refl _ w).alloc (Nat.le_refl _) _).alloc (by simp) _
  simp only [World.size_alloc] at kr
  have HC1 := hide (rdflag_any p g st _ (h.old bb))
  have HBB := hide bb
  have HKB := hide kb1
  have HKR := hide kr
  clear h kb1 kr bb
  go_enter Try.func83, Try.ntmps83
  go_wp2_with fail
  refine HC1.out.mono ?_
  rintro e w1 ⟨rfl, r1, g1⟩
  have kb2 := HKB.out.kept g1 (by intro e; have e2 := Option.some.inj e; omega)
  have kr2 := HKR.out.kept g1 (by intro e; have e2 := Option.some.inj e; omega)
  have d0 := kb2.cell 0
  simp only [List.getElem?_cons_zero] at d0
  have HC2 := hide (rdtext_any p g (rflag st).2 200 w1 r1 (by omega))
  have HG1 := hide (grew_trans (grew_below (some p) HBB.out) g1)
  have HKR2 := hide kr2
  obtain ⟨key, hkey⟩ : ∃ key, key = (rflag st).1 := ⟨_, rfl⟩
  obtain ⟨q1, hq1⟩ : ∃ q1, q1 = w.heap.size + 1 := ⟨_, rfl⟩
  rw [← hkey, ← hq1]
  rw [← hq1] at HKR2
  have HKEY := hide hkey
  have hq2 : q1 ≠ p := by omega
  have hq3 : q1 ≠ g := by omega
  have hq4 : w.heap.size ≤ q1 := by omega
  clear HC1 kb2 kr2 r1 g1 hkey hq1 HKR HKB
  go_wp2_with fail
  refine HC2.out.mono ?_
  rintro e w2 ⟨rfl, r2, g2⟩
  have kr3 := HKR2.out.kept g2 (by intro e; have e2 := Option.some.inj e; omega)
  have f0 := kr3.frozen 0
  have f1 := kr3.frozen 1
  have x0 := kr3.cell 0
  have x1 := kr3.cell 1
  simp only [List.getElem?_cons_zero, List.getElem?_cons_succ] at x0 x1
  obtain ⟨val, hval⟩ : ∃ val, val = strOfNums (rtext (rflag st).2 200).1 := ⟨_, rfl⟩
  rw [← hval]
  have HVAL := hide hval
  have o8 : Onl (fun i => i = q1) w2 ((w2.setCell ⟨q1, 0, none⟩ (.bool key)).setCell ⟨q1, 1, none⟩ (.string val)) := ((Onl.refl (fun i => i = q1) w2).set (p := q1) (.inl rfl) _).set (p := q1) (.inl rfl) _
  have HR2 := hide (Rr.onl r2 o8 (fun e => hq2 e.symm) (fun e => hq3 e.symm))
  have HK3 := hide ((kr3.set 0 (.bool key)).set 1 (.string val))
  have HG2 : Hid (w.grownBy ((w2.setCell ⟨q1, 0, none⟩ (.bool key)).setCell ⟨q1, 1, none⟩ (.string val)) (some p)) := hide (grew_new (grew_new (grew_trans HG1.out g2) (grew_set w2 q1 0 (.bool key)) hq4) (grew_set _ q1 1 (.string val)) hq4)
  clear HC2 r2 g2 kr3 o8 hval HKR2 HG1
  go_wp2
  refine fin_Si HK3.out rfl ?_
  refine ⟨?_, HR2.out, HG2.out⟩
  unfold siS
  simp only
  rw [← HKEY.out, ← HVAL.out]
/-- three sides, one behind the other, where the reader's box and a clash lie beside -/
theorem sides3 (p g : Nat) (st : St) (W : World) (q0 qc : Nat) (c0 c1 c2 c3 c4 c5 c6 : Value) (h : Rr W p 99 g st) (hg : g < W.heap.size) (kb : Ob W q0 117 [.pointer (some ⟨p, 0, none⟩)]) (kc : Ob W qc 75 [c0, c1, c2, c3, c4, c5, c6]) (h0 : q0 ≠ p) (hc : qc ≠ p) :
    Calls Try.prog 83 #[.agg #[.pointer (some ⟨p, 0, none⟩)]] W fun e w3 => e = .returned (.agg #[.bool (siS st).1.b, .string (siS st).1.v]) ∧ w3.cell? ⟨q0, 0, none⟩ = some (.pointer (some ⟨p, 0, none⟩)) ∧
      Hid (Calls Try.prog 83 #[.agg #[.pointer (some ⟨p, 0, none⟩)]] w3 fun e w4 => e = .returned (.agg #[.bool (siS (siS st).2).1.b, .string (siS (siS st).2).1.v]) ∧ w4.cell? ⟨q0, 0, none⟩ = some (.pointer (some ⟨p, 0, none⟩)) ∧
      Hid (Calls Try.prog 83 #[.agg #[.pointer (some ⟨p, 0, none⟩)]] w4 fun e w5 => e = .returned (.agg #[.bool (siS (siS (siS st).2).2).1.b, .string (siS (siS (siS st).2).2).1.v]) ∧ w5.cell? ⟨q0, 0, none⟩ = some (.pointer (some ⟨p, 0, none⟩)) ∧
        Hid (Rr w5 p 99 g (siS (siS (siS st).2).2).2 ∧ W.grownBy w5 (some p) ∧ Ob w5 qc 75 [c0, c1, c2, c3, c4, c5, c6]))) := by
  have ne0 : (some p : Option Nat) ≠ some q0 := fun e => h0 (Option.some.inj e).symm
  have nec : (some p : Option Nat) ≠ some qc := fun e => hc (Option.some.inj e).symm
  refine (side_p p g st W h hg).mono ?_
  rintro e w3 ⟨rfl, r3, g3⟩
  have kb3 := kb.kept g3 ne0
  have kc3 := kc.kept g3 nec
  refine ⟨rfl, kb3.cell 0, hide ?_⟩
  refine (side_p p g _ w3 r3 (Nat.lt_of_lt_of_le hg g3.size)).mono ?_
  rintro e w4 ⟨rfl, r4, g4⟩
  have kb4 := kb3.kept g4 ne0
  have kc4 := kc3.kept g4 nec
  refine ⟨rfl, kb4.cell 0, hide ?_⟩
  refine (side_p p g _ w4 r4 (Nat.lt_of_lt_of_le hg (grew_trans g3 g4).size)).mono ?_
  rintro e w5 ⟨rfl, r5, g5⟩
  exact ⟨rfl, (kb4.kept g5 ne0).cell 0, hide ⟨r5, grew_trans (grew_trans g3 g4) g5, kc4.kept g5 nec⟩⟩
set_option maxRecDepth 100000 in
theorem size_Cl : (Try.prog.info? 75).map (·.size) = some 7 := by kernel_rfl
set_option maxRecDepth 100000 in
theorem fin_Cl {W : World} {g : Nat} {c0 c1 c2 c3 c4 c5 c6 : Value} {tmps : Array Value} {Q : Ending → World → Prop} (k : Ob W g 75 [c0, c1, c2, c3, c4, c5, c6]) (h4 : tmps.getD 2 undef = .pointer (some ⟨g, 0, none⟩)) (hq : Q (.returned (.agg #[c0, c1, c2, c3, c4, c5, c6])) W) :
    bodyPost Try.prog Try.f82 Q Exit.ret { tmps := tmps, defers := [] } W := by
  have hl := run_loadVar_row (P := Try.prog) W g 75 75 #[c0, c1, c2, c3, c4, c5, c6] (0, 0) _ k Try.underlying75 rfl (by rw [size_Cl]; rfl)
  have h4' : tmps[2]?.getD undef = .pointer (some ⟨g, 0, none⟩) := by simpa using h4
  refine bodyPost_ret (v := .agg #[c0, c1, c2, c3, c4, c5, c6]) ?_ rfl hq
  simp [results, Try.results82, asAddr, h4', hl]
set_option maxRecDepth 100000 in
set_option maxHeartbeats 4000000 in
theorem clash_p (p g : Nat) (st : St) (w : World) (h : Rr w p 99 g st) (hg : g < w.heap.size) :
    Calls Try.prog 82 #[.agg #[.pointer (some ⟨p, 0, none⟩)]] w fun e w' => e = .returned (clS st).1.val ∧ Rr w' p 99 g (clS st).2 ∧ w.grownBy w' (some p) := by
  have hp := h.lt
  have kr := Ob.new (w.alloc (.cells #[.pointer (some ⟨p, 0, none⟩)] 117)) [.string ByteArray.empty, .bool false, .string ByteArray.empty, .bool false, .string ByteArray.empty, .bool false, .string ByteArray.empty] 75
  have kb1 := (Ob.new w [.pointer (some ⟨p, 0, none⟩)] 117).alloc (.cells #[.string ByteArray.empty, .bool false, .string ByteArray.empty, .bool false, .string ByteArray.empty, .bool false, .string ByteArray.empty] 75)
  have bb : Below w.heap.size w ((w.alloc (.cells #[.pointer (some ⟨p, 0, none⟩)] 117)).alloc (.cells #[.string ByteArray.empty, .bool false, .string ByteArray.empty, .bool false, .string ByteArray.empty, .bool false, .string ByteArray.empty] 75)) := ((Below.refl _ w).alloc (Nat.le_refl _) _).alloc (by simp) _
  simp only [World.size_alloc] at kr
  have HC1 := hide (rdtext_any p g st 40 _ (h.old bb) (by omega))
  have HBB := hide bb
  have HKB := hide kb1
  have HKR := hide kr
  clear h kb1 kr bb
  go_enter Try.func82, Try.ntmps82
  go_wp2_with fail
  refine HC1.out.mono ?_
  rintro e w1 ⟨rfl, r1, g1⟩
  have hgs : w.heap.size + 2 ≤ w1.heap.size := by have := g1.size; simpa using this
  obtain ⟨key, hkey⟩ : ∃ key, key = strOfNums (rtext st 40).1 := ⟨_, rfl⟩
  rw [← hkey]
  obtain ⟨W2, hW2⟩ : ∃ W2, W2 = w1.alloc (.cells #[.string key, .bool false, .string ⟨#[]⟩, .bool false, .string ⟨#[]⟩, .bool false, .string ⟨#[]⟩] 75) := ⟨_, rfl⟩
  have b2 : Below w1.heap.size w1 W2.drew := by rw [hW2]; exact ((Below.refl _ w1).alloc (Nat.le_refl _) _).drew
  have s2 : W2.heap.size = w1.heap.size + 1 := by rw [hW2]; simp
  have kb2 := (HKB.out.kept g1 (by intro e; have e2 := Option.some.inj e; omega)).old b2
  have kr2 := (HKR.out.kept g1 (by intro e; have e2 := Option.some.inj e; omega)).old b2
  have kc2 : Ob W2.drew w1.heap.size 75 [.string key, .bool false, .string ⟨#[]⟩, .bool false, .string ⟨#[]⟩, .bool false, .string ⟨#[]⟩] := by rw [hW2]; exact Ob.new w1 [.string key, .bool false, .string ⟨#[]⟩, .bool false, .string ⟨#[]⟩, .bool false, .string ⟨#[]⟩] 75
  have HG2 := hide (grew_trans (grew_trans (grew_below (some p) HBB.out) g1) (grew_below (some p) b2))
  have HC3 := hide (sides3 p g (rtext st 40).2 W2.drew w.heap.size w1.heap.size _ _ _ _ _ _ _ (r1.old b2) (by show g < W2.heap.size; omega) kb2 kc2 (by omega) (by omega))
  have HKR2 := hide kr2
  have HKEY := hide hkey
  have d0 : W2.cell? ⟨w.heap.size, 0, none⟩ = some (.pointer (some ⟨p, 0, none⟩)) := kb2.cell 0
  have HS2 := hide s2
  obtain ⟨st1, hst1⟩ : ∃ st1, st1 = (rtext st 40).2 := ⟨_, rfl⟩
  rw [← hst1] at HC3
  have HST1 := hide hst1
  obtain ⟨s1, hs1⟩ : ∃ s1, s1 = siS st1 := ⟨_, rfl⟩
  rw [← hs1] at HC3
  obtain ⟨t2, ht2⟩ : ∃ t2, t2 = siS s1.2 := ⟨_, rfl⟩
  rw [← ht2] at HC3
  obtain ⟨t3, ht3⟩ : ∃ t3, t3 = siS t2.2 := ⟨_, rfl⟩
  rw [← ht3] at HC3
  have HS1 := hide hs1
  have HT2 := hide ht2
  have HT3 := hide ht3
  clear HC1 kb2 kr2 kc2 r1 g1 hkey HKR HKB b2 hst1 hs1 ht2 ht3 s2
  go_wp2_with fail
  rw [← hW2]
  clear hW2
  obtain ⟨qc, hqc⟩ : ∃ qc, qc = w1.heap.size := ⟨_, rfl⟩
  rw [← hqc] at HC3 hgs ⊢
  have n1 : ¬ qc = w.heap.size := by omega
  have n2 : ¬ w.heap.size = qc := by omega
  clear hqc
  go_region_held3 (fun W' => W'.cell? ⟨w.heap.size, 0, none⟩ = some (.pointer (some ⟨p, 0, none⟩))) (go_keep) (first
    | (go_at_call 83; (with_reducible refine HC3.out.mono ?_); rintro e w3 ⟨rfl, z0, HC4⟩)
    | (go_at_call 83; (with_reducible refine HC4.out.mono ?_); rintro e w4 ⟨rfl, z1, HC5⟩)
    | (go_at_call 83; (with_reducible refine HC5.out.mono ?_); rintro e w5 ⟨rfl, z2, HF5⟩; obtain ⟨r5, g5, k5⟩ := HF5.out; have y1 := k5.cell 1; have y2 := k5.cell 2; have y3 := k5.cell 3; have y4 := k5.cell 4; have y5 := k5.cell 5; have y6 := k5.cell 6; have f1 := k5.frozen 1; have f2 := k5.frozen 2; have f3 := k5.frozen 3; have f4 := k5.frozen 4; have f5 := k5.frozen 5; have f6 := k5.frozen 6; simp only [List.getElem?_cons_zero, List.getElem?_cons_succ] at y1 y2 y3 y4 y5 y6; clear r5 g5 k5))
  obtain ⟨W6, hW6⟩ : ∃ W6, W6 = ((((((w5.setCell ⟨qc, 1, none⟩ (.bool s1.1.b)).setCell ⟨qc, 2, none⟩ (.string s1.1.v)).setCell ⟨qc, 3, none⟩ (.bool t2.1.b)).setCell ⟨qc, 4, none⟩ (.string t2.1.v)).setCell ⟨qc, 5, none⟩ (.bool t3.1.b)).setCell ⟨qc, 6, none⟩ (.string t3.1.v)) := ⟨_, rfl⟩
  rw [← hW6]
  have hw2 := HS2.out
  obtain ⟨r5, g5, k5⟩ := HF5.out
  have gg := g5.size
  have ed : W2.drew.heap.size = W2.heap.size := rfl
  have o6 : Onl (fun i => i = qc) w5 W6 := by rw [hW6]; exact ((((((Onl.refl (fun i => i = qc) w5).set (p := qc) (.inl rfl) _).set (p := qc) (.inl rfl) _).set (p := qc) (.inl rfl) _).set (p := qc) (.inl rfl) _).set (p := qc) (.inl rfl) _).set (p := qc) (.inl rfl) _
  have k6 : Ob W6 qc 75 [.string key, .bool s1.1.b, .string s1.1.v, .bool t2.1.b, .string t2.1.v, .bool t3.1.b, .string t3.1.v] := by rw [hW6]; exact ((((((k5.set 1 (.bool s1.1.b)).set 2 (.string s1.1.v)).set 3 (.bool t2.1.b)).set 4 (.string t2.1.v)).set 5 (.bool t3.1.b)).set 6 (.string t3.1.v))
  have r6 := r5.onl o6 (fun e => by omega) (fun e => by omega)
  obtain ⟨q1, hq1⟩ : ∃ q1, q1 = w.heap.size + 1 := ⟨_, rfl⟩
  have kr6 := (HKR2.out.kept g5 (by intro e; have e2 := Option.some.inj e; omega)).onl o6 (by omega)
  rw [← hq1] at kr6 ⊢
  have HG6 := hide (grew_onl (grew_trans HG2.out g5) o6 (fun i q => by omega))
  have o7 : Onl (fun i => i = q1) W6 (((((((W6.setCell ⟨q1, 0, none⟩ (.string key)).setCell ⟨q1, 1, none⟩ (.bool s1.1.b)).setCell ⟨q1, 2, none⟩ (.string s1.1.v)).setCell ⟨q1, 3, none⟩ (.bool t2.1.b)).setCell ⟨q1, 4, none⟩ (.string t2.1.v)).setCell ⟨q1, 5, none⟩ (.bool t3.1.b)).setCell ⟨q1, 6, none⟩ (.string t3.1.v)) := (((((((Onl.refl (fun i => i = q1) W6).set (p := q1) (.inl rfl) _).set (p := q1) (.inl rfl) _).set (p := q1) (.inl rfl) _).set (p := q1) (.inl rfl) _).set (p := q1) (.inl rfl) _).set (p := q1) (.inl rfl) _).set (p := q1) (.inl rfl) _
  have HR7 := hide (r6.onl o7 (fun e => by omega) (fun e => by omega))
  have HG7 := hide (grew_onl HG6.out o7 (fun i q => by omega))
  have HK7 := hide (((((((kr6.set 0 (.string key)).set 1 (.bool s1.1.b)).set 2 (.string s1.1.v)).set 3 (.bool t2.1.b)).set 4 (.string t2.1.v)).set 5 (.bool t3.1.b)).set 6 (.string t3.1.v))
  have x0 := k6.cell 0
  have x1 := k6.cell 1
  have x2 := k6.cell 2
  have x3 := k6.cell 3
  have x4 := k6.cell 4
  have x5 := k6.cell 5
  have x6 := k6.cell 6
  have v0 := kr6.cell 0
  have v1 := kr6.cell 1
  have v2 := kr6.cell 2
  have v3 := kr6.cell 3
  have v4 := kr6.cell 4
  have v5 := kr6.cell 5
  have v6 := kr6.cell 6
  have e0 := kr6.frozen 0
  have e1 := kr6.frozen 1
  have e2 := kr6.frozen 2
  have e3 := kr6.frozen 3
  have e4 := kr6.frozen 4
  have e5 := kr6.frozen 5
  have e6 := kr6.frozen 6
  simp only [List.getElem?_cons_zero, List.getElem?_cons_succ] at x0 x1 x2 x3 x4 x5 x6 v0 v1 v2 v3 v4 v5 v6
  clear HC3 HC4 HC5 HF5 HKR2 HG2 HG6 HS2 r5 g5 k5 o6 k6 r6 kr6 o7 hW6 hq1 y1 y2 y3 y4 y5 y6 f1 f2 f3 f4 f5 f6 z0 z1 z2 d0 n1 n2 hw2 gg ed
  go_wp2
  refine fin_Cl HK7.out rfl ?_
  refine ⟨?_, ?_, HG7.out⟩
  · unfold clS Cl.val
    simp only
    rw [← HST1.out, ← HS1.out, ← HT2.out, ← HT3.out, ← HKEY.out]
  · unfold clS
    simp only
    rw [← HST1.out, ← HS1.out, ← HT2.out, ← HT3.out]
    exact HR7.out
end Go.Proofs.Ytgjhmpmjbedjoaa
namespace Go.Proofs.Ytgjhmpmjbedjoaa
open Go.RowKit Apo
attribute [local go_sem ↓] Apo.app_exec
set_option maxRecDepth 100000 in
set_option maxHeartbeats 4000000 in
theorem clashes_p (p g : Nat) (b : List Int) (w : World) (h : Rr w p 99 g (some b)) (hg : g < w.heap.size) :
    Calls Try.prog 77 #[.agg #[.pointer (some ⟨p, 0, none⟩)]] w fun e w' => ∃ v, e = .returned v ∧ Row (fun i => w.heap.size ≤ i) w' 75 7 v (rawC b).1.length (gcells cCl (rawC b).1) ∧ Rr w' p 99 g (rawC b).2 ∧ w.grownBy w' (some p) := by
  have hp := h.lt
  have kb := Ob.new w [.pointer (some ⟨p, 0, none⟩)] 117
  have b0 : Below w.heap.size w (w.alloc (.cells #[.pointer (some ⟨p, 0, none⟩)] 117)) := (Below.refl _ w).alloc (Nat.le_refl _) _
  have HCN := hide (rdnum_any p g (some b) 1000 _ (h.old b0))
  have hbd := rnum_top (some b)
  unfold rawC
  obtain ⟨CT, hCT⟩ : ∃ CT : Nat, (CT : Int) = (rnum (some b) 1000).1 := ⟨(rnum (some b) 1000).1.toNat, by omega⟩
  have hCT2 : (rnum (some b) 1000).1.toNat = CT := by omega
  obtain ⟨st2, hst2⟩ : ∃ st2, st2 = (rnum (some b) 1000).2 := ⟨_, rfl⟩
  rw [hCT2, ← hst2]
  rw [← hCT] at HCN hbd
  rw [← hst2] at HCN
  have HKB := hide kb
  have HB0 := hide b0
  clear h kb b0 hCT hCT2 hst2
  go_enter Try.func77, Try.ntmps77
  go_wp2_with fail
  refine HCN.out.mono ?_
  rintro e w2 ⟨rfl, r2, g2⟩
  have kb2 := HKB.out.kept g2 (by intro e; have e2 := Option.some.inj e; omega)
  have k0 := kb2.cell 0
  simp only [List.getElem?_cons_zero] at k0
  have HR2 := hide r2
  have HG2 := hide (grew_trans (grew_below (some p) (HB0.out)) g2)
  have HK2 := hide kb2
  clear r2 g2 kb2 HCN
  go_wp2
  go_loopw [3, 7] (fun v i wr => ∃ (k : Nat) (va : Option Addr) (n vc : Nat), k ≤ CT ∧ i = .int .u64 k ∧ v = .slice va n vc ∧ Hid (Rr wr p 99 g (eachK clS st2 k).2) ∧ Hid (Row (fun i => w.heap.size ≤ i) wr 75 7 (.slice va n vc) (eachK clS st2 k).1.length (gcells cCl (eachK clS st2 k).1)) ∧ Hid (Ob wr w.heap.size 117 [.pointer (some ⟨p, 0, none⟩)]) ∧ Hid (w.grownBy wr (some p))) (fun _ i _ => CT - (intOf i).toNat)
  case atStart => exact ⟨0, none, 0, 0, Nat.zero_le _, rfl, rfl, HR2, hide (Row.nil _ _ _ _), HK2, HG2⟩
  case round =>
    obtain ⟨k, va, n, vc, hk, rfl, rfl, HR, HO, HK, HG⟩ := hrel
    have hkl := eachK_len clS st2 k
    obtain ⟨⟨es, sk⟩, hq⟩ : ∃ q, eachK clS st2 k = q := ⟨_, rfl⟩
    have hq1 : eachK clS st2 (k + 1) = (es ++ [(clS sk).1], (clS sk).2) := by simp only [eachK, hq]
    rw [hq] at HR HO hkl
    simp only at HR HO hkl
    have HQ := hide hq
    have HQ1 := hide hq1
    have hx0 := HK.out.cell 0
    simp only [List.getElem?_cons_zero] at hx0
    clear hq hq1
    by_cases hkc : k < CT
    · have t1 : decide ((k : Int) < (CT : Int)) = true := by simp; omega
      have t2 : decide (k < CT) = true := by simp; omega
      have HC := hide (clash_p p g sk wr HR.out (Nat.lt_of_lt_of_le hg HG.out.size))
      obtain ⟨x, hx⟩ : ∃ x, x = (clS sk).1 := ⟨_, rfl⟩
      rw [← hx] at HC HQ1
      obtain ⟨sk2, hsk2⟩ : ∃ x, x = (clS sk).2 := ⟨_, rfl⟩
      rw [← hsk2] at HC HQ1
      simp only [Cl.val] at HC
      clear hx hsk2
      go_wp2_with fail
      refine HC.out.mono ?_
      rintro e w1 ⟨rfl, r1, g1⟩
      have o1 : Onl (fun i => i = p) wr w1 := (Onl.refl _ wr).grown g1 (fun j hj => .inl (by cases hj; rfl))
      obtain ⟨c0, c1, hrc⟩ := HR.out.ob
      have ap : (Value.slice va n vc).ownBlock ≠ some p := Row.apartOb HO.out hrc (by decide)
      have row1 := HO.out.onl o1 (fun g hg q => ap (by rw [hg, q]))
      have k1 := HK.out.onl o1 (by omega)
      obtain ⟨W3, hW3⟩ : ∃ W3, W3 = w1.alloc (.cells #[.string x.k, .bool x.a.b, .string x.a.v, .bool x.b.b, .string x.b.v, .bool x.c.b, .string x.c.v] 75) := ⟨_, rfl⟩
      have b3 : Below w1.heap.size w1 W3 := by rw [hW3]; exact (Below.refl _ _).alloc (Nat.le_refl _) _
      have hs1 := (grew_trans HG.out g1).size
      have row3 : Row (fun g => w.heap.size ≤ g ∧ (Value.slice va n vc).ownBlock = some g) W3 75 7 (.slice va n vc) es.length (gcells cCl es) := ⟨(row1.onl (F := fun _ => False) (Onl.ofBelow b3) (fun _ _ q => q)).1, fun g hg => ⟨row1.2 g hg, hg⟩⟩
      have lit : RdG cCl 7 W3 (some ⟨w1.heap.size, 0, none⟩) [x] := by rw [hW3]; exact rd_lit _ w1 x
      obtain ⟨v7, w7, RA, r7, o7, _⟩ := app_cl (cp := 1) row3 (by simp; omega) lit
      obtain ⟨va7, c7, hv7, _⟩ := r7.form
      subst hv7
      have k3 := k1.old b3
      have k7 := k3.onl o7 (fun q => Row.apartOb row3 k3 (by decide) q)
      have rr3 := r1.old b3
      obtain ⟨c0, c1, hrc3⟩ := rr3.ob
      have rr7 := rr3.onl o7 (fun q => Row.apartOb row3 hrc3 (by decide) q) (fun q => by have := (row3.2 g q).1; omega)
      have g3 := grew_trans (grew_trans HG.out g1) (grew_below (some p) b3)
      have g7 := grew_onl g3 o7 (fun i q => (row3.2 i q).1)
      have RA2 : (Builtin.append_ #[25, 25] 25 #[.slice va n vc, .slice (some ⟨w1.heap.size, 0, none⟩) 1 1]).run Try.prog W3 = .ok (.slice va7 (es ++ [x]).length c7) w7 := RA
      obtain ⟨p1, p2, p3⟩ := app_runs RA2
      have s3 := b3.size
      have f1 : Hid (Rr w7 p 99 g (eachK clS st2 (k + 1)).2) := hide (by rw [HQ1.out]; exact rr7)
      have f2 : Hid (Row (fun i => w.heap.size ≤ i) w7 75 7 (.slice va7 (es ++ [x]).length c7) (eachK clS st2 (k + 1)).1.length (gcells cCl (eachK clS st2 (k + 1)).1)) := hide (by
        rw [HQ1.out]
        exact r7.mono (fun i q => by
          rcases q with q | q
          · exact q.1
          · omega))
      have f3 := hide k7
      have f4 := hide g7
      obtain ⟨n7, hn7⟩ : ∃ n7, n7 = (es ++ [x]).length := ⟨_, rfl⟩
      rw [← hn7] at p2 f2
      rw [hW3] at p1 p2 p3
      clear HC r1 g1 o1 row1 row3 k1 RA RA2 r7 o7 k7 rr7 g7 hrc ap hn7 HR HO HK HG hx0 lit k3 rr3 hrc3 g3 b3 hW3
      go_wp2
      go_roundw
      case rel => exact ⟨k + 1, va7, n7, c7, by omega, by simp, rfl, f1, f2, f3, f4⟩
      case measure => simp [intOf]; omega
    · obtain rfl : k = CT := by omega
      go_wp2
      go_ret
      exact ⟨_, rfl, by rw [HQ.out]; exact HO.out, by rw [HQ.out]; exact HR.out, HG.out⟩
end Go.Proofs.Ytgjhmpmjbedjoaa
