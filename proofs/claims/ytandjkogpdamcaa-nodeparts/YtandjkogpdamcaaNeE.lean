/- The program's reader of entries and of children, and each, over the translation. -/
import Derived.Test.YtandjkogpdamcaaNdO
import Derived.Test.YtandjkogpdamcaaCln
namespace Go.Proofs.Ytandjkogpdamcaa
open Go.RowKit Apo
attribute [local go_sem ↓] Apo.app_exec
/-- k parts, one behind the other -/
noncomputable def eachK {α : Type} (f : St → α × St) (st : St) : Nat → List α × St
  | 0 => ([], st)
  | k + 1 => ((eachK f st k).1 ++ [(f (eachK f st k).2).1], (f (eachK f st k).2).2)
theorem eachK_len {α : Type} (f : St → α × St) (st : St) : ∀ k, (eachK f st k).1.length = k
  | 0 => rfl
  | k + 1 => by simp [eachK, eachK_len f st k]
noncomputable def enS (st : St) : En × St := (⟨strOfNums (rtext st 40).1, strOfNums (rtext (rtext st 40).2 200).1⟩, (rtext (rtext st 40).2 200).2)
noncomputable def kiS (st : St) : Ki × St := (⟨strOfNums (rtext st 40).1, (rnum (rtext st 40).2 18446744073709551615).1.toNat⟩, (rnum (rtext st 40).2 18446744073709551615).2)
def enV (e : En) : Value := .agg #[.string e.k, .string e.v]
def kiV (k : Ki) : Value := .agg #[.string k.k, .int .u64 (k.i : Int)]
/-- how many parts are told at most -/
noncomputable def mostOf (st : St) : Int := (((st.getD []).length / 3 : Nat) : Int)
theorem grew_onl {a b c : World} {row : Option Nat} {F : Nat → Prop} (h : a.grownBy b row) (o : Onl F b c) (hF : ∀ i, F i → a.heap.size ≤ i) : a.grownBy c row :=
  ⟨o.os.trans h.os, o.tape.trans h.tape, o.output.trans h.output, Nat.le_trans h.size o.size, fun i hi hr => (o.block i (Nat.lt_of_lt_of_le hi h.size) (fun q => absurd (hF i q) (Nat.not_le.2 hi))).trans (h.block i hi hr)⟩
noncomputable def eachOf {α : Type} (f : St → α × St) (st : St) : List α × St := eachK f (rnum st (mostOf st)).2 (rnum st (mostOf st)).1.toNat
set_option maxRecDepth 100000 in
theorem size_En : (Try.prog.info? 55).map (·.size) = some 2 := by kernel_rfl
set_option maxRecDepth 100000 in
theorem fin_En {W : World} {g : Nat} {c0 c1 : Value} {tmps : Array Value} {Q : Ending → World → Prop} (k : Ob W g 55 [c0, c1]) (h4 : tmps.getD 2 undef = .pointer (some ⟨g, 0, none⟩)) (hq : Q (.returned (.agg #[c0, c1])) W) :
    bodyPost Try.prog Try.f54 Q Exit.ret { tmps := tmps, defers := [] } W := by
  have hl := run_loadVar_row (P := Try.prog) W g 55 55 #[c0, c1] (0, 0) _ k Try.underlying55 rfl (by rw [size_En]; rfl)
  have h4' : tmps[2]?.getD undef = .pointer (some ⟨g, 0, none⟩) := by simpa using h4
  refine bodyPost_ret (v := .agg #[c0, c1]) ?_ rfl hq
  simp [results, Try.results54, asAddr, h4', hl]
set_option maxRecDepth 100000 in
set_option maxHeartbeats 1000000 in
theorem part_En (p g : Nat) (st : St) (w : World) (h : Rr w p 88 g st) (hg : g < w.heap.size) :
    Calls Try.prog 54 #[.agg #[.pointer (some ⟨p, 0, none⟩)]] w fun e w' => e = .returned (enV (enS st).1) ∧ Rr w' p 88 g (enS st).2 ∧ w.grownBy w' (some p) := by
  have hp := h.lt
  have kr := Ob.new (w.alloc (.cells #[.pointer (some ⟨p, 0, none⟩)] 70)) [.string ByteArray.empty, .string ByteArray.empty] 55
  have kb1 := (Ob.new w [.pointer (some ⟨p, 0, none⟩)] 70).alloc (.cells #[.string ByteArray.empty, .string ByteArray.empty] 55)
  have bb : Below w.heap.size w ((w.alloc (.cells #[.pointer (some ⟨p, 0, none⟩)] 70)).alloc (.cells #[.string ByteArray.empty, .string ByteArray.empty] 55)) := ((Below.refl _ w).alloc (Nat.le_refl _) _).alloc (by simp) _
  simp only [World.size_alloc] at kr
  have HC1 := hide (rdtext_any p g st 40 _ (h.old bb) (by omega))
  have HBB := hide bb
  have HKB := hide kb1
  have HKR := hide kr
  clear h kb1 kr bb
  go_enter Try.func54, Try.ntmps54
  go_wp2_with fail
  refine HC1.out.mono ?_
  rintro e w1 ⟨rfl, r1, g1⟩
  have kb2 := HKB.out.kept g1 (by intro e; have e2 := Option.some.inj e; omega)
  have kr2 := HKR.out.kept g1 (by intro e; have e2 := Option.some.inj e; omega)
  have d0 := kb2.cell 0
  simp only [List.getElem?_cons_zero] at d0
  have HC2 := hide (rdtext_any p g (rtext st 40).2 200 w1 r1 (by omega))
  have HG1 := hide (grew_trans (grew_below (some p) HBB.out) g1)
  have HKR2 := hide kr2
  obtain ⟨key, hkey⟩ : ∃ key, key = strOfNums (rtext st 40).1 := ⟨_, rfl⟩
  obtain ⟨q1, hq1⟩ : ∃ q1, q1 = w.heap.size + 1 := ⟨_, rfl⟩
  rw [← hkey, ← hq1]
  rw [← hq1] at HKR2
  have HKEY := hide hkey
  have hq2 : q1 ≠ p := by omega
  have hq3 : q1 ≠ g := by omega
  have hq4 : w.heap.size ≤ q1 := by omega
  clear HC1 kb2 kr2 r1 g1 hkey hq1 HKR HKB
  go_wp2_with fail
  refine HC2.out.mono ?_
  rintro e w2 ⟨rfl, r2, g2⟩
  have kr3 := HKR2.out.kept g2 (by intro e; have e2 := Option.some.inj e; omega)
  have f0 := kr3.frozen 0
  have f1 := kr3.frozen 1
  have x0 := kr3.cell 0
  have x1 := kr3.cell 1
  simp only [List.getElem?_cons_zero, List.getElem?_cons_succ] at x0 x1
  obtain ⟨val, hval⟩ : ∃ val, val = strOfNums (rtext (rtext st 40).2 200).1 := ⟨_, rfl⟩
  rw [← hval]
  have HVAL := hide hval
  have o8 : Onl (fun i => i = q1) w2 ((w2.setCell ⟨q1, 0, none⟩ (.string key)).setCell ⟨q1, 1, none⟩ (.string val)) := ((Onl.refl (fun i => i = q1) w2).set (p := q1) (.inl rfl) _).set (p := q1) (.inl rfl) _
  have HR2 := hide (Rr.onl r2 o8 (fun e => hq2 e.symm) (fun e => hq3 e.symm))
  have HK3 := hide ((kr3.set 0 (.string key)).set 1 (.string val))
  have HG2 : Hid (w.grownBy ((w2.setCell ⟨q1, 0, none⟩ (.string key)).setCell ⟨q1, 1, none⟩ (.string val)) (some p)) := hide (grew_new (grew_new (grew_trans HG1.out g2) (grew_set w2 q1 0 (.string key)) hq4) (grew_set _ q1 1 (.string val)) hq4)
  clear HC2 r2 g2 kr3 o8 hval HKR2 HG1
  go_wp2
  refine fin_En HK3.out rfl ?_
  refine ⟨?_, HR2.out, HG2.out⟩
  unfold enV enS
  simp only
  rw [← HKEY.out, ← HVAL.out]
set_option maxRecDepth 100000 in
theorem size_Ki : (Try.prog.info? 58).map (·.size) = some 2 := by kernel_rfl
set_option maxRecDepth 100000 in
theorem fin_Ki {W : World} {g : Nat} {c0 c1 : Value} {tmps : Array Value} {Q : Ending → World → Prop} (k : Ob W g 58 [c0, c1]) (h4 : tmps.getD 2 undef = .pointer (some ⟨g, 0, none⟩)) (hq : Q (.returned (.agg #[c0, c1])) W) :
    bodyPost Try.prog Try.f56 Q Exit.ret { tmps := tmps, defers := [] } W := by
  have hl := run_loadVar_row (P := Try.prog) W g 58 58 #[c0, c1] (0, 0) _ k Try.underlying58 rfl (by rw [size_Ki]; rfl)
  have h4' : tmps[2]?.getD undef = .pointer (some ⟨g, 0, none⟩) := by simpa using h4
  refine bodyPost_ret (v := .agg #[c0, c1]) ?_ rfl hq
  simp [results, Try.results56, asAddr, h4', hl]
set_option maxRecDepth 100000 in
set_option maxHeartbeats 1000000 in
theorem part_Ki (p g : Nat) (st : St) (w : World) (h : Rr w p 88 g st) (hg : g < w.heap.size) :
    Calls Try.prog 56 #[.agg #[.pointer (some ⟨p, 0, none⟩)]] w fun e w' => e = .returned (kiV (kiS st).1) ∧ Rr w' p 88 g (kiS st).2 ∧ w.grownBy w' (some p) := by
  have hp := h.lt
  have kr := Ob.new (w.alloc (.cells #[.pointer (some ⟨p, 0, none⟩)] 70)) [.string ByteArray.empty, .int .u64 0] 58
  have kb1 := (Ob.new w [.pointer (some ⟨p, 0, none⟩)] 70).alloc (.cells #[.string ByteArray.empty, .int .u64 0] 58)
  have bb : Below w.heap.size w ((w.alloc (.cells #[.pointer (some ⟨p, 0, none⟩)] 70)).alloc (.cells #[.string ByteArray.empty, .int .u64 0] 58)) := ((Below.refl _ w).alloc (Nat.le_refl _) _).alloc (by simp) _
  simp only [World.size_alloc] at kr
  have HC1 := hide (rdtext_any p g st 40 _ (h.old bb) (by omega))
  have HBB := hide bb
  have HKB := hide kb1
  have HKR := hide kr
  clear h kb1 kr bb
  go_enter Try.func56, Try.ntmps56
  go_wp2_with fail
  refine HC1.out.mono ?_
  rintro e w1 ⟨rfl, r1, g1⟩
  have kb2 := HKB.out.kept g1 (by intro e; have e2 := Option.some.inj e; omega)
  have kr2 := HKR.out.kept g1 (by intro e; have e2 := Option.some.inj e; omega)
  have d0 := kb2.cell 0
  simp only [List.getElem?_cons_zero] at d0
  have HC2 := hide (rdnum_any p g (rtext st 40).2 18446744073709551615 w1 r1)
  have HG1 := hide (grew_trans (grew_below (some p) HBB.out) g1)
  have HKR2 := hide kr2
  obtain ⟨key, hkey⟩ : ∃ key, key = strOfNums (rtext st 40).1 := ⟨_, rfl⟩
  obtain ⟨q1, hq1⟩ : ∃ q1, q1 = w.heap.size + 1 := ⟨_, rfl⟩
  rw [← hkey, ← hq1]
  rw [← hq1] at HKR2
  have HKEY := hide hkey
  have hq2 : q1 ≠ p := by omega
  have hq3 : q1 ≠ g := by omega
  have hq4 : w.heap.size ≤ q1 := by omega
  clear HC1 kb2 kr2 r1 g1 hkey hq1 HKR HKB
  go_wp2_with fail
  refine HC2.out.mono ?_
  rintro e w2 ⟨rfl, r2, g2⟩
  have kr3 := HKR2.out.kept g2 (by intro e; have e2 := Option.some.inj e; omega)
  have f0 := kr3.frozen 0
  have f1 := kr3.frozen 1
  have x0 := kr3.cell 0
  have x1 := kr3.cell 1
  simp only [List.getElem?_cons_zero, List.getElem?_cons_succ] at x0 x1
  obtain ⟨val, hval⟩ : ∃ val, val = (rnum (rtext st 40).2 18446744073709551615).1 := ⟨_, rfl⟩
  rw [← hval]
  have HVAL := hide hval
  have o8 : Onl (fun i => i = q1) w2 ((w2.setCell ⟨q1, 0, none⟩ (.string key)).setCell ⟨q1, 1, none⟩ (.int .u64 val)) := ((Onl.refl (fun i => i = q1) w2).set (p := q1) (.inl rfl) _).set (p := q1) (.inl rfl) _
  have HR2 := hide (Rr.onl r2 o8 (fun e => hq2 e.symm) (fun e => hq3 e.symm))
  have HK3 := hide ((kr3.set 0 (.string key)).set 1 (.int .u64 val))
  have HG2 : Hid (w.grownBy ((w2.setCell ⟨q1, 0, none⟩ (.string key)).setCell ⟨q1, 1, none⟩ (.int .u64 val)) (some p)) := hide (grew_new (grew_new (grew_trans HG1.out g2) (grew_set w2 q1 0 (.string key)) hq4) (grew_set _ q1 1 (.int .u64 val)) hq4)
  clear HC2 r2 g2 kr3 o8 hval HKR2 HG1
  go_wp2
  refine fin_Ki HK3.out rfl ?_
  refine ⟨?_, HR2.out, HG2.out⟩
  unfold kiV kiS
  simp only
  rw [← HKEY.out, ← HVAL.out, Int.toNat_of_nonneg (by rw [HVAL.out]; exact (rnum_bd _ (by omega)).1)]
end Go.Proofs.Ytandjkogpdamcaa
