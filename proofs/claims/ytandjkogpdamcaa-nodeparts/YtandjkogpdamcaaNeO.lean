/- The program's reading of a node, over the translation. -/
import Derived.Test.YtandjkogpdamcaaNeF
import Derived.Test.YtandjkogpdamcaaNeB
namespace Go.Proofs.Ytandjkogpdamcaa
open Go.RowKit Apo
theorem eachK_en (st : St) : ∀ k, ∀ e ∈ (eachK enS st k).1, e.k.size ≤ 40 ∧ e.v.size ≤ 200
  | 0 => by simp [eachK]
  | k + 1 => by
    intro e he
    simp only [eachK] at he
    rcases List.mem_append.1 he with q | q
    · exact eachK_en st k e q
    · simp at q
      subst q
      generalize (eachK enS st k).2 = s
      have h1 := rtext_len s (most := 40) (by omega)
      have h2 := rtext_len (rtext s 40).2 (most := 200) (by omega)
      unfold enS
      simp only [strOfNums_size]
      omega
theorem eachK_ki (st : St) : ∀ k, ∀ e ∈ (eachK kiS st k).1, e.k.size ≤ 40 ∧ e.i < 18446744073709551616
  | 0 => by simp [eachK]
  | k + 1 => by
    intro e he
    simp only [eachK] at he
    rcases List.mem_append.1 he with q | q
    · exact eachK_ki st k e q
    · simp at q
      subst q
      generalize (eachK kiS st k).2 = s
      have h1 := rtext_len s (most := 40) (by omega)
      have h3 := rnum_bd (rtext s 40).2 (most := 18446744073709551615) (by omega)
      unfold kiS
      simp only [strOfNums_size]
      omega
theorem eachOf_len {α : Type} (f : St → α × St) (st : St) {l : Nat} (h : (st.getD []).length ≤ l) : (eachOf f st).1.length ≤ l := by
  unfold eachOf
  rw [eachK_len]
  have := rnum_bd st (most := mostOf st) (by unfold mostOf; omega)
  unfold mostOf at this ⊢
  omega
theorem rnum_left (b : List Int) (most : Int) : ((rnum (some b) most).2.getD []).length ≤ b.length := by
  cases h : rnum (some b) most with
  | mk n st =>
    cases st with
    | none => simp
    | some r =>
      have := congrArg List.length (rnum_some h).1
      rw [List.length_append] at this
      simp only [Option.getD_some]
      omega
set_option maxRecDepth 100000 in
theorem fin_rn {W : World} {g : Nat} {c0 c1 c2 : Value} {tmps : Array Value} {Q : Ending → World → Prop} (k : Ob W g 25 [c0, c1, c2]) (h4 : tmps.getD 2 undef = .pointer (some ⟨g, 0, none⟩)) (hq : Q (.returned (.agg #[c0, c1, c2])) W) :
    bodyPost Try.prog Try.f35 Q Exit.ret { tmps := tmps, defers := [] } W := by
  have hl := run_loadVar_row (P := Try.prog) W g 25 25 #[c0, c1, c2] (0, 0) _ k Try.underlying25 rfl (by rw [size_node]; rfl)
  have h4' : tmps[2]?.getD undef = .pointer (some ⟨g, 0, none⟩) := by simpa using h4
  refine bodyPost_ret (v := .agg #[c0, c1, c2]) ?_ rfl hq
  simp [results, Try.results35, asAddr, h4', hl]
/-- what a reader's node tells -/
def RnP (w : World) (p g : Nat) (q : St × Nd) (e : Ending) (w' : World) : Prop := ∃ x : NdA, x.n = q.2 ∧ OkN w' x ∧ e = .returned (.agg x.cells.toArray) ∧ Rr w' p 88 g q.1 ∧ w.grownBy w' (some p)
set_option maxRecDepth 100000 in
set_option maxHeartbeats 2000000 in
theorem rnode_p (p g : Nat) (b : List Int) (w : World) (h : Rr w p 88 g (some b)) (hg : g < w.heap.size) (hl : b.length ≤ 49152) :
    Calls Try.prog 35 #[.agg #[.pointer (some ⟨p, 0, none⟩)]] w (RnP w p g (pRaw b)) := by
  have hp := h.lt
  obtain ⟨W0, hW0⟩ : ∃ W0, W0 = (w.alloc (.cells #[.pointer (some ⟨p, 0, none⟩)] 70)).alloc (.cells #[.int .i64 0, .slice none 0 0, .slice none 0 0] 25) := ⟨_, rfl⟩
  have kb : Ob W0 w.heap.size 70 [.pointer (some ⟨p, 0, none⟩)] := by rw [hW0]; exact (Ob.new w [.pointer (some ⟨p, 0, none⟩)] 70).alloc _
  have kr : Ob W0 (w.heap.size + 1) 25 [.int .i64 0, .slice none 0 0, .slice none 0 0] := by
    have := Ob.new (w.alloc (.cells #[.pointer (some ⟨p, 0, none⟩)] 70)) [.int .i64 0, .slice none 0 0, .slice none 0 0] 25
    simp only [World.size_alloc] at this
    rw [hW0]
    exact this
  have b0 : Below w.heap.size w W0 := by rw [hW0]; exact ((Below.refl _ w).alloc (Nat.le_refl _) _).alloc (by simp) _
  have s0 : W0.heap.size = w.heap.size + 2 := by rw [hW0]; simp
  have HC1 := hide (rdnum_any p g (some b) 20 W0 (h.old b0))
  have hlv := rnum_bd (some b) (most := 20) (by omega)
  have hlen := rnum_left b 20
  obtain ⟨Z, hZ⟩ : ∃ Z, Z = pRaw b := ⟨_, rfl⟩
  rw [← hZ]
  unfold pRaw at hZ
  obtain ⟨lv, hLV⟩ : ∃ lv, lv = (rnum (some b) 20).1 := ⟨_, rfl⟩
  obtain ⟨s1, hs1⟩ : ∃ s1, s1 = (rnum (some b) 20).2 := ⟨_, rfl⟩
  rw [← hLV] at HC1 hlv hZ
  rw [← hs1] at HC1 hlen hZ
  have HZ := hide hZ
  have HKB := hide kb
  have HKR := hide kr
  have HB0 := hide b0
  have hwl : IntKind.i64.wrap lv = lv := by rw [IntKind.wrap_i64]; omega
  have c0 := kb.cell 0
  simp only [List.getElem?_cons_zero] at c0
  rw [hW0] at c0 HC1
  clear h kb kr b0 hLV hs1 hZ
  go_enter Try.func35, Try.ntmps35
  go_wp2_with fail
  refine HC1.out.mono ?_
  rintro e w1 ⟨rfl, r1, g1⟩
  rw [← hW0] at g1
  have z1 := g1.size
  have kb1 := HKB.out.kept g1 (by intro e; have e2 := Option.some.inj e; omega)
  have kr1 := HKR.out.kept g1 (by intro e; have e2 := Option.some.inj e; omega)
  obtain ⟨W1, hW1⟩ : ∃ W1, W1 = w1.alloc (.cells #[.int .i64 lv, .slice none 0 0, .slice none 0 0] 25) := ⟨_, rfl⟩
  have bw : Below w1.heap.size w1 W1 := by rw [hW1]; exact (Below.refl _ _).alloc (Nat.le_refl _) _
  have sw : W1.heap.size = w1.heap.size + 1 := by rw [hW1]; simp
  have kn : Ob W1 w1.heap.size 25 [.int .i64 lv, .slice none 0 0, .slice none 0 0] := by rw [hW1]; exact Ob.new w1 [.int .i64 lv, .slice none 0 0, .slice none 0 0] 25
  have kb2 := kb1.old bw
  have kr2 := kr1.old bw
  have G1 : w.grownBy W1 (some p) := grew_trans (grew_trans (grew_below (some p) HB0.out) g1) (grew_below (some p) bw)
  have r2 := r1.old bw
  have x0 := kb2.cell 0
  have n0 := kn.cell 0
  simp only [List.getElem?_cons_zero] at x0 n0
  obtain ⟨qn, hqn⟩ : ∃ qn, qn = w1.heap.size := ⟨_, rfl⟩
  rw [← hqn] at kn
  obtain ⟨qr, hqr⟩ : ∃ qr, qr = w.heap.size + 1 := ⟨_, rfl⟩
  rw [← hqr] at kr2
  have hq1 : qn ≠ qr := by omega
  have hq2 : w.heap.size ≤ qn := by omega
  have hq3 : w.heap.size ≤ qr := by omega
  have hq4 : qn ≠ p := by omega
  have hq5 : qr ≠ p := by omega
  have hq6 : qn ≠ g := by omega
  have hq7 : qr ≠ g := by omega
  have hgW : g < W1.heap.size := by omega
  have HKN := hide kn
  have HKR2 := hide kr2
  have HG1 := hide G1
  rw [hW1] at x0 n0
  by_cases h0 : lv = 0
  · subst h0
    have HC2 := hide (each_En p g s1 W1 r2 hgW (by omega))
    have hel := eachOf_len enS s1 (l := b.length) (by omega)
    have hsz : ∀ e ∈ (eachOf enS s1).1, e.k.size ≤ 40 ∧ e.v.size ≤ 200 := by unfold eachOf; exact eachK_en _ _
    have hZ := HZ.out
    rw [if_pos rfl] at hZ
    obtain ⟨q, hq⟩ : ∃ q, q = eachOf enS s1 := ⟨_, rfl⟩
    rw [← hq] at HC2 hel hsz hZ
    have HZ2 := hide hZ
    have HSZ := hide hsz
    rw [hW1] at HC2
    clear hq hsz hZ kn kr2 G1 r2 r1 g1 kb1 kr1 kb2 bw HC1 HKB HKR HB0
    have HQN := hide hqn
    rw [← hqr]
    clear hqn hqr
    go_wp2_with fail
    refine HC2.out.mono ?_
    rintro e w2 ⟨v, rfl, row2, r3, g3⟩
    rw [← hW1] at g3 row2
    rw [← HQN.out]
    clear HQN
    have k3 := HKN.out.kept g3 (by intro e; have e2 := Option.some.inj e; omega)
    have kr3 := HKR2.out.kept g3 (by intro e; have e2 := Option.some.inj e; omega)
    obtain ⟨va, vc, hv, hvc, hvm, hvn, _⟩ := row2.form
    subst hv
    have m0 := k3.cell 0
    have m1 := k3.cell 1
    have m2 := k3.cell 2
    have mf1 := k3.frozen 1
    have t0 := kr3.cell 0
    have t1 := kr3.cell 1
    have t2 := kr3.cell 2
    have tf0 := kr3.frozen 0
    have tf1 := kr3.frozen 1
    have tf2 := kr3.frozen 2
    simp only [List.getElem?_cons_zero, List.getElem?_cons_succ] at m0 m1 m2 t0 t1 t2
    obtain ⟨n, hn⟩ : ∃ n, n = q.1.length := ⟨_, rfl⟩
    obtain ⟨w3, hw3⟩ : ∃ w3, w3 = (((w2.setCell ⟨qn, 1, none⟩ (.slice va n vc)).setCell ⟨qr, 0, none⟩ (.int .i64 0)).setCell ⟨qr, 1, none⟩ (.slice va n vc)).setCell ⟨qr, 2, none⟩ (.slice none 0 0) := ⟨_, rfl⟩
    have o3 : Onl (fun i => i = qn ∨ i = qr) w2 w3 := by
      rw [hw3]
      exact ((((Onl.refl (fun i => i = qn ∨ i = qr) w2).set (p := qn) (.inl (.inl rfl)) _).set (p := qr) (.inl (.inr rfl)) _).set (p := qr) (.inl (.inr rfl)) _).set (p := qr) (.inl (.inr rfl)) _
    have kr4 : Ob w3 qr 25 [.int .i64 0, .slice va n vc, .slice none 0 0] := by
      rw [hw3]
      exact (((kr3.set_other (Ne.symm hq1) _).set 0 _).set 1 _).set 2 _
    have ap1 := Row.apartOb row2 k3 (by decide)
    have ap2 := Row.apartOb row2 kr3 (by decide)
    have row3 := row2.onl o3 (fun i hi z => by
      rcases z with z | z
      · exact ap1 (by rw [hi, z])
      · exact ap2 (by rw [hi, z]))
    have r4 := r3.onl o3 (fun z => by omega) (fun z => by omega)
    have g4 := grew_onl (grew_trans HG1.out g3) o3 (fun i z => by omega)
    obtain ⟨va', vc', hv', hrd, hlc, hcm, hno⟩ := rd_ecells row3
    injection hv' with e1 e2 e3
    subst e1 e3
    rw [← hn] at hlc
    have HF : Hid (RnP w p g Z (.returned (.agg #[.int .i64 0, .slice va n vc, .slice none 0 0])) w3) := by
      rw [HZ2.out]
      refine hide ⟨⟨⟨0, q.1, []⟩, va, vc, none, 0⟩, rfl, ⟨hrd, fun i e hi => by simp at hi, hno, fun _ => rfl, by simp only; omega, by simp, by simp only; omega, by simp [maxLen], by simp only; omega, fun e he => ?_, by simp⟩, by rw [hn]; rfl, r4, g4⟩
      have := HSZ.out e he
      unfold maxLen
      omega
    have HKR4 := hide kr4
    rw [← hn]
    rw [hw3] at HF HKR4
    clear row2 r3 g3 k3 kr3 o3 kr4 ap1 ap2 row3 r4 g4 hrd hn hw3 e2 HC2 hno
    go_wp2
    exact fin_rn HKR4.out rfl HF.out
  · have d0 : (lv == 0) = false := by simpa using h0
    have HC2 := hide (each_Ki p g s1 W1 r2 hgW (by omega))
    have hel := eachOf_len kiS s1 (l := b.length) (by omega)
    have hsz : ∀ e ∈ (eachOf kiS s1).1, e.k.size ≤ 40 ∧ e.i < 18446744073709551616 := by unfold eachOf; exact eachK_ki _ _
    have hZ := HZ.out
    rw [if_neg h0] at hZ
    obtain ⟨q, hq⟩ : ∃ q, q = eachOf kiS s1 := ⟨_, rfl⟩
    rw [← hq] at HC2 hel hsz hZ
    have HZ2 := hide hZ
    have HSZ := hide hsz
    rw [hW1] at HC2
    clear hq hsz hZ kn kr2 G1 r2 r1 g1 kb1 kr1 kb2 bw HC1 HKB HKR HB0
    have HQN := hide hqn
    rw [← hqr]
    clear hqn hqr h0
    go_wp2_with fail
    refine HC2.out.mono ?_
    rintro e w2 ⟨v, rfl, row2, r3, g3⟩
    rw [← hW1] at g3 row2
    rw [← HQN.out]
    clear HQN
    have k3 := HKN.out.kept g3 (by intro e; have e2 := Option.some.inj e; omega)
    have kr3 := HKR2.out.kept g3 (by intro e; have e2 := Option.some.inj e; omega)
    obtain ⟨va, vc, hv, hvc, hvm, hvn, _⟩ := row2.form
    subst hv
    have m0 := k3.cell 0
    have m1 := k3.cell 1
    have m2 := k3.cell 2
    have mf1 := k3.frozen 2
    have t0 := kr3.cell 0
    have t1 := kr3.cell 1
    have t2 := kr3.cell 2
    have tf0 := kr3.frozen 0
    have tf1 := kr3.frozen 1
    have tf2 := kr3.frozen 2
    simp only [List.getElem?_cons_zero, List.getElem?_cons_succ] at m0 m1 m2 t0 t1 t2
    obtain ⟨n, hn⟩ : ∃ n, n = q.1.length := ⟨_, rfl⟩
    obtain ⟨w3, hw3⟩ : ∃ w3, w3 = (((w2.setCell ⟨qn, 2, none⟩ (.slice va n vc)).setCell ⟨qr, 0, none⟩ (.int .i64 lv)).setCell ⟨qr, 1, none⟩ (.slice none 0 0)).setCell ⟨qr, 2, none⟩ (.slice va n vc) := ⟨_, rfl⟩
    have o3 : Onl (fun i => i = qn ∨ i = qr) w2 w3 := by
      rw [hw3]
      exact ((((Onl.refl (fun i => i = qn ∨ i = qr) w2).set (p := qn) (.inl (.inl rfl)) _).set (p := qr) (.inl (.inr rfl)) _).set (p := qr) (.inl (.inr rfl)) _).set (p := qr) (.inl (.inr rfl)) _
    have kr4 : Ob w3 qr 25 [.int .i64 lv, .slice none 0 0, .slice va n vc] := by
      rw [hw3]
      exact (((kr3.set_other (Ne.symm hq1) _).set 0 _).set 1 _).set 2 _
    have ap1 := Row.apartOb row2 k3 (by decide)
    have ap2 := Row.apartOb row2 kr3 (by decide)
    have row3 := row2.onl o3 (fun i hi z => by
      rcases z with z | z
      · exact ap1 (by rw [hi, z])
      · exact ap2 (by rw [hi, z]))
    have r4 := r3.onl o3 (fun z => by omega) (fun z => by omega)
    have g4 := grew_onl (grew_trans HG1.out g3) o3 (fun i z => by omega)
    obtain ⟨va', vc', hv', hrd, hlc, hcm, hno⟩ := rd_kcells row3
    injection hv' with e1 e2 e3
    subst e1 e3
    rw [← hn] at hlc
    have HF : Hid (RnP w p g Z (.returned (.agg #[.int .i64 lv, .slice none 0 0, .slice va n vc])) w3) := by
      rw [HZ2.out]
      refine hide ⟨⟨⟨lv, [], q.1⟩, none, 0, va, vc⟩, rfl, ⟨fun i e hi => by simp at hi, hrd, fun _ => rfl, hno, by simp, by simp only; omega, by simp [maxLen], by simp only; omega, by simp only; omega, by simp, fun e he => ?_⟩, by rw [hn]; rfl, r4, g4⟩
      have := HSZ.out e he
      unfold maxLen
      omega
    have HKR4 := hide kr4
    rw [← hn]
    rw [hw3] at HF HKR4
    clear row2 r3 g3 k3 kr3 o3 kr4 ap1 ap2 row3 r4 g4 hrd hn hw3 e2 HC2 hno
    go_wp2
    exact fin_rn HKR4.out rfl HF.out
end Go.Proofs.Ytandjkogpdamcaa
