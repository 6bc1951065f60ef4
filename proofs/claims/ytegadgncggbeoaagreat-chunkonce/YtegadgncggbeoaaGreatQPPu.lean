/- Put of the program's Pager. Over the translation. -/
import Derived.Test.YtegadgncggbeoaaGreatQPPw
namespace Apo
open Go Go.RowKit

/-- a text is put: its span, the error, the pager, the device -/
def Cg.put (c : Cg) (st : Sd) (b : List Int) : (Spn × Int) × Cg × Sd :=
  if c.ended then ((⟨0, 0⟩, 40), c, st)
  else if needP b.length = 0 then ((⟨0, 0⟩, 2), c, st)
  else if (c.f.take (needP b.length)).1.2 = false then ((⟨0, 0⟩, 70), c, st)
  else if (st.wrText2 (firstP (c.f.take (needP b.length)).1.1) b).1 = 0 then
    ((⟨(c.f.take (needP b.length)).1.1, needP b.length⟩, 0), { c with f := (c.f.take (needP b.length)).2, n := (c.n.claim ⟨(c.f.take (needP b.length)).1.1, needP b.length⟩).2, ended := false }, (st.wrText2 (firstP (c.f.take (needP b.length)).1.1) b).2)
  else ((⟨0, 0⟩, (st.wrText2 (firstP (c.f.take (needP b.length)).1.1) b).1), { c with f := (c.f.take (needP b.length)).2, n := (c.n.claim ⟨(c.f.take (needP b.length)).1.1, needP b.length⟩).2, ended := true }, (st.wrText2 (firstP (c.f.take (needP b.length)).1.1) b).2)
end Apo
namespace Go.Proofs.YtegadgncggbeoaaGreat
open Go.RowKit Apo

/-- where a row is found -/
theorem take_bd {f : Fr} (ok : OkFr f) (n : Int) : 0 ≤ (f.take n).1.1 ∧ (f.take n).1.1 ≤ 16384 := by
  unfold Fr.take
  cases hq : f.first n with
  | none => exact ⟨by simp, by simp⟩
  | some i =>
    have hi := List.mem_range.1 (List.mem_of_find?_eq_some hq)
    have hl := ok.len
    exact ⟨by simp, by simp; omega⟩
theorem size_span : (Tryz.prog.info? 84).map (·.size) = some 2 := by kernel_rfl
/-- a span that is handed back out of its variable, and an error beside it -/
theorem fin_put {W : World} {g : Nat} {sa sk er : Int} {tmps : Array Value} {Q : Ending → World → Prop} (k : Ob W g 84 [.int .i64 sa, .int .i64 sk]) (h4 : tmps.getD 4 undef = .pointer (some ⟨g, 0, none⟩)) (h5 : tmps.getD 5 undef = .int .i64 er) (hq : Q (.returned (.tuple #[.agg #[.int .i64 sa, .int .i64 sk], .int .i64 er])) W) :
    bodyPost Tryz.prog Tryz.f39 Q Exit.ret { tmps := tmps, defers := [] } W := by
  have hl := run_loadVar_row (P := Tryz.prog) W g 84 84 #[.int .i64 sa, .int .i64 sk] (0, 0) _ k Tryz.underlying84 rfl (by rw [size_span]; rfl)
  have h4' : tmps[4]?.getD undef = .pointer (some ⟨g, 0, none⟩) := by simpa using h4
  have h5' : tmps[5]?.getD undef = .int .i64 er := by simpa using h5
  refine bodyPost_ret (v := .tuple #[.agg #[.int .i64 sa, .int .i64 sk], .int .i64 er]) ?_ rfl hq
  simp [results, Tryz.results39, asAddr, h4', h5', hl]
set_option maxRecDepth 100000 in
set_option maxHeartbeats 4000000 in
theorem cput_any {U : Nat → Prop} {w : World} {p d : Nat} {c : Cg} {st : Sd} (h : CPx U w p d c st) (hc : st.C.length ≤ 536870912) (ba : Option Addr) (bc : Nat) (b : List Int) (hr : Rd .u8 w ba b) (hn : ba = none → bc = 0) (hbc : b.length ≤ bc) (hbo : ∀ x, ba = some x → 0 < b.length → ¬ U x.block) (hby : ∀ z ∈ b, 0 ≤ z ∧ z ≤ 255) :
    Calls Tryz.prog 39 #[.pointer (some ⟨p, 0, none⟩), .slice ba b.length bc] w fun e w' => e = .returned (.tuple #[.agg #[.int .i64 (c.put st b).1.1.a, .int .i64 (c.put st b).1.1.k], .int .i64 (c.put st b).1.2]) ∧ CPx (Gro U w w') w' p d (c.put st b).2.1 (c.put st b).2.2 ∧ Onl U w w' := by
  obtain ⟨Od, Of, Ow, On, pf, pw, pn, h, hin⟩ := h
  have hbx : ∀ x, ba = some x → 0 < b.length → x.block < w.heap.size ∧ ¬ U x.block := fun x hx hl => ⟨by subst hx; exact Rd.lt hr hl, hbo x hx hl⟩
  have P0 := (Pw.new h hin).alloc (.cells #[.int .i64 0, .int .i64 0] 84)
  have k0 := Ob.new w [.int .i64 0, .int .i64 0] 84
  have r0 : Rd .u8 (w.alloc (.cells #[.int .i64 0, .int .i64 0] 84)) ba b := hr.below ((Below.refl _ w).alloc (Nat.le_refl _) _)
  obtain ⟨c0, c1, c4, c5, c6, c7, cp⟩ := P0.cells
  have x0 := k0.cell 0
  have x1 := k0.cell 1
  have f0 := k0.frozen 0
  have f1 := k0.frozen 1
  simp only [List.getElem?_cons_zero, List.getElem?_cons_succ] at x0 x1
  have C1 := cgoes_ob P0.ob rfl rfl
  have okf := h.b.fr.ok
  have hrok := h.b.rok
  have HP0 := hide P0
  have HK0 := hide k0
  have HR0 := hide r0
  have HBX := hide hbx
  have HBY := hide hby
  have HN := hide hn
  have hs0 : (w.alloc (.cells #[.int .i64 0, .int .i64 0] 84)).heap.size = w.heap.size + 1 := by simp
  clear P0 k0 r0 hbx hby hbo hr h hin hn
  cases hend : c.ended with
  | true =>
    have e : c.put st b = ((⟨0, 0⟩, 40), c, st) := by unfold Cg.put; rw [if_pos hend]
    rw [e]
    rw [hend] at C1
    clear e
    go_enter Tryz.func39, Tryz.ntmps39
    go_wp2_with fail
    refine C1.mono ?_
    rintro e wx ⟨rfl, rfl⟩
    go_wp2
    exact fin_put HK0.out rfl rfl ⟨rfl, HP0.out.out⟩
  | false =>
    rw [hend] at C1
    have C2 := fun W => cneed_any (b.length : Int) W
    by_cases hn0 : needP b.length = 0
    · have e : c.put st b = ((⟨0, 0⟩, 2), c, st) := by unfold Cg.put; rw [if_neg (by rw [hend]; simp), if_pos hn0]
      rw [e]
      rw [hn0] at C2
      clear e
      go_enter Tryz.func39, Tryz.ntmps39
      go_wp2_with fail
      refine C1.mono ?_
      rintro e wx ⟨rfl, rfl⟩
      go_wp2_with fail
      refine (C2 _).mono ?_
      rintro e wx ⟨rfl, rfl⟩
      go_wp2
      exact fin_put HK0.out rfl rfl ⟨rfl, HP0.out.out⟩
    · obtain ⟨n, hnn⟩ : ∃ n, n = needP b.length := ⟨_, rfl⟩
      have hnl := needP_le (b.length : Int)
      rw [← hnn] at C2 hnl
      have hnb : ((n : Int) == 0) = false := by simp; omega
      have C3 := ctake_any HP0.out.c.b.fr HP0.out.c.b.l2 (n : Int)
      have htb := take_bd okf (n : Int)
      have HNN := hide hnn
      have HC3 := hide C3
      clear C3 hnn
      cases htk : (c.f.take (n : Int)).1.2 with
      | false =>
        have e : c.put st b = ((⟨0, 0⟩, 70), c, st) := by unfold Cg.put; rw [if_neg (by rw [hend]; simp), if_neg hn0, ← HNN.out, if_pos htk]
        have htn : (c.f.take (n : Int)).2 = c.f := by
          unfold Fr.take at htk ⊢
          split at htk
          · cases htk
          · rfl
        rw [e]
        rw [htk, htn] at HC3
        generalize (c.f.take (n : Int)).1.1 = A at HC3
        clear e
        go_enter Tryz.func39, Tryz.ntmps39
        go_wp2_with fail
        refine C1.mono ?_
        rintro e wx ⟨rfl, rfl⟩
        go_wp2_with fail
        refine (C2 _).mono ?_
        rintro e wx ⟨rfl, rfl⟩
        go_wp2_with fail
        refine HC3.out.mono ?_
        rintro e w2 ⟨rfl, f2, o2⟩
        have T2 : Pw U _ w w2 p d pf pw pn c st _ _ _ _ := HP0.out.turnF f2 o2
        have k2 := HK0.out.onl o2 (HP0.out.oth w.heap.size (.inr rfl)).2.2.1
        have y0 := k2.cell 0
        have y1 := k2.cell 1
        have g0 := k2.frozen 0
        have g1 := k2.frozen 1
        simp only [List.getElem?_cons_zero, List.getElem?_cons_succ] at y0 y1
        have HT := hide ((T2.other (r := w.heap.size) (.inr rfl) (Nat.le_refl _) 0 (.int .i64 0)).other (r := w.heap.size) (.inr rfl) (Nat.le_refl _) 1 (.int .i64 0))
        have HK := hide ((k2.set 0 (.int .i64 0)).set 1 (.int .i64 0))
        clear f2 o2 T2 k2
        go_wp2
        exact fin_put HK.out rfl rfl ⟨rfl, HT.out.out⟩
      | true =>
        obtain ⟨A, hA⟩ : ∃ A, A = (c.f.take (n : Int)).1.1 := ⟨_, rfl⟩
        obtain ⟨f', hf'⟩ : ∃ f', f' = (c.f.take (n : Int)).2 := ⟨_, rfl⟩
        have e : c.put st b = if (st.wrText2 (firstP A) b).1 = 0 then ((⟨A, n⟩, 0), { c with f := f', n := (c.n.claim ⟨A, n⟩).2, ended := false }, (st.wrText2 (firstP A) b).2) else ((⟨0, 0⟩, (st.wrText2 (firstP A) b).1), { c with f := f', n := (c.n.claim ⟨A, n⟩).2, ended := true }, (st.wrText2 (firstP A) b).2) := by
          unfold Cg.put
          rw [if_neg (by rw [hend]; simp), if_neg hn0, ← HNN.out, if_neg (by rw [htk]; simp), ← hA, ← hf']
        rw [htk, ← hA, ← hf'] at HC3
        rw [← hA] at htb
        generalize c.put st b = res at e ⊢
        have HE := hide e
        clear e hA hf' htk
        go_enter Tryz.func39, Tryz.ntmps39
        go_wp2_with fail
        refine C1.mono ?_
        rintro e wx ⟨rfl, rfl⟩
        go_wp2_with fail
        refine (C2 _).mono ?_
        rintro e wx ⟨rfl, rfl⟩
        go_wp2_with fail
        refine HC3.out.mono ?_
        rintro e w2 ⟨rfl, f2, o2⟩
        have T2 := HP0.out.turnF f2 o2
        have k2 := HK0.out.onl o2 (HP0.out.oth w.heap.size (.inr rfl)).2.2.1
        have r2 : Rd .u8 w2 ba b := HR0.out.onl o2 (fun x hx hl => (HP0.out.oth x.block (.inl (HBX.out x hx hl))).2.2.1)
        have T3 := (T2.alloc (.cells #[.int .i64 A, .int .i64 n] 84)).drew
        have k3 : Ob (w2.alloc (.cells #[.int .i64 A, .int .i64 n] 84)).drew w.heap.size 84 _ := k2.alloc _
        have m3 : Ob (w2.alloc (.cells #[.int .i64 A, .int .i64 n] 84)).drew w2.heap.size 84 [.int .i64 A, .int .i64 n] := Ob.new w2 [.int .i64 A, .int .i64 n] 84
        have r3 : Rd .u8 (w2.alloc (.cells #[.int .i64 A, .int .i64 n] 84)).drew ba b := r2.below (((Below.refl _ w2).alloc (Nat.le_refl _) _).drew)
        have C4 := cclaim_any T3.c.nr T3.c.l4 ⟨A, n⟩ ⟨by show -9223372036854775808 ≤ A; omega, by show A ≤ 9223372036854775807; omega, by show -9223372036854775808 ≤ (n : Int); omega, by show (n : Int) ≤ 9223372036854775807; omega⟩
        obtain ⟨d0, d1, d4, d5, d6, d7, dp⟩ := T3.cells
        have z0 := m3.cell 0
        have z1 := m3.cell 1
        simp only [List.getElem?_cons_zero, List.getElem?_cons_succ] at z0 z1
        have hw2 : w.heap.size < w2.heap.size := k2.lt
        have HT3 := hide T3
        have HK3 := hide k3
        have HM3 := hide m3
        have HR3 := hide r3
        have HC4 := hide C4
        clear f2 o2 T2 k2 r2 T3 k3 m3 r3 C4
        go_wp2
        go_region_held3 (fun W' => W'.cell? ⟨p, 6, none⟩ = some (.pointer (some ⟨pn, 0, none⟩)) ∧ W'.cell? ⟨w2.heap.size, 0, none⟩ = some (.int .i64 A) ∧ W'.cell? ⟨w2.heap.size, 1, none⟩ = some (.int .i64 n)) (go_keep) (first
          | (go_at_call 74; refine HC4.out.mono ?_; rintro e w4 ⟨rfl, k4, o4⟩; have T4 := HT3.out.turnN k4 o4; obtain ⟨d0, d1, d4, d5, d6, d7, dp⟩ := T4.cells; have m4 := HM3.out.onl o4 (HT3.out.oth w2.heap.size (.inr rfl)).2.2.2.2.1; have q4 := HK3.out.onl o4 (HT3.out.oth w.heap.size (.inl (.inr rfl))).2.2.2.2.1; have r4 := HR3.out.onl o4 (fun x hx hl => (HT3.out.oth x.block (.inl (.inl (HBX.out x hx hl)))).2.2.2.2.1); have z0 := m4.cell 0; have z1 := m4.cell 1; simp only [List.getElem?_cons_zero, List.getElem?_cons_succ] at z0 z1; have HT4 := hide T4; have HM4 := hide m4; have HQ4 := hide q4; have HR4 := hide r4; clear T4 m4 q4 r4 k4 o4))
        have C5 := cwtext_any HT4.out.c.b.dv HT4.out.c.b.l1 hc A ba bc b HR4.out HN.out hbc (fun x hx hl => (HT4.out.oth x.block (.inl (.inl (HBX.out x hx hl)))).2.1) HBY.out
        have HC5 := hide C5
        clear C5 HC4
        obtain ⟨d0, d1, d4, d5, d6, d7, dp⟩ := HT4.out.cells
        go_wp2_with fail
        refine HC5.out.mono ?_
        rintro e w5 ⟨rfl, d5, o5⟩
        have T5 := HT4.out.turnD d5 o5
        have m5 := HM4.out.onl o5 (HT4.out.oth w2.heap.size (.inr rfl)).2.1
        have q5 := HQ4.out.onl o5 (HT4.out.oth w.heap.size (.inl (.inr rfl))).2.1
        obtain ⟨er, her⟩ : ∃ er, er = (st.wrText2 (firstP A) b).1 := ⟨_, rfl⟩
        rw [← her]
        have HER := hide her
        clear her
        have C6 := cends_ob T5.ob (by simp) er
        have HT5 := hide T5
        have HM5 := hide m5
        have HQ5 := hide q5
        have HC6 := hide C6
        clear T5 m5 q5 C6 d5 o5
        go_wp2_with fail
        refine HC6.out.mono ?_
        rintro e w6 ⟨rfl, hw6⟩
        have T6 := HT5.out.ends (er != 0)
        have hpr := (HT5.out.oth w.heap.size (.inl (.inr rfl))).2.2.2.2.2
        have hps := (HT5.out.oth w2.heap.size (.inr rfl)).2.2.2.2.2
        have m6 := HM5.out.set_other (q := p) (i := 7) hps (.bool (er != 0))
        have q6 := HQ5.out.set_other (q := p) (i := 7) hpr (.bool (er != 0))
        rw [← hw6] at T6 m6 q6
        clear hw6
        have y0 := q6.cell 0
        have y1 := q6.cell 1
        have g0 := q6.frozen 0
        have g1 := q6.frozen 1
        have z0 := m6.cell 0
        have z1 := m6.cell 1
        simp only [List.getElem?_cons_zero, List.getElem?_cons_succ] at y0 y1 z0 z1
        by_cases hq : er = 0
        · have HE2 : Hid (res = ((⟨A, n⟩, 0), { c with f := f', n := (c.n.claim ⟨A, n⟩).2, ended := false }, (st.wrText2 (firstP A) b).2)) := hide (by have := HE.out; rw [if_pos (by rw [← HER.out]; exact hq)] at this; exact this)
          have hqb : (er != 0) = false := by simpa using hq
          rw [hqb] at T6
          have HT := hide ((T6.other (r := w.heap.size) (.inl (.inr rfl)) (Nat.le_refl _) 0 (.int .i64 A)).other (r := w.heap.size) (.inl (.inr rfl)) (Nat.le_refl _) 1 (.int .i64 n))
          have HK := hide ((q6.set 0 (.int .i64 A)).set 1 (.int .i64 n))
          clear T6 m6 q6 HER HE hqb
          subst hq
          go_wp2
          refine fin_put HK.out rfl rfl ?_
          rw [HE2.out]
          exact ⟨rfl, HT.out.out⟩
        · have HE2 : Hid (res = ((⟨0, 0⟩, er), { c with f := f', n := (c.n.claim ⟨A, n⟩).2, ended := true }, (st.wrText2 (firstP A) b).2)) := hide (by have := HE.out; rw [if_neg (by rw [← HER.out]; exact hq), ← HER.out] at this; exact this)
          have hqb : (er != 0) = true := by simpa using hq
          have hqc : (er == 0) = false := by simpa using hq
          rw [hqb] at T6
          have HT := hide ((T6.other (r := w.heap.size) (.inl (.inr rfl)) (Nat.le_refl _) 0 (.int .i64 0)).other (r := w.heap.size) (.inl (.inr rfl)) (Nat.le_refl _) 1 (.int .i64 0))
          have HK := hide ((q6.set 0 (.int .i64 0)).set 1 (.int .i64 0))
          clear T6 m6 q6 HER HE
          go_wp2
          refine fin_put HK.out rfl rfl ?_
          rw [HE2.out]
          exact ⟨rfl, HT.out.out⟩
end Go.Proofs.YtegadgncggbeoaaGreat
