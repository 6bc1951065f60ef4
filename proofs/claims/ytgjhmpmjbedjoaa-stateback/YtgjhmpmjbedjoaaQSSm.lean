/- The document's SameState. Over the translation. (Written by tools/gen_ssm.py.) -/
import Derived.Test.YtgjhmpmjbedjoaaQSMd
import Derived.Test.YtgjhmpmjbedjoaaQA3
namespace Go.Proofs.Ytgjhmpmjbedjoaa
open Go.RowKit Apo
/-- a state's cells, written out -/
def svV (s : Sv) (ra : Option Addr) (rn rc : Nat) (ma : Option Addr) (mn mc : Nat) (ca : Option Addr) (cn cc : Nat) : Value := .agg #[.string s.hd, .int .u64 s.wk, .int .u64 s.nx, .int .u64 s.pd, .slice ra rn rc, .slice ma mn mc, .slice ca cn cc]

open Classical in
set_option maxRecDepth 100000 in
set_option maxHeartbeats 8000000 in
theorem rsame_state (x y : SvA) (w : World) (hx : SvR w x) (hy : SvR w y) :
    Calls Try.prog 15 #[.agg (cSv x).toArray, .agg (cSv y).toArray] w fun e w' => e = .returned (.bool (decide (x.s = y.s))) ∧ Below w.heap.size w w' := by
  obtain ⟨s, ra, rc, ma, mc, ca, cc⟩ := x
  obtain ⟨t, rb, rd, mb, md', cb, cd⟩ := y
  unfold cSv
  simp only
  have HX := hide hx
  have HY := hide hy
  have hb1 : s.rf.length ≤ 9223372036854775807 := by have := hx.rl; simp only at this; unfold maxLen at this; omega
  have hb2 : s.md.length ≤ 9223372036854775807 := by have := hx.ml; simp only at this; unfold maxLen at this; omega
  have hb3 : s.cl.length ≤ 9223372036854775807 := by have := hx.cl; simp only at this; unfold maxLen at this; omega
  clear hx hy
  have HR := hide (fun W (b : Below w.heap.size w W) => rsame_refs ra rc s.rf rb rd t.rf W (HX.out.rr.below b) (HY.out.rr.below b) hb1)
  have HM := hide (fun W (b : Below w.heap.size w W) => rsame_made ma mc s.md mb md' t.md W (HX.out.mr.below b) (HY.out.mr.below b) hb2)
  have HC := hide (fun W (b : Below w.heap.size w W) => sameCl_any ca cc s.cl cb cd t.cl W (HX.out.cr.below b) (HY.out.cr.below b) hb3)
  obtain ⟨eR, hR⟩ : ∃ eR, eR = decide (s.rf = t.rf) := ⟨_, rfl⟩
  obtain ⟨eM, hM⟩ : ∃ eM, eM = decide (s.md = t.md) := ⟨_, rfl⟩
  obtain ⟨eC, hC⟩ : ∃ eC, eC = decide (s.cl = t.cl) := ⟨_, rfl⟩
  rw [← hR] at HR
  rw [← hM] at HM
  rw [← hC] at HC
  have HE : Hid (decide (s = t) = (decide (s.hd = t.hd) && (decide (s.wk = t.wk) && (decide (s.nx = t.nx) && (decide (s.pd = t.pd) && (eR && (eM && eC))))))) := hide (by
    rw [hR, hM, hC]
    obtain ⟨s0, s1, s2, s3, s4, s5, s6⟩ := s
    obtain ⟨t0, t1, t2, t3, t4, t5, t6⟩ := t
    simp only [Sv.mk.injEq, Bool.decide_and])
  obtain ⟨E, hE⟩ : ∃ E, E = decide (s = t) := ⟨_, rfl⟩
  have HEE := hide hE
  rw [← hE] at HE ⊢
  clear hR hM hC hE HX HY
  generalize s.rf.length = n1 at *
  generalize s.md.length = n2 at *
  generalize s.cl.length = n3 at *
  generalize t.rf.length = m1 at *
  generalize t.md.length = m2 at *
  generalize t.cl.length = m3 at *
  have b2 : Below w.heap.size w ((w.alloc (.cells #[.string s.hd, .int .u64 s.wk, .int .u64 s.nx, .int .u64 s.pd, .slice ra n1 rc, .slice ma n2 mc, .slice ca n3 cc] 27)).alloc (.cells #[.string t.hd, .int .u64 t.wk, .int .u64 t.nx, .int .u64 t.pd, .slice rb m1 rd, .slice mb m2 md', .slice cb m3 cd] 27)) := ((Below.refl _ w).alloc (Nat.le_refl _) _).alloc (by simp) _
  have HB := hide b2
  have k1 := Ob.new w [.string s.hd, .int .u64 s.wk, .int .u64 s.nx, .int .u64 s.pd, .slice ra n1 rc, .slice ma n2 mc, .slice ca n3 cc] 27
  have HK1 := hide (k1.alloc (.cells #[.string t.hd, .int .u64 t.wk, .int .u64 t.nx, .int .u64 t.pd, .slice rb m1 rd, .slice mb m2 md', .slice cb m3 cd] 27))
  have k2 := Ob.new (w.alloc (.cells #[.string s.hd, .int .u64 s.wk, .int .u64 s.nx, .int .u64 s.pd, .slice ra n1 rc, .slice ma n2 mc, .slice ca n3 cc] 27)) [.string t.hd, .int .u64 t.wk, .int .u64 t.nx, .int .u64 t.pd, .slice rb m1 rd, .slice mb m2 md', .slice cb m3 cd] 27
  rw [World.size_alloc] at k2
  have HK2 := hide k2
  clear b2 k1 k2

  by_cases h0 : s.hd = t.hd
  rotate_left
  · have d0 : (s.hd.toList == t.hd.toList) = false := by rw [beq_eq_false_iff_ne]; exact fun e => h0 (bytes_of_list e)
    have e0 : decide (s.hd = t.hd) = false := by simpa using h0
    clear h0
    go_enter Try.func15, Try.ntmps15
    have HF : Hid (E = false) := hide (by rw [HE.out, e0]; simp)
    go_wp2
    go_ret
    exact ⟨by rw [HF.out]; rfl, HB.out⟩
  have d0 : (s.hd.toList == t.hd.toList) = true := by rw [h0]; simp
  have e0 : decide (s.hd = t.hd) = true := by simpa using h0
  clear h0
  by_cases h1 : s.wk = t.wk
  rotate_left
  · have d1 : (s.wk == t.wk) = false := by simpa using h1
    have e1 : decide (s.wk = t.wk) = false := by simpa using h1
    clear h1
    go_enter Try.func15, Try.ntmps15
    have HF : Hid (E = false) := hide (by rw [HE.out, e0, e1]; simp)
    go_wp2
    go_ret
    exact ⟨by rw [HF.out]; rfl, HB.out⟩
  have d1 : (s.wk == t.wk) = true := by simpa using h1
  have e1 : decide (s.wk = t.wk) = true := by simpa using h1
  clear h1
  by_cases h2 : s.nx = t.nx
  rotate_left
  · have d2 : (s.nx == t.nx) = false := by simpa using h2
    have e2 : decide (s.nx = t.nx) = false := by simpa using h2
    clear h2
    go_enter Try.func15, Try.ntmps15
    have HF : Hid (E = false) := hide (by rw [HE.out, e0, e1, e2]; simp)
    go_wp2
    go_ret
    exact ⟨by rw [HF.out]; rfl, HB.out⟩
  have d2 : (s.nx == t.nx) = true := by simpa using h2
  have e2 : decide (s.nx = t.nx) = true := by simpa using h2
  clear h2
  by_cases h3 : s.pd = t.pd
  rotate_left
  · have d3 : (s.pd == t.pd) = false := by simpa using h3
    have e3 : decide (s.pd = t.pd) = false := by simpa using h3
    clear h3
    go_enter Try.func15, Try.ntmps15
    have HF : Hid (E = false) := hide (by rw [HE.out, e0, e1, e2, e3]; simp)
    go_wp2
    go_ret
    exact ⟨by rw [HF.out]; rfl, HB.out⟩
  have d3 : (s.pd == t.pd) = true := by simpa using h3
  have e3 : decide (s.pd = t.pd) = true := by simpa using h3
  clear h3
  have HE4 : Hid (E = (eR && (eM && eC))) := hide (by rw [HE.out, e0, e1, e2, e3]; simp)
  clear HE e0 e1 e2 e3
  go_enter Try.func15, Try.ntmps15
  go_wp2_with fail
  refine (HR.out _ HB.out).mono ?_
  rintro e w1 ⟨rfl, b1⟩
  have HB1 := hide (HB.out.trans (b1.mono HB.out.size))
  have HK11 := hide (HK1.out.old b1)
  have HK21 := hide (HK2.out.old b1)
  clear b1 HR HB HK1 HK2
  cases eR with
  | false =>
    go_wp2
    go_ret
    exact ⟨by rw [HE4.out]; rfl, HB1.out⟩
  | true =>
  have x5 := HK11.out.cell 5
  have y5 := HK21.out.cell 5
  simp only [List.getElem?_cons_zero, List.getElem?_cons_succ] at x5 y5
  go_wp2_with fail
  refine (HM.out _ HB1.out).mono ?_
  rintro e w2 ⟨rfl, b2⟩
  have HB2 := hide (HB1.out.trans (b2.mono HB1.out.size))
  have HK12 := hide (HK11.out.old b2)
  have HK22 := hide (HK21.out.old b2)
  clear b2 HM HB1 HK11 HK21 x5 y5
  cases eM with
  | false =>
    go_wp2
    go_ret
    exact ⟨by rw [HE4.out]; rfl, HB2.out⟩
  | true =>
  have x6 := HK12.out.cell 6
  have y6 := HK22.out.cell 6
  simp only [List.getElem?_cons_zero, List.getElem?_cons_succ] at x6 y6
  go_wp2_with fail
  refine (HC.out _ HB2.out).mono ?_
  rintro e w3 ⟨rfl, b3⟩
  have HB3 := hide (HB2.out.trans (b3.mono HB2.out.size))
  clear b3 HC HB2 HK12 HK22 x6 y6
  cases eC with
  | false =>
    go_wp2
    go_ret
    exact ⟨by rw [HE4.out]; rfl, HB3.out⟩
  | true =>
    go_wp2
    go_ret
    exact ⟨by rw [HE4.out]; rfl, HB3.out⟩
end Go.Proofs.Ytgjhmpmjbedjoaa
