/- slices.Equal of refs, of Mades, of clashes. Over the translation. (Written by tools/genz.py.) state.Same. Over the translation. (Written by tools/genz.py.) -/
import Derived.BigQuiet
import Derived.Test.YtgjhmpmjbedjoaaQSMd
import Derived.Test.YtgjhmpmjbedjoaaQA3
import Derived.Test.YtgjhmpmjbedjoaaQSSm
namespace Go.Proofs.Ytgjhmpmjbedjoaa
open Go.RowKit Apo
open Classical in
set_option maxRecDepth 100000 in
set_option maxHeartbeats 1000000 in
theorem eq_refs (a : Option Addr) (acap : Nat) (l : List Rf) (b : Option Addr) (bcap : Nat) (m : List Rf) (w : World) (ha : RdG cRf 3 w a l) (hb : RdG cRf 3 w b m) (hl : l.length ≤ 9223372036854775807) :
    Calls Try.prog 35 #[.slice a l.length acap, .slice b m.length bcap] w fun e w' => e = .returned (.bool (decide (l = m))) ∧ Below w.heap.size w w' := by
  have hA := hide ha
  have hB := hide hb
  clear ha hb
  by_cases hlen : l.length = m.length
  · rw [← hlen]
    have HL := hide hlen
    clear hlen
    go_enter Try.func35, Try.ntmps35
    go_wp2
    go_loopw [13] (fun i wr => ∃ k : Nat, k ≤ l.length ∧ i = .int .i64 k ∧ Hid (l.take k = m.take k) ∧ Below w.heap.size w wr) (fun i _ => l.length - (intOf i).toNat)
    case atStart => exact ⟨0, Nat.zero_le _, rfl, rfl, Below.refl _ _⟩
    case round =>
      obtain ⟨k, hk, rfl, hE, hbr⟩ := hrel
      by_cases hlt : k < l.length
      · have hz : l[k]? = some l[k] := List.getElem?_eq_getElem hlt
        have hlt2 : k < m.length := by rw [← HL.out]; exact hlt
        have hy : m[k]? = some m[k] := List.getElem?_eq_getElem hlt2
        generalize l[k] = f at hz
        generalize m[k] = g at hy
        obtain ⟨p, off, rfl, c0, c1, c2⟩ := rd_rf (hA.out.below hbr) hz
        obtain ⟨p', off', rfl, d0, d1, d2⟩ := rd_rf (hB.out.below hbr) hy
        have HZ := hide hz
        have HY := hide hy
        clear hz hy
        have hm : Try.prog.eqGuardType Try.prog.depth 57 = false := by kernel_rfl
        have hcmp := neqRf f g
        by_cases hfg : f = g
        · subst hfg
          simp only [decide_true, Bool.not_true] at hcmp
          have hE' : Hid (l.take (k + 1) = m.take (k + 1)) := by
            show _ = _
            rw [List.take_add_one, List.take_add_one, HZ.out, HY.out, hE.out]
          go_wp2
          go_quiet (fail)
          go_wp2
          go_roundw
          case rel => exact ⟨k + 1, by omega, by go_num, hE', below_drewN hbr _⟩
          case measure => simp [intOf]; omega
        · have hd : decide (f = g) = false := by simp [hfg]
          simp only [hd, Bool.not_false] at hcmp
          have hE' : Hid (l ≠ m) := by
            intro e
            have h1 := HZ.out
            rw [e, HY.out] at h1
            exact hfg (by cases h1; rfl)
          go_wp2
          go_quiet (fail)
          go_wp2
          go_ret
          exact ⟨by simp [hE'.out], below_drewN hbr _⟩
      · have hE' : Hid (l = m) := by
          have h1 := hE.out
          rw [List.take_of_length_le (by omega), List.take_of_length_le (by rw [← HL.out]; omega)] at h1
          exact h1
        go_wp2
        go_ret
        exact ⟨by simp [hE'.out], hbr⟩
  · have hne : l ≠ m := fun e => hlen (by rw [e])
    have hN := hide hne
    have hlb : ((l.length : Int) == (m.length : Int)) = false := by simp; omega
    clear hne
    go_enter Try.func35, Try.ntmps35
    go_wp2
    go_ret
    exact ⟨by simp [hN.out], Below.refl _ _⟩
open Classical in
set_option maxRecDepth 100000 in
set_option maxHeartbeats 1000000 in
theorem eq_made (a : Option Addr) (acap : Nat) (l : List Mk) (b : Option Addr) (bcap : Nat) (m : List Mk) (w : World) (ha : RdG cMk 2 w a l) (hb : RdG cMk 2 w b m) (hl : l.length ≤ 9223372036854775807) :
    Calls Try.prog 36 #[.slice a l.length acap, .slice b m.length bcap] w fun e w' => e = .returned (.bool (decide (l = m))) ∧ Below w.heap.size w w' := by
  have hA := hide ha
  have hB := hide hb
  clear ha hb
  by_cases hlen : l.length = m.length
  · rw [← hlen]
    have HL := hide hlen
    clear hlen
    go_enter Try.func36, Try.ntmps36
    go_wp2
    go_loopw [13] (fun i wr => ∃ k : Nat, k ≤ l.length ∧ i = .int .i64 k ∧ Hid (l.take k = m.take k) ∧ Below w.heap.size w wr) (fun i _ => l.length - (intOf i).toNat)
    case atStart => exact ⟨0, Nat.zero_le _, rfl, rfl, Below.refl _ _⟩
    case round =>
      obtain ⟨k, hk, rfl, hE, hbr⟩ := hrel
      by_cases hlt : k < l.length
      · have hz : l[k]? = some l[k] := List.getElem?_eq_getElem hlt
        have hlt2 : k < m.length := by rw [← HL.out]; exact hlt
        have hy : m[k]? = some m[k] := List.getElem?_eq_getElem hlt2
        generalize l[k] = f at hz
        generalize m[k] = g at hy
        obtain ⟨p, off, rfl, c0, c1⟩ := rd_mk (hA.out.below hbr) hz
        obtain ⟨p', off', rfl, d0, d1⟩ := rd_mk (hB.out.below hbr) hy
        have HZ := hide hz
        have HY := hide hy
        clear hz hy
        have hm : Try.prog.eqGuardType Try.prog.depth 60 = false := by kernel_rfl
        have hcmp := neqMk f g
        by_cases hfg : f = g
        · subst hfg
          simp only [decide_true, Bool.not_true] at hcmp
          have hE' : Hid (l.take (k + 1) = m.take (k + 1)) := by
            show _ = _
            rw [List.take_add_one, List.take_add_one, HZ.out, HY.out, hE.out]
          go_wp2
          go_quiet (fail)
          go_wp2
          go_roundw
          case rel => exact ⟨k + 1, by omega, by go_num, hE', below_drewN hbr _⟩
          case measure => simp [intOf]; omega
        · have hd : decide (f = g) = false := by simp [hfg]
          simp only [hd, Bool.not_false] at hcmp
          have hE' : Hid (l ≠ m) := by
            intro e
            have h1 := HZ.out
            rw [e, HY.out] at h1
            exact hfg (by cases h1; rfl)
          go_wp2
          go_quiet (fail)
          go_wp2
          go_ret
          exact ⟨by simp [hE'.out], below_drewN hbr _⟩
      · have hE' : Hid (l = m) := by
          have h1 := hE.out
          rw [List.take_of_length_le (by omega), List.take_of_length_le (by rw [← HL.out]; omega)] at h1
          exact h1
        go_wp2
        go_ret
        exact ⟨by simp [hE'.out], hbr⟩
  · have hne : l ≠ m := fun e => hlen (by rw [e])
    have hN := hide hne
    have hlb : ((l.length : Int) == (m.length : Int)) = false := by simp; omega
    clear hne
    go_enter Try.func36, Try.ntmps36
    go_wp2
    go_ret
    exact ⟨by simp [hN.out], Below.refl _ _⟩
open Classical in
set_option maxRecDepth 100000 in
set_option maxHeartbeats 1000000 in
theorem eq_cls (a : Option Addr) (acap : Nat) (l : List Cl) (b : Option Addr) (bcap : Nat) (m : List Cl) (w : World) (ha : RdG cCl 7 w a l) (hb : RdG cCl 7 w b m) (hl : l.length ≤ 9223372036854775807) :
    Calls Try.prog 37 #[.slice a l.length acap, .slice b m.length bcap] w fun e w' => e = .returned (.bool (decide (l = m))) ∧ Below w.heap.size w w' := by
  have hA := hide ha
  have hB := hide hb
  clear ha hb
  by_cases hlen : l.length = m.length
  · rw [← hlen]
    have HL := hide hlen
    clear hlen
    go_enter Try.func37, Try.ntmps37
    go_wp2
    go_loopw [13] (fun i wr => ∃ k : Nat, k ≤ l.length ∧ i = .int .i64 k ∧ Hid (l.take k = m.take k) ∧ Below w.heap.size w wr) (fun i _ => l.length - (intOf i).toNat)
    case atStart => exact ⟨0, Nat.zero_le _, rfl, rfl, Below.refl _ _⟩
    case round =>
      obtain ⟨k, hk, rfl, hE, hbr⟩ := hrel
      by_cases hlt : k < l.length
      · have hz : l[k]? = some l[k] := List.getElem?_eq_getElem hlt
        have hlt2 : k < m.length := by rw [← HL.out]; exact hlt
        have hy : m[k]? = some m[k] := List.getElem?_eq_getElem hlt2
        generalize l[k] = f at hz
        generalize m[k] = g at hy
        obtain ⟨p, off, rfl, c0, c1, c2, c3, c4, c5, c6⟩ := (hA.out.below hbr).cl hz
        obtain ⟨p', off', rfl, d0, d1, d2, d3, d4, d5, d6⟩ := (hB.out.below hbr).cl hy
        have HZ := hide hz
        have HY := hide hy
        clear hz hy
        have hm : Try.prog.eqGuardType Try.prog.depth 75 = false := by kernel_rfl
        have hcmp := neqCl f g
        by_cases hfg : f = g
        · subst hfg
          simp only [decide_true, Bool.not_true] at hcmp
          have hE' : Hid (l.take (k + 1) = m.take (k + 1)) := by
            show _ = _
            rw [List.take_add_one, List.take_add_one, HZ.out, HY.out, hE.out]
          go_wp2
          go_quiet (fail)
          go_wp2
          go_roundw
          case rel => exact ⟨k + 1, by omega, by go_num, hE', below_drewN hbr _⟩
          case measure => simp [intOf]; omega
        · have hd : decide (f = g) = false := by simp [hfg]
          simp only [hd, Bool.not_false] at hcmp
          have hE' : Hid (l ≠ m) := by
            intro e
            have h1 := HZ.out
            rw [e, HY.out] at h1
            exact hfg (by cases h1; rfl)
          go_wp2
          go_quiet (fail)
          go_wp2
          go_ret
          exact ⟨by simp [hE'.out], below_drewN hbr _⟩
      · have hE' : Hid (l = m) := by
          have h1 := hE.out
          rw [List.take_of_length_le (by omega), List.take_of_length_le (by rw [← HL.out]; omega)] at h1
          exact h1
        go_wp2
        go_ret
        exact ⟨by simp [hE'.out], hbr⟩
  · have hne : l ≠ m := fun e => hlen (by rw [e])
    have hN := hide hne
    have hlb : ((l.length : Int) == (m.length : Int)) = false := by simp; omega
    clear hne
    go_enter Try.func37, Try.ntmps37
    go_wp2
    go_ret
    exact ⟨by simp [hN.out], Below.refl _ _⟩
end Go.Proofs.Ytgjhmpmjbedjoaa
namespace Go.Proofs.Ytgjhmpmjbedjoaa
open Go.RowKit Apo
open Classical in
set_option maxRecDepth 100000 in
set_option maxHeartbeats 8000000 in
theorem same_state (x y : SvA) (w : World) (hx : SvR w x) (hy : SvR w y) :
    Calls Try.prog 14 #[.agg (cSv x).toArray, .agg (cSv y).toArray] w fun e w' => e = .returned (.bool (decide (x.s = y.s))) ∧ Below w.heap.size w w' := by
  obtain ⟨s, ra, rc, ma, mc, ca, cc⟩ := x
  obtain ⟨t, rb, rd, mb, md', cb, cd⟩ := y
  unfold cSv
  simp only
  have HX := hide hx
  have HY := hide hy
  have hb1 : s.rf.length ≤ 9223372036854775807 := by have := hx.rl; simp only at this; unfold maxLen at this; omega
  have hb2 : s.md.length ≤ 9223372036854775807 := by have := hx.ml; simp only at this; unfold maxLen at this; omega
  have hb3 : s.cl.length ≤ 9223372036854775807 := by have := hx.cl; simp only at this; unfold maxLen at this; omega
  clear hx hy
  have HR := hide (fun W (b : Below w.heap.size w W) => eq_refs ra rc s.rf rb rd t.rf W (HX.out.rr.below b) (HY.out.rr.below b) hb1)
  have HM := hide (fun W (b : Below w.heap.size w W) => eq_made ma mc s.md mb md' t.md W (HX.out.mr.below b) (HY.out.mr.below b) hb2)
  have HC := hide (fun W (b : Below w.heap.size w W) => eq_cls ca cc s.cl cb cd t.cl W (HX.out.cr.below b) (HY.out.cr.below b) hb3)
  obtain ⟨eR, hR⟩ : ∃ eR, eR = decide (s.rf = t.rf) := ⟨_, rfl⟩
  obtain ⟨eM, hM⟩ : ∃ eM, eM = decide (s.md = t.md) := ⟨_, rfl⟩
  obtain ⟨eC, hC⟩ : ∃ eC, eC = decide (s.cl = t.cl) := ⟨_, rfl⟩
  rw [← hR] at HR
  rw [← hM] at HM
  rw [← hC] at HC
  have HE : Hid (decide (s = t) = (decide (s.hd = t.hd) && (decide (s.wk = t.wk) && (decide (s.nx = t.nx) && (decide (s.pd = t.pd) && (eR && (eM && eC))))))) := hide (by
    rw [hR, hM, hC]
    obtain ⟨s0, s1, s2, s3, s4, s5, s6⟩ := s
    obtain ⟨t0, t1, t2, t3, t4, t5, t6⟩ := t
    simp only [Sv.mk.injEq, Bool.decide_and])
  obtain ⟨E, hE⟩ : ∃ E, E = decide (s = t) := ⟨_, rfl⟩
  have HEE := hide hE
  rw [← hE] at HE ⊢
  clear hR hM hC hE HX HY
  generalize s.rf.length = n1 at *
  generalize s.md.length = n2 at *
  generalize s.cl.length = n3 at *
  generalize t.rf.length = m1 at *
  generalize t.md.length = m2 at *
  generalize t.cl.length = m3 at *
  have b2 : Below w.heap.size w ((w.alloc (.cells #[.string s.hd, .int .u64 s.wk, .int .u64 s.nx, .int .u64 s.pd, .slice ra n1 rc, .slice ma n2 mc, .slice ca n3 cc] 27)).alloc (.cells #[.string t.hd, .int .u64 t.wk, .int .u64 t.nx, .int .u64 t.pd, .slice rb m1 rd, .slice mb m2 md', .slice cb m3 cd] 27)) := ((Below.refl _ w).alloc (Nat.le_refl _) _).alloc (by simp) _
  have HB := hide b2
  have k1 := Ob.new w [.string s.hd, .int .u64 s.wk, .int .u64 s.nx, .int .u64 s.pd, .slice ra n1 rc, .slice ma n2 mc, .slice ca n3 cc] 27
  have HK1 := hide (k1.alloc (.cells #[.string t.hd, .int .u64 t.wk, .int .u64 t.nx, .int .u64 t.pd, .slice rb m1 rd, .slice mb m2 md', .slice cb m3 cd] 27))
  have k2 := Ob.new (w.alloc (.cells #[.string s.hd, .int .u64 s.wk, .int .u64 s.nx, .int .u64 s.pd, .slice ra n1 rc, .slice ma n2 mc, .slice ca n3 cc] 27)) [.string t.hd, .int .u64 t.wk, .int .u64 t.nx, .int .u64 t.pd, .slice rb m1 rd, .slice mb m2 md', .slice cb m3 cd] 27
  rw [World.size_alloc] at k2
  have HK2 := hide k2
  clear b2 k1 k2

  by_cases h0 : s.hd = t.hd
  rotate_left
  · have d0 : (s.hd.toList == t.hd.toList) = false := by rw [beq_eq_false_iff_ne]; exact fun e => h0 (bytes_of_list e)
    have e0 : decide (s.hd = t.hd) = false := by simpa using h0
    clear h0
    go_enter Try.func14, Try.ntmps14
    have HF : Hid (E = false) := hide (by rw [HE.out, e0]; simp)
    go_wp2
    go_ret
    exact ⟨by rw [HF.out]; rfl, HB.out⟩
  have d0 : (s.hd.toList == t.hd.toList) = true := by rw [h0]; simp
  have e0 : decide (s.hd = t.hd) = true := by simpa using h0
  clear h0
  by_cases h1 : s.wk = t.wk
  rotate_left
  · have d1 : (s.wk == t.wk) = false := by simpa using h1
    have e1 : decide (s.wk = t.wk) = false := by simpa using h1
    clear h1
    go_enter Try.func14, Try.ntmps14
    have HF : Hid (E = false) := hide (by rw [HE.out, e0, e1]; simp)
    go_wp2
    go_ret
    exact ⟨by rw [HF.out]; rfl, HB.out⟩
  have d1 : (s.wk == t.wk) = true := by simpa using h1
  have e1 : decide (s.wk = t.wk) = true := by simpa using h1
  clear h1
  by_cases h2 : s.nx = t.nx
  rotate_left
  · have d2 : (s.nx == t.nx) = false := by simpa using h2
    have e2 : decide (s.nx = t.nx) = false := by simpa using h2
    clear h2
    go_enter Try.func14, Try.ntmps14
    have HF : Hid (E = false) := hide (by rw [HE.out, e0, e1, e2]; simp)
    go_wp2
    go_ret
    exact ⟨by rw [HF.out]; rfl, HB.out⟩
  have d2 : (s.nx == t.nx) = true := by simpa using h2
  have e2 : decide (s.nx = t.nx) = true := by simpa using h2
  clear h2
  by_cases h3 : s.pd = t.pd
  rotate_left
  · have d3 : (s.pd == t.pd) = false := by simpa using h3
    have e3 : decide (s.pd = t.pd) = false := by simpa using h3
    clear h3
    go_enter Try.func14, Try.ntmps14
    have HF : Hid (E = false) := hide (by rw [HE.out, e0, e1, e2, e3]; simp)
    go_wp2
    go_ret
    exact ⟨by rw [HF.out]; rfl, HB.out⟩
  have d3 : (s.pd == t.pd) = true := by simpa using h3
  have e3 : decide (s.pd = t.pd) = true := by simpa using h3
  clear h3
  have HE4 : Hid (E = (eR && (eM && eC))) := hide (by rw [HE.out, e0, e1, e2, e3]; simp)
  clear HE e0 e1 e2 e3
  go_enter Try.func14, Try.ntmps14
  go_wp2_with fail
  refine (HR.out _ HB.out).mono ?_
  rintro e w1 ⟨rfl, b1⟩
  have HB1 := hide (HB.out.trans (b1.mono HB.out.size))
  have HK11 := hide (HK1.out.old b1)
  have HK21 := hide (HK2.out.old b1)
  clear b1 HR HB HK1 HK2
  cases eR with
  | false =>
    go_wp2
    go_ret
    exact ⟨by rw [HE4.out]; rfl, HB1.out⟩
  | true =>
  have x5 := HK11.out.cell 5
  have y5 := HK21.out.cell 5
  simp only [List.getElem?_cons_zero, List.getElem?_cons_succ] at x5 y5
  go_wp2_with fail
  refine (HM.out _ HB1.out).mono ?_
  rintro e w2 ⟨rfl, b2⟩
  have HB2 := hide (HB1.out.trans (b2.mono HB1.out.size))
  have HK12 := hide (HK11.out.old b2)
  have HK22 := hide (HK21.out.old b2)
  clear b2 HM HB1 HK11 HK21 x5 y5
  cases eM with
  | false =>
    go_wp2
    go_ret
    exact ⟨by rw [HE4.out]; rfl, HB2.out⟩
  | true =>
  have x6 := HK12.out.cell 6
  have y6 := HK22.out.cell 6
  simp only [List.getElem?_cons_zero, List.getElem?_cons_succ] at x6 y6
  go_wp2_with fail
  refine (HC.out _ HB2.out).mono ?_
  rintro e w3 ⟨rfl, b3⟩
  have HB3 := hide (HB2.out.trans (b3.mono HB2.out.size))
  clear b3 HC HB2 HK12 HK22 x6 y6
  cases eC with
  | false =>
    go_wp2
    go_ret
    exact ⟨by rw [HE4.out]; rfl, HB3.out⟩
  | true =>
    go_wp2
    go_ret
    exact ⟨by rw [HE4.out]; rfl, HB3.out⟩
end Go.Proofs.Ytgjhmpmjbedjoaa
