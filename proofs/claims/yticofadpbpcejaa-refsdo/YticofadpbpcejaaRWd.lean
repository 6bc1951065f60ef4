/- RefsDo: whatever is made, set and dropped: errors and refs are what the document says. The walk. Over the translation. -/
import Derived.Test.YticofadpbpcejaaRDo
import Derived.Deep.RegionHeld3
namespace Go.Proofs.Yticofadpbpcejaa
open Go.RowKit Apo
open Classical in
set_option maxRecDepth 100000 in
theorem eqlRf (f g : Rf) (w : World) : (binOp .eql 32 (.agg #[.string f.n, .bool f.t, .int .u64 f.i]) (.agg #[.string g.n, .bool g.t, .int .u64 g.i])).run Try.prog w = .ok (.bool (decide (f = g))) w := by
  have u9 := Try.underlying9
  have u4 := Try.underlying4
  have u30 := Try.underlying30
  have hS : Try.prog.underlying 32 = some (.struct (Try.prog.fieldsOf 32)) := by kernel_rfl
  have hp : Try.prog.stoodInHeld 32 = false := by kernel_rfl
  rw [run_eql_struct, show (10000 : Nat) = 9999 + 1 from rfl, run_equalIn_agg w 9999 32 _ _ hS hp]
  simp only [Program.fieldsOf, Try.underlying32]
  go_simp
  obtain ⟨fn, ft, fi⟩ := f
  obtain ⟨gn, gt, gi⟩ := g
  simp only
  by_cases h1 : fn = gn
  · by_cases h2 : ft = gt
    · by_cases h3 : fi = gi
      · simp [h1, h2, h3]
      · simp [h1, h2, h3]
    · simp [h1, h2]
  · have h1' : ¬ fn.toList = gn.toList := fun e => h1 (bytes_of_list e)
    simp [h1, h1']
set_option maxRecDepth 100000 in
set_option maxHeartbeats 16000000 in
theorem does16 (w : World) (f : RfA) (hf : OkRfA w f) (m : DrA) (hm : OkDrA w m) (s : ByteArray) (hs : s.size ≤ maxLen) :
    Calls Try.prog 3 #[.slice f.a f.l.length f.c, .slice m.a m.l.length m.c, .string s] w fun e w' => e = .returned (.bool true) ∧ Below w.heap.size w w' := by
  obtain ⟨fa, fc, fl⟩ := f
  obtain ⟨ma, mc, ml⟩ := m
  have HF := hide hf
  have HM := hide hm
  have hmb : ml.length ≤ 9223372036854775807 := by have := hm.len; have := hm.big; simp only at *; unfold maxLen at *; omega
  have hsz : s.size ≤ 9223372036854775807 := by unfold maxLen at hs; omega
  simp only at hmb ⊢
  obtain ⟨nf, hnf⟩ : ∃ n, n = fl.length := ⟨_, rfl⟩
  obtain ⟨nm, hnm⟩ : ∃ n, n = ml.length := ⟨_, rfl⟩
  have HNF := hide hnf
  have HNM := hide hnm
  rw [← hnf, ← hnm]
  rw [← hnm] at hmb
  clear hf hm hs hnf hnm
  go_enter Try.func3, Try.ntmps3
  go_wp2_with fail
  refine (awake16 _).mono ?_
  rintro e w1 ⟨rfl, b1⟩
  have HB1 := hide b1
  have HCF := hide (few16 w1 ⟨fa, fc, fl⟩ (HF.out.below HB1.out))
  simp only at HCF
  rw [← HNF.out] at HCF
  clear b1
  go_wp2_with fail
  refine HCF.out.mono ?_
  rintro e w2 ⟨rfl, b2⟩
  have HB2 := hide (HB1.out.trans (b2.mono HB1.out.size))
  clear b2 HB1 HCF
  cases hfew : fewR fl with
  | false =>
    go_wp2
    go_ret
    exact ⟨rfl, HB2.out⟩
  | true =>
  by_cases h40 : 40 < nm
  · have d1 : decide ((40 : Int) < (nm : Int)) = true := by simp; omega
    clear hfew
    go_wp2
    go_ret
    exact ⟨rfl, HB2.out⟩
  have d1 : decide ((40 : Int) < (nm : Int)) = false := by simp; omega
  by_cases hs40 : 40 < s.size
  · have d2 : decide ((40 : Int) < (s.size : Int)) = true := by simp; omega
    clear hfew
    go_wp2
    go_ret
    exact ⟨rfl, HB2.out⟩
  have d2 : decide ((40 : Int) < (s.size : Int)) = false := by simp; omega
  have hfo := fewR_ok hfew
  have HFN := hide hfo.1
  have hf45 : fl.length ≤ 45 := hfo.2
  have HCN := hide (pnew_any (w := w2) (cap := fc) (HF.out.below HB2.out).rd (by show fl.length ≤ _; omega) (fun y hy => by have := HFN.out y hy; omega))
  simp only at HCN
  rw [← HNF.out] at HCN
  clear hfew hfo
  go_wp2_with fail
  refine HCN.out.mono ?_
  rintro e w3 ⟨rfl, t3, b3⟩
  have HB3 := hide (HB2.out.trans (b3.mono HB2.out.size))
  have HT3 := hide t3
  have HCX := hide (rnew_tab (w := w3) (cap := fc) (HF.out.below HB3.out).rd (by show fl.length ≤ _; omega) (fun y hy => by have := HFN.out y hy; omega))
  simp only at HCX
  rw [← HNF.out] at HCX
  have h23 : w2.heap.size + 1 < w3.heap.size := t3.lt.1
  clear t3 b3 HCN
  go_wp2_with fail
  refine HCX.out.mono ?_
  rintro e w4 ⟨rfl, x4, b4⟩
  have hw2 := HB2.out.size
  have HD : Hid (∃ p b O, p = w2.heap.size + 1 ∧ DoS w w4 p b w3.heap.size (newL fl) O) := hide ⟨_, w2.heap.size, _, rfl, ⟨HT3.out.old b4, x4, fun z => by have := z.1; omega, fun z => by have := z.1; omega, fun k z => by have := z.1; omega, ⟨by omega, by omega⟩, HB3.out.trans (b4.mono HB3.out.size)⟩⟩
  obtain ⟨L0, hL0⟩ : ∃ L0, L0 = newL fl := ⟨_, rfl⟩
  rw [← hL0] at HD
  obtain ⟨q, hq⟩ : ∃ q, q = w3.heap.size := ⟨_, rfl⟩
  rw [← hq] at HD ⊢
  obtain ⟨p0, hp0⟩ : ∃ p0, p0 = w2.heap.size + 1 := ⟨_, rfl⟩
  rw [← hp0] at HD ⊢
  obtain ⟨p1, b1, O1, hp1, hdo⟩ := HD.out
  subst hp1
  have HDO := hide hdo
  clear x4 b4 HCX HT3 HB3 HD hL0 hq hp0 hdo h23
  go_wp2
  go_loopw [7, 38] (fun t v wr => ∃ (k : Nat) (p b : Nat) (L : List Rf) (O : Nat → Prop), k ≤ nm ∧ t = .pointer (some ⟨p, 0, none⟩) ∧ v = .int .i64 k ∧ Hid (DoS w wr p b q L O)) (fun _ v _ => nm - (intOf v).toNat)
  case atStart => exact ⟨0, p1, b1, L0, O1, Nat.zero_le _, rfl, rfl, HDO⟩
  case round =>
    obtain ⟨k, p, b, L, O, hk, rfl, rfl, HS⟩ := hrel
    by_cases hlt : k < nm
    · obtain ⟨d, hd⟩ : ∃ d, ml[k]? = some d := ⟨ml[k]'(by have := HNM.out; omega), List.getElem?_eq_getElem _⟩
      obtain ⟨g, o, rfl, r0, r1, r2, r3, r4⟩ := rd_dr (HM.out.below HS.out.bel).rd hd
      have hdz : d.r.n.size ≤ 9223372036854775807 := by have := HM.out.sz d (List.mem_of_getElem? hd); unfold maxLen at this; omega
      obtain ⟨W1, hW1⟩ : ∃ W1, W1 = wr.alloc (.cells #[.int .i64 d.kd, .string d.r.n, .bool d.r.t, .int .u64 d.r.i, .int .u64 d.old] 34) := ⟨_, rfl⟩
      have bD : Below wr.heap.size wr W1 := by rw [hW1]; exact (Below.refl _ _).alloc (Nat.le_refl _) _
      have HSD := hide (HS.out.old bD)
      by_cases hn40 : 40 < d.r.n.size
      · have d3 : decide ((40 : Int) < (d.r.n.size : Int)) = true := by simp; omega
        have HF1 := hide HSD.out.bel
        rw [hW1] at HF1
        clear hd bD hW1 HSD
        go_wp2
        go_ret
        exact ⟨rfl, HF1.out⟩
      have d3 : decide ((40 : Int) < (d.r.n.size : Int)) = false := by simp; omega
      have kd : Ob W1.drew wr.heap.size 34 [.int .i64 d.kd, .string d.r.n, .bool d.r.t, .int .u64 d.r.i, .int .u64 d.old] := by rw [hW1]; exact (Ob.new wr [.int .i64 d.kd, .string d.r.n, .bool d.r.t, .int .u64 d.r.i, .int .u64 d.old] 34).old ((Below.refl _ _).drew)
      have bDD : Below wr.heap.size wr W1.drew := bD.drew
      have HK1 : Hid (∀ w1, Onl (fun i => i < wr.heap.size) W1.drew w1 → Ob w1 wr.heap.size 34 [.int .i64 d.kd, .string d.r.n, .bool d.r.t, .int .u64 d.r.i, .int .u64 d.old]) := hide (fun w1 o1 => kd.onl o1 (by omega))
      have HFIN : Hid (∀ (wx : World) (p' b' : Nat) (M : List Rf), (∃ O, DoS w wx p' b' q M O) → ∃ xa xn xc, wx.cell? ⟨q, 0, none⟩ = some (.slice xa xn xc) ∧ wx.drew.cell? ⟨q, 0, none⟩ = some (.slice xa xn xc) ∧ DoTell w p' b' q M xa xn xc wx.drew) := hide (by
        rintro wx p' b' M ⟨O2, h2⟩
        obtain ⟨xa, xn, xc, c1, c2⟩ := do_tell h2 ((Below.refl _ _).drew)
        exact ⟨xa, xn, xc, c1, c1, c2⟩)
      by_cases hk0 : d.kd = 0
      · have d4 : (d.kd == 0) = true := by simpa using hk0
        have HST := hide (do_make HS.out bDD d.r hdz)
        rw [hW1] at HST HK1
        unfold DoStep at HST
        obtain ⟨E, hE⟩ : ∃ E, E = makeE L d.r := ⟨_, rfl⟩
        rw [← hE] at HST
        clear hd bD bDD kd hE hW1 hk0
        go_wp2
        go_region_held3 (fun W' => W'.cell? ⟨wr.heap.size, 1, none⟩ = some (.string d.r.n) ∧ W'.cell? ⟨wr.heap.size, 2, none⟩ = some (.bool d.r.t) ∧ W'.cell? ⟨wr.heap.size, 3, none⟩ = some (.int .u64 d.r.i)) (go_keep) (first
          | (go_at_call 10; refine HST.out.mono ?_; rintro en w1 ⟨rfl, o1, hc2⟩; have k1 := HK1.out w1 o1; have HC2 := hide hc2; have HKK := hide k1; have z1 := k1.cell 1; have z2 := k1.cell 2; have z3 := k1.cell 3; simp only [List.getElem?_cons_zero, List.getElem?_cons_succ] at z1 z2 z3; clear o1 hc2 k1)
          | (go_at_call 11; refine HC2.out.mono ?_; rintro en w2 ⟨rfl, o2, hm⟩; have k2 := HKK.out.onl o2 (by omega); have HM2 := hide hm; have y1 := k2.cell 1; have y2 := k2.cell 2; have y3 := k2.cell 3; simp only [List.getElem?_cons_zero, List.getElem?_cons_succ] at y1 y2 y3; clear o2 hm k2))
        obtain ⟨xa, xn, xc, c0, c1, hT⟩ := HFIN.out w2 p b (makeL L d.r) HM2.out
        have HT := hide hT
        have de : (E != E) = false := by simp
        obtain ⟨MM, hMM⟩ : ∃ MM, MM = (makeL L d.r) := ⟨_, rfl⟩
        rw [← hMM] at HT
        clear hT HK1 HFIN HSD hMM
        go_wp2
        go_region_held3 (fun W' => W'.cell? ⟨q, 0, none⟩ = some (.slice xa xn xc)) (go_keep) (first
          | (go_at_call 18; refine HT.out.mono ?_; rintro en wa ⟨aa, na, ca, rfl, ca0, hs2⟩; have HS2 := hide hs2; clear hs2)
          | (go_at_call 17; refine HS2.out.mono ?_; rintro en wb ⟨rfl, cb0, hl2⟩; have HL2 := hide hl2; clear hl2)
          | (go_at_call 19; refine HL2.out.mono ?_; rintro en wc ⟨rfl, cc0, hd2⟩; have HD2 := hide hd2; clear hd2))
        go_wp2
        obtain ⟨O3, hd3⟩ := HD2.out
        have HD3 := hide hd3
        clear hd3 HD2
        go_roundw
        case rel => exact ⟨k + 1, p, b, MM, O3, by omega, rfl, by simp, HD3⟩
        case measure => simp [intOf]; omega
      have d4 : (d.kd == 0) = false := by simpa using hk0
      by_cases hk1 : d.kd = 1
      · have d5 : (d.kd == 1) = true := by simpa using hk1
        have HST := hide (do_set HS.out bDD (n := d.r.n) (by unfold maxLen; omega) d.old d.r.i)
        rw [hW1] at HST HK1
        unfold DoStep at HST
        obtain ⟨E, hE⟩ : ∃ E, E = setE L d.r.n d.old := ⟨_, rfl⟩
        rw [← hE] at HST
        clear hd bD bDD kd hE hW1 hk0 hk1
        go_wp2
        go_region_held3 (fun W' => W'.cell? ⟨wr.heap.size, 1, none⟩ = some (.string d.r.n) ∧ W'.cell? ⟨wr.heap.size, 3, none⟩ = some (.int .u64 d.r.i) ∧ W'.cell? ⟨wr.heap.size, 4, none⟩ = some (.int .u64 d.old)) (go_keep) (first
          | (go_at_call 12; refine HST.out.mono ?_; rintro en w1 ⟨rfl, o1, hc2⟩; have k1 := HK1.out w1 o1; have HC2 := hide hc2; have HKK := hide k1; have z1 := k1.cell 1; have z3 := k1.cell 3; have z4 := k1.cell 4; simp only [List.getElem?_cons_zero, List.getElem?_cons_succ] at z1 z3 z4; clear o1 hc2 k1)
          | (go_at_call 13; refine HC2.out.mono ?_; rintro en w2 ⟨rfl, o2, hm⟩; have k2 := HKK.out.onl o2 (by omega); have HM2 := hide hm; have y1 := k2.cell 1; have y3 := k2.cell 3; have y4 := k2.cell 4; simp only [List.getElem?_cons_zero, List.getElem?_cons_succ] at y1 y3 y4; clear o2 hm k2))
        obtain ⟨xa, xn, xc, c0, c1, hT⟩ := HFIN.out w2 p b (setL L d.r.n d.old d.r.i) HM2.out
        have HT := hide hT
        have de : (E != E) = false := by simp
        obtain ⟨MM, hMM⟩ : ∃ MM, MM = (setL L d.r.n d.old d.r.i) := ⟨_, rfl⟩
        rw [← hMM] at HT
        clear hT HK1 HFIN HSD hMM
        go_wp2
        go_region_held3 (fun W' => W'.cell? ⟨q, 0, none⟩ = some (.slice xa xn xc)) (go_keep) (first
          | (go_at_call 18; refine HT.out.mono ?_; rintro en wa ⟨aa, na, ca, rfl, ca0, hs2⟩; have HS2 := hide hs2; clear hs2)
          | (go_at_call 17; refine HS2.out.mono ?_; rintro en wb ⟨rfl, cb0, hl2⟩; have HL2 := hide hl2; clear hl2)
          | (go_at_call 19; refine HL2.out.mono ?_; rintro en wc ⟨rfl, cc0, hd2⟩; have HD2 := hide hd2; clear hd2))
        go_wp2
        obtain ⟨O3, hd3⟩ := HD2.out
        have HD3 := hide hd3
        clear hd3 HD2
        go_roundw
        case rel => exact ⟨k + 1, p, b, MM, O3, by omega, rfl, by simp, HD3⟩
        case measure => simp [intOf]; omega
      have d5 : (d.kd == 1) = false := by simpa using hk1
      by_cases hk2 : d.kd = 2
      · have d6 : (d.kd == 2) = true := by simpa using hk2
        have HST := hide (do_drop HS.out bDD (n := d.r.n) (by unfold maxLen; omega))
        rw [hW1] at HST HK1
        unfold DoStep at HST
        obtain ⟨E, hE⟩ : ∃ E, E = dropE L d.r.n := ⟨_, rfl⟩
        rw [← hE] at HST
        clear hd bD bDD kd hE hW1 hk0 hk1 hk2
        go_wp2
        go_region_held3 (fun W' => W'.cell? ⟨wr.heap.size, 1, none⟩ = some (.string d.r.n)) (go_keep) (first
          | (go_at_call 14; refine HST.out.mono ?_; rintro en w1 ⟨rfl, o1, hc2⟩; have k1 := HK1.out w1 o1; have HC2 := hide hc2; have HKK := hide k1; have z1 := k1.cell 1; simp only [List.getElem?_cons_zero, List.getElem?_cons_succ] at z1; clear o1 hc2 k1)
          | (go_at_call 15; refine HC2.out.mono ?_; rintro en w2 ⟨rfl, o2, hm⟩; have k2 := HKK.out.onl o2 (by omega); have HM2 := hide hm; have y1 := k2.cell 1; simp only [List.getElem?_cons_zero, List.getElem?_cons_succ] at y1; clear o2 hm k2))
        obtain ⟨xa, xn, xc, c0, c1, hT⟩ := HFIN.out w2 p b (dropL L d.r.n) HM2.out
        have HT := hide hT
        have de : (E != E) = false := by simp
        obtain ⟨MM, hMM⟩ : ∃ MM, MM = (dropL L d.r.n) := ⟨_, rfl⟩
        rw [← hMM] at HT
        clear hT HK1 HFIN HSD hMM
        go_wp2
        go_region_held3 (fun W' => W'.cell? ⟨q, 0, none⟩ = some (.slice xa xn xc)) (go_keep) (first
          | (go_at_call 18; refine HT.out.mono ?_; rintro en wa ⟨aa, na, ca, rfl, ca0, hs2⟩; have HS2 := hide hs2; clear hs2)
          | (go_at_call 17; refine HS2.out.mono ?_; rintro en wb ⟨rfl, cb0, hl2⟩; have HL2 := hide hl2; clear hl2)
          | (go_at_call 19; refine HL2.out.mono ?_; rintro en wc ⟨rfl, cc0, hd2⟩; have HD2 := hide hd2; clear hd2))
        go_wp2
        obtain ⟨O3, hd3⟩ := HD2.out
        have HD3 := hide hd3
        clear hd3 HD2
        go_roundw
        case rel => exact ⟨k + 1, p, b, MM, O3, by omega, rfl, by simp, HD3⟩
        case measure => simp [intOf]; omega
      have d6 : (d.kd == 2) = false := by simpa using hk2
      have HCP := hide (do_copy HS.out bD)
      rw [hW1] at HCP
      obtain ⟨E, hE⟩ : ∃ E : Int, E = 0 := ⟨_, rfl⟩
      clear hd bD bDD kd hW1 hk0 hk1 hk2 hE
      go_wp2_with fail
      refine HCP.out.mono ?_
      rintro e w2 ⟨p2, b2, rfl, _, hm2⟩
      have HM2 : Hid (∃ O, DoS w w2 p2 b2 q L O) := hide ⟨_, hm2⟩
      clear hm2 HCP
      obtain ⟨xa, xn, xc, c0, c1, hT⟩ := HFIN.out w2 p2 b2 L HM2.out
      have HT := hide hT
      have de : (E != E) = false := by simp
      obtain ⟨MM, hMM⟩ : ∃ MM, MM = L := ⟨_, rfl⟩
      rw [← hMM] at HT
      clear hT HK1 HFIN HSD hMM
      go_wp2
      go_region_held3 (fun W' => W'.cell? ⟨q, 0, none⟩ = some (.slice xa xn xc)) (go_keep) (first
        | (go_at_call 18; refine HT.out.mono ?_; rintro en wa ⟨aa, na, ca, rfl, ca0, hs2⟩; have HS2 := hide hs2; clear hs2)
        | (go_at_call 17; refine HS2.out.mono ?_; rintro en wb ⟨rfl, cb0, hl2⟩; have HL2 := hide hl2; clear hl2)
        | (go_at_call 19; refine HL2.out.mono ?_; rintro en wc ⟨rfl, cc0, hd2⟩; have HD2 := hide hd2; clear hd2))
      go_wp2
      obtain ⟨O3, hd3⟩ := HD2.out
      have HD3 := hide hd3
      clear hd3 HD2
      go_roundw
      case rel => exact ⟨k + 1, p2, b2, MM, O3, by omega, rfl, by simp, HD3⟩
      case measure => simp [intOf]; omega
    · obtain rfl : k = nm := by omega
      obtain ⟨x, hx⟩ : ∃ x, x = (getR L s).getD zeroR := ⟨_, rfl⟩
      obtain ⟨is, his⟩ : ∃ is, is = (getR L s).isSome := ⟨_, rfl⟩
      have HC1 : Hid (Calls Try.prog 20 #[.pointer (some ⟨p, 0, none⟩), .string s] wr fun e w' => e = .returned (.tuple #[.agg #[.string x.n, .bool x.t, .int .u64 x.i], .bool is]) ∧ Below wr.heap.size wr w') := hide (by
        have := pget_any HS.out.tp (n := s) (by unfold maxLen; omega)
        unfold PgG aggR at this
        rw [← hx, ← his] at this
        exact this)
      have HCX : Hid (∀ W, Below wr.heap.size wr W → Calls Try.prog 21 #[.pointer (some ⟨q, 0, none⟩), .string s] W fun e w' => e = .returned (.tuple #[.agg #[.string x.n, .bool x.t, .int .u64 x.i], .bool is]) ∧ Below W.heap.size W w') := hide (fun W bW => by
        refine (rtget_any (HS.out.tb.old bW) s).mono ?_
        rintro e w' ⟨⟨y, _, hy, rfl⟩ | ⟨hy, rfl⟩, b⟩
        · rw [hy] at hx his
          simp only [Option.getD_some, Option.isSome_some] at hx his
          rw [hx, his]
          exact ⟨rfl, b⟩
        · rw [hy] at hx his
          simp only [Option.getD_none, Option.isSome_none] at hx his
          rw [hx, his]
          exact ⟨rfl, b⟩)
      have HBW := hide HS.out.bel
      clear hx his HS
      go_wp2_with fail
      refine HC1.out.mono ?_
      rintro e w5 ⟨rfl, b5⟩
      have b6 : Below wr.heap.size wr (w5.alloc (.cells #[.string x.n, .bool x.t, .int .u64 x.i] 32)) := b5.alloc b5.size _
      have k6 := Ob.new w5 [.string x.n, .bool x.t, .int .u64 x.i] 32
      have HK6 := hide k6
      have HB6 := hide (HBW.out.trans (b6.mono HBW.out.size))
      have HC2 := hide (HCX.out _ b6)
      clear b5 b6 k6 HC1 HCX HBW
      go_wp2_with fail
      refine HC2.out.mono ?_
      rintro e w7 ⟨rfl, b7⟩
      have b8 := b7.alloc b7.size (.cells #[.string x.n, .bool x.t, .int .u64 x.i] 32)
      have k8 := HK6.out.old b8
      have HB8 := hide (HB6.out.trans (b8.mono HB6.out.size))
      have u0 := k8.cell 0
      have u1 := k8.cell 1
      have u2 := k8.cell 2
      simp only [List.getElem?_cons_zero, List.getElem?_cons_succ] at u0 u1 u2
      have hcmp := eqlRf x x
      simp only [decide_true] at hcmp
      have hgt : Try.prog.eqGuardType Try.prog.depth 32 = false := by kernel_rfl
      have dis : (is == is) = true := by simp
      have HN1 := fun W => pname_any s W hsz
      have HN2 := fun W => rname_any s W hsz
      clear b7 b8 k8 HC2 HK6 HB6
      generalize nameM s = nn at HN1 HN2
      have dnn : (nn == nn) = true := by simp
      go_wp2_with fail
      refine (HN1 _).mono ?_
      rintro e w9 ⟨rfl, rfl⟩
      go_wp2_with fail
      refine (HN2 _).mono ?_
      rintro e w9 ⟨rfl, rfl⟩
      go_wp2
      go_ret
      exact ⟨by simp, HB8.out⟩
end Go.Proofs.Yticofadpbpcejaa
