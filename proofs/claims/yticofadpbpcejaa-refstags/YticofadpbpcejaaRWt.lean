/- RefsTags: a tag has the commit with which it was made, as long as it is there. The walk. Over the translation. -/
import Derived.Test.YticofadpbpcejaaRAw
import Derived.Test.YticofadpbpcejaaRSm
namespace Go.Proofs.Yticofadpbpcejaa
open Go.RowKit Apo
theorem keep_make {L : List Rf} (h : Rok L) {y : Rf} (hy : getR L y.n = some y) (x : Rf) : getR (makeL L x) y.n = some y := by
  obtain ⟨h1, _⟩ := (getR_mem h).1 hy
  refine (getR_mem (h.make x)).2 ⟨?_, rfl⟩
  by_cases h0 : makeE L x = 0
  · exact (make_mem h0).2 (.inr h1)
  · unfold makeL
    rw [if_neg h0]
    exact h1
theorem made_has {L : List Rf} (h : Rok L) {y : Rf} (h0 : makeE L y = 0) : getR (makeL L y) y.n = some y := (getR_mem (h.make y)).2 ⟨(make_mem h0).2 (.inl rfl), rfl⟩
/-- a tag isn't set -/
theorem tag_stays {L : List Rf} {y : Rf} (hy : getR L y.n = some y) (ht : y.t = true) {n : ByteArray} {old : Int} (h0 : setE L n old = 0) : n ≠ y.n := by
  rintro rfl
  obtain ⟨r, h1, h2, _⟩ := setE_zero.1 h0
  rw [hy] at h1
  injection h1 with h1
  rw [← h1, ht] at h2
  cases h2
theorem keep_set {L : List Rf} (h : Rok L) {y : Rf} (hy : getR L y.n = some y) (ht : y.t = true) (n : ByteArray) (old id : Int) : getR (setL L n old id) y.n = some y := by
  by_cases h0 : setE L n old = 0
  · obtain ⟨h1, _⟩ := (getR_mem h).1 hy
    exact (getR_mem (h.set n old id)).2 ⟨(set_mem h0).2 ⟨y, h1, by rw [if_neg (fun e => tag_stays hy ht h0 e.symm)]⟩, rfl⟩
  · unfold setL
    rw [if_neg h0]
    exact hy
theorem drop_gone {L : List Rf} (n : ByteArray) : getR (dropL L n) n = none := getR_none.2 (fun _ hr => (drop_mem.1 hr).2)
set_option maxRecDepth 100000 in
set_option maxHeartbeats 8000000 in
theorem tags16 (w : World) (f : RfA) (hf : OkRfA w f) (m : DrA) (hm : OkDrA w m) (x : Rf) (hx : x.n.size ≤ maxLen) :
    Calls Try.prog 4 #[.slice f.a f.l.length f.c, .slice m.a m.l.length m.c, .agg #[.string x.n, .bool x.t, .int .u64 x.i]] w fun e w' => e = .returned (.bool true) ∧ Below w.heap.size w w' := by
  obtain ⟨fa, fc, fl⟩ := f
  obtain ⟨ma, mc, ml⟩ := m
  have HF := hide hf
  have HM := hide hm
  have hmb : ml.length ≤ 9223372036854775807 := by have := hm.len; have := hm.big; simp only at *; unfold maxLen at *; omega
  have hxz : x.n.size ≤ 9223372036854775807 := by unfold maxLen at hx; omega
  simp only at hmb ⊢
  obtain ⟨nf, hnf⟩ : ∃ n, n = fl.length := ⟨_, rfl⟩
  obtain ⟨nm, hnm⟩ : ∃ n, n = ml.length := ⟨_, rfl⟩
  have HNF := hide hnf
  have HNM := hide hnm
  rw [← hnf, ← hnm]
  rw [← hnm] at hmb
  clear hf hm hx hnf hnm
  have bA : Below w.heap.size w (w.alloc (.cells #[.string x.n, .bool x.t, .int .u64 x.i] 32)) := (Below.refl _ w).alloc (Nat.le_refl _) _
  have HK := hide (Ob.new w [.string x.n, .bool x.t, .int .u64 x.i] 32)
  have HBA := hide bA
  clear bA
  go_enter Try.func4, Try.ntmps4
  go_wp2_with fail
  refine (awake16 _).mono ?_
  rintro e w1 ⟨rfl, b1⟩
  have HB1 := hide (HBA.out.trans (b1.mono HBA.out.size))
  have HK1 := hide (HK.out.old b1)
  have HCF := hide (few16 w1 ⟨fa, fc, fl⟩ (HF.out.below HB1.out))
  simp only at HCF
  rw [← HNF.out] at HCF
  clear b1 HBA HK
  go_wp2_with fail
  refine HCF.out.mono ?_
  rintro e w2 ⟨rfl, b2⟩
  have HB2 := hide (HB1.out.trans (b2.mono HB1.out.size))
  have HK2 := hide (HK1.out.old b2)
  clear b2 HB1 HK1 HCF
  cases hfew : fewR fl with
  | false =>
    go_wp2
    go_ret
    exact ⟨rfl, HB2.out⟩
  | true =>
  by_cases h40 : 40 < nm
  · have d1 : decide ((40 : Int) < (nm : Int)) = true := by simp; omega
    clear hfew
    go_wp2
    go_ret
    exact ⟨rfl, HB2.out⟩
  have d1 : decide ((40 : Int) < (nm : Int)) = false := by simp; omega
  have hfo := fewR_ok hfew
  have HFN := hide hfo.1
  have hf45 : fl.length ≤ 45 := hfo.2
  have HCN := hide (pnew_any (w := w2) (cap := fc) (HF.out.below HB2.out).rd (by show fl.length ≤ _; omega) (fun y hy => by have := HFN.out y hy; omega))
  simp only at HCN
  rw [← HNF.out] at HCN
  clear hfew hfo
  go_wp2_with fail
  refine HCN.out.mono ?_
  rintro e w3 ⟨rfl, t3, b3⟩
  obtain ⟨p, hp⟩ : ∃ p, p = w2.heap.size + 1 := ⟨_, rfl⟩
  obtain ⟨b, hb⟩ : ∃ b, b = w2.heap.size := ⟨_, rfl⟩
  rw [← hp]
  rw [← hp, ← hb] at t3
  have hbw : w.heap.size < b := by rw [hb]; exact HK2.out.lt
  have hpw : w.heap.size < p := by have := HK2.out.lt; omega
  have HT3 := hide t3
  have HB3 := hide (HB2.out.trans (b3.mono HB2.out.size))
  have k3 := HK2.out.old b3
  have x0 := k3.cell 0
  have x1 := k3.cell 1
  have x2 := k3.cell 2
  have f1 := k3.frozen 1
  simp only [List.getElem?_cons_zero, List.getElem?_cons_succ] at x0 x1 x2
  obtain ⟨W4, hW4⟩ : ∃ W4, W4 = w3.setCell ⟨w.heap.size, 1, none⟩ (.bool true) := ⟨_, rfl⟩
  have o4 : Onl (fun i => i = w.heap.size) w3 W4 := by rw [hW4]; exact (Onl.refl (fun i => i = w.heap.size) w3).set (p := w.heap.size) (.inl rfl) _
  have k4 : Ob W4 w.heap.size 32 [.string x.n, .bool true, .int .u64 x.i] := by rw [hW4]; exact k3.set 1 _
  obtain ⟨y, hy⟩ : ∃ y : Rf, y = ⟨x.n, true, x.i⟩ := ⟨_, rfl⟩
  have HCM : Hid (Calls Try.prog 10 #[.pointer (some ⟨p, 0, none⟩), .agg #[.string x.n, .bool true, .int .u64 x.i]] W4 (PmQ W4 p b (newL fl) y)) := hide (by rw [hy]; exact pmake_any (HT3.out.onl o4 (by omega) (by omega)) ⟨x.n, true, x.i⟩ hxz)
  have HK4 := hide k4
  have HB4 := hide (Below.onl HB3.out o4 (fun i q => by omega) (Nat.le_refl _))
  have y0 := k4.cell 0
  have y1 := k4.cell 1
  have y2 := k4.cell 2
  simp only [List.getElem?_cons_zero, List.getElem?_cons_succ] at y0 y1 y2
  have HY := hide hy
  rw [hW4] at HCM HK4 HB4 y0 y1 y2
  clear t3 b3 k3 k4 o4 hW4 hy HCN HB3 HT3 hp hb
  go_wp2_with fail
  refine HCM.out.mono ?_
  rintro e w5 ⟨rfl, t5, o5⟩
  have HT5 := hide t5
  have HB5 := hide (Below.onl HB4.out o5 (fun i q => by omega) (Nat.le_refl _))
  have HK5 := hide (HK4.out.onl o5 (by omega))
  clear t5 o5 HCM HK4 HB4 y0 y1 y2 x0 x1 x2 f1
  by_cases hE : makeE (newL fl) y = 0
  · rw [hE]
    have HT6 := hide (made_has (Rok.new fl) hE)
    have hns := nameM_size (makeE_zero.1 hE).1
    have hyn : y.n = x.n := by rw [HY.out]
    rw [hyn] at hns HT6
    obtain ⟨L0, hL0⟩ : ∃ L0, L0 = makeL (newL fl) y := ⟨_, rfl⟩
    rw [← hL0] at HT6 HT5
    clear hE hL0 hyn
    go_wp2
    go_loopw [31] (fun v wr => ∃ (k : Nat) (L : List Rf), k ≤ nm ∧ v = .int .i64 k ∧ Hid (Tp wr p b L) ∧ Hid (getR L x.n = some y) ∧ Hid (Ob wr w.heap.size 32 [.string x.n, .bool true, .int .u64 x.i]) ∧ Hid (Below w.heap.size w wr)) (fun v _ => nm - (intOf v).toNat)
    case atStart => exact ⟨0, L0, Nat.zero_le _, rfl, HT5, HT6, HK5, HB5⟩
    case round =>
      obtain ⟨k, L, hk, rfl, HT, HG, HKK, HB⟩ := hrel
      by_cases hlt : k < nm
      · obtain ⟨d, hd⟩ : ∃ d, ml[k]? = some d := ⟨ml[k]'(by have := HNM.out; omega), List.getElem?_eq_getElem _⟩
        obtain ⟨g, o, rfl, r0, r1, r2, r3, r4⟩ := rd_dr (HM.out.below HB.out).rd hd
        have hdz : d.r.n.size ≤ 9223372036854775807 := by have := HM.out.sz d (List.mem_of_getElem? hd); unfold maxLen at this; omega
        have bD : Below wr.heap.size wr (wr.alloc (.cells #[.int .i64 d.kd, .string d.r.n, .bool d.r.t, .int .u64 d.r.i, .int .u64 d.old] 34)) := (Below.refl _ _).alloc (Nat.le_refl _) _
        have HBD := hide (HB.out.trans (bD.mono HB.out.size))
        have HTD := hide (HT.out.old bD)
        have HKD := hide (HKK.out.old bD)
        have kd := Ob.new wr [.int .i64 d.kd, .string d.r.n, .bool d.r.t, .int .u64 d.r.i, .int .u64 d.old] 34
        have HDD := hide kd
        clear hd bD kd
        by_cases hn40 : 40 < d.r.n.size
        · have d2 : decide ((40 : Int) < (d.r.n.size : Int)) = true := by simp; omega
          go_wp2
          go_ret
          exact ⟨rfl, HBD.out⟩
        have d2 : decide ((40 : Int) < (d.r.n.size : Int)) = false := by simp; omega
        have HGET : Hid (∀ (W : World) (M : List Rf), Tp W p b M → getR M x.n = some y → Calls Try.prog 20 #[.pointer (some ⟨p, 0, none⟩), .string x.n] W fun e w' => e = .returned (.tuple #[.agg #[.string x.n, .bool true, .int .u64 x.i], .bool true]) ∧ Below W.heap.size W w') := hide (fun W M hT hg => by
          have := pget_any hT (n := x.n) (by unfold maxLen; omega)
          unfold PgG aggR at this
          rw [hg] at this
          simp only [Option.getD_some, Option.isSome_some] at this
          rw [HY.out] at this
          exact this)
        have hcmp := neqRf ⟨x.n, true, x.i⟩ ⟨x.n, true, x.i⟩
        have hgt : Try.prog.eqGuardType Try.prog.depth 32 = false := by kernel_rfl
        simp only [decide_true, Bool.not_true] at hcmp
        have HL : ∀ {M : List Rf} {W : World}, Tp W p b M → p < W.heap.size ∧ b < W.heap.size := fun h => h.lt
        by_cases hk0 : d.kd = 0
        · have d3 : (d.kd == 0) = true := by simpa using hk0
          have HC1 := hide (pmake_any HTD.out d.r hdz)
          clear hk0
          go_wp2_with fail
          refine HC1.out.mono ?_
          rintro e w6 ⟨rfl, t6, o6⟩
          have HT7 := hide t6
          have HG7 := hide (by have := keep_make HT.out.ok.ok (y := y) (by rw [show y.n = x.n by rw [HY.out]]; exact HG.out) d.r; rw [show y.n = x.n by rw [HY.out]] at this; exact this)
          have HK7 := hide (HKD.out.onl o6 (by omega))
          have HB7 := hide (Below.onl HBD.out o6 (fun i q => by omega) (Nat.le_refl _))
          have HC7 := hide (HGET.out _ _ HT7.out HG7.out)
          have z0 := HK7.out.cell 0
          simp only [List.getElem?_cons_zero] at z0
          clear t6 o6 HC1 HTD HKD HBD HDD HT HG HKK HB
          go_wp2_with fail
          refine HC7.out.mono ?_
          rintro e w8 ⟨rfl, b8⟩
          have bR : Below w8.heap.size w8 (w8.alloc (.cells #[.string x.n, .bool true, .int .u64 x.i] 32)) := (Below.refl _ _).alloc (Nat.le_refl _) _
          have HT8 := hide ((HT7.out.old b8).old bR)
          have k8 := (HK7.out.old b8).old bR
          have HK8 := hide k8
          have HB8 := hide ((HB7.out.trans (b8.mono HB7.out.size)).trans (bR.mono (Nat.le_trans HB7.out.size b8.size)))
          have u0 := k8.cell 0
          have u1 := k8.cell 1
          have u2 := k8.cell 2
          simp only [List.getElem?_cons_zero, List.getElem?_cons_succ] at u0 u1 u2
          clear b8 bR k8 HC7 HT7 HK7 HB7
          go_wp2
          go_roundw
          case rel => exact ⟨k + 1, _, by omega, by simp, HT8, HG7, HK8, HB8⟩
          case measure => simp [intOf]; omega
        · have d3 : (d.kd == 0) = false := by simpa using hk0
          have hbl := (HL HTD.out).2
          have hwr : b < wr.heap.size := (HL HT.out).2
          have HC1 := hide (pset_any HTD.out (n := d.r.n) (by unfold maxLen; omega) d.old d.r.i)
          have HYN : Hid (y.n = x.n ∧ y.t = true) := hide (by rw [HY.out]; exact ⟨rfl, rfl⟩)
          have HG0 : Hid (getR L y.n = some y) := hide (by rw [HYN.out.1]; exact HG.out)
          clear hk0
          go_wp2_with fail
          refine HC1.out.mono ?_
          rintro e w6 ⟨rfl, t6, o6⟩
          have HT7 := hide t6
          have HG7 := hide (by have := keep_set HT.out.ok.ok HG0.out HYN.out.2 d.r.n d.old d.r.i; rw [HYN.out.1] at this; exact this)
          have HK7 := hide (HKD.out.onl o6 (by omega))
          have HD7 := hide (HDD.out.onl o6 (by omega))
          have HB7 := hide (Below.onl HBD.out o6 (fun i q => by omega) (Nat.le_refl _))
          have HC7 := hide (HGET.out _ _ HT7.out HG7.out)
          have z0 := HK7.out.cell 0
          simp only [List.getElem?_cons_zero] at z0
          have q1 := HD7.out.cell 1
          simp only [List.getElem?_cons_zero, List.getElem?_cons_succ] at q1
          clear t6 o6 HC1 HTD HKD HBD HDD HT HG HKK HB HD7
          by_cases hE : setE L d.r.n d.old = 0
          · have hne := tag_stays HG0.out HYN.out.2 hE
            rw [HYN.out.1] at hne
            have dn : (d.r.n.toList == x.n.toList) = false := by
              rw [beq_eq_false_iff_ne]
              exact fun e => hne (bytes_of_list e)
            rw [hE]
            clear hE hne
            go_wp2_with fail
            refine HC7.out.mono ?_
            rintro e w8 ⟨rfl, b8⟩
            have bR : Below w8.heap.size w8 (w8.alloc (.cells #[.string x.n, .bool true, .int .u64 x.i] 32)) := (Below.refl _ _).alloc (Nat.le_refl _) _
            have HT8 := hide ((HT7.out.old b8).old bR)
            have k8 := (HK7.out.old b8).old bR
            have HK8 := hide k8
            have HB8 := hide ((HB7.out.trans (b8.mono HB7.out.size)).trans (bR.mono (Nat.le_trans HB7.out.size b8.size)))
            have u0 := k8.cell 0
            have u1 := k8.cell 1
            have u2 := k8.cell 2
            simp only [List.getElem?_cons_zero, List.getElem?_cons_succ] at u0 u1 u2
            clear b8 bR k8 HC7 HT7 HK7 HB7
            go_wp2
            go_roundw
            case rel => exact ⟨k + 1, _, by omega, by simp, HT8, HG7, HK8, HB8⟩
            case measure => simp [intOf]; omega
          · have hd : (setE L d.r.n d.old == 0) = false := by rw [beq_eq_false_iff_ne]; exact hE
            generalize setE L d.r.n d.old = E at hd
            clear hE
            go_wp2_with fail
            refine HC7.out.mono ?_
            rintro e w8 ⟨rfl, b8⟩
            have bR : Below w8.heap.size w8 (w8.alloc (.cells #[.string x.n, .bool true, .int .u64 x.i] 32)) := (Below.refl _ _).alloc (Nat.le_refl _) _
            have HT8 := hide ((HT7.out.old b8).old bR)
            have k8 := (HK7.out.old b8).old bR
            have HK8 := hide k8
            have HB8 := hide ((HB7.out.trans (b8.mono HB7.out.size)).trans (bR.mono (Nat.le_trans HB7.out.size b8.size)))
            have u0 := k8.cell 0
            have u1 := k8.cell 1
            have u2 := k8.cell 2
            simp only [List.getElem?_cons_zero, List.getElem?_cons_succ] at u0 u1 u2
            clear b8 bR k8 HC7 HT7 HK7 HB7
            go_wp2
            go_roundw
            case rel => exact ⟨k + 1, _, by omega, by simp, HT8, HG7, HK8, HB8⟩
            case measure => simp [intOf]; omega
      · have hdr : Calls Try.prog 14 #[.pointer (some ⟨p, 0, none⟩), .string x.n] wr (PdQ wr p b L x.n) := pdrop_any HT.out (by unfold maxLen; omega)
        have HDR := hide hdr
        have z0 := HKK.out.cell 0
        simp only [List.getElem?_cons_zero] at z0
        have hd0 : dropE L x.n = 0 := by unfold dropE; rw [HG.out]
        have hd1 : dropE (dropL L x.n) x.n = 111 := by unfold dropE; rw [drop_gone]
        clear hdr
        go_wp2_with fail
        refine HDR.out.mono ?_
        rintro e w6 ⟨rfl, t6, o6⟩
        rw [hd0]
        have HDR2 := hide (pdrop_any t6 (n := x.n) (by unfold maxLen; omega))
        have k6 := HKK.out.onl o6 (by omega)
        have u0 := k6.cell 0
        simp only [List.getElem?_cons_zero] at u0
        have HB6 := hide (Below.onl HB.out o6 (fun i q => by omega) (Nat.le_refl _))
        clear t6 o6 k6 HDR
        go_wp2_with fail
        refine HDR2.out.mono ?_
        rintro e w7 ⟨rfl, t7, o7⟩
        rw [hd1]
        have HB7 := hide (Below.onl HB6.out o7 (fun i q => by omega) (Nat.le_refl _))
        clear t7 o7 HDR2
        go_wp2
        go_ret
        exact ⟨rfl, HB7.out⟩
  · have hd : (makeE (newL fl) y == 0) = false := by rw [beq_eq_false_iff_ne]; exact hE
    have hd2 : (makeE (newL fl) y != 0) = true := by simpa using hE
    generalize makeE (newL fl) y = E at *
    clear hE
    go_wp2
    go_ret
    exact ⟨rfl, HB5.out⟩
end Go.Proofs.Yticofadpbpcejaa
