/- Law 15: Best. Over the translation. -/
import Derived.Test.YtmkafoidfgaokaaQB9
import Derived.Test.YtmkafoidfgaokaaQC1
import Derived.Test.YtmkafoidfgaokaaQVGl
namespace Go.Proofs.Ytmkafoidfgaokaa
open Go.RowKit Apo
set_option maxRecDepth 100000 in
set_option maxHeartbeats 8000000 in
theorem best15 (w : World) (f : CsA) (h : OkCs w f) (a b0 : Int) (ha : 0 ≤ a ∧ a ≤ 18446744073709551615) (hb : 0 ≤ b0 ∧ b0 ≤ 18446744073709551615) : Calls Try.prog 5 #[.slice f.a f.l.length f.c, .int .u64 a, .int .u64 b0] w fun e w' => e = .returned (.bool true) ∧ Below w.heap.size w w' := by
  have HAW := hide (awake15 w)
  have HOK := hide h
  obtain ⟨fa, fc, fl⟩ := f
  obtain ⟨nf, hnf⟩ : ∃ nf, nf = fl.length := ⟨_, rfl⟩
  have HNF := hide hnf
  have HFEW : Hid (∀ w1, Below w.heap.size w w1 → Calls Try.prog 10 #[.slice fa nf fc] w1 fun e w' => e = .returned (.bool (fewM (fl.map CmA.c))) ∧ Below w1.heap.size w1 w') := hide (fun w1 b1 => by rw [hnf]; exact few15 w1 ⟨fa, fc, fl⟩ (HOK.out.below b1))
  have HMADE : Hid (∀ w1, Below w.heap.size w w1 → fl.length ≤ 25 → Calls Try.prog 11 #[.slice fa nf fc] w1 (MdP w1 fl)) := hide (fun w1 b1 hl => by rw [hnf]; exact made15 w1 ⟨fa, fc, fl⟩ (HOK.out.below b1) hl)
  simp only [← hnf]
  clear h hnf
  go_enter Try.func5, Try.ntmps5
  go_wp2_with fail
  refine HAW.out.mono ?_
  rintro e w1 ⟨rfl, b1⟩
  have HB1 := hide b1
  have HF1 := hide (HFEW.out w1 b1)
  clear b1 HAW HFEW
  go_wp2_with fail
  refine HF1.out.mono ?_
  rintro e w2 ⟨rfl, b2⟩
  have HB2 := hide (HB1.out.trans (b2.mono HB1.out.size))
  clear b2 HF1 HB1
  cases hfew : fewM (fl.map CmA.c) with
  | false =>
    clear hfew
    go_wp2
    go_ret
    exact ⟨rfl, HB2.out⟩
  | true =>
  have hl25 : fl.length ≤ 25 := by
    unfold fewM at hfew
    simp only [List.length_map, Bool.and_eq_true, decide_eq_true_eq] at hfew
    exact hfew.2
  have HMD := hide (HMADE.out w2 HB2.out hl25)
  clear HMADE hfew
  go_wp2_with fail
  refine HMD.out.mono ?_
  rintro e w3 ⟨p, b, px, l, rfl, hl, hll, hm⟩
  have HM := hide hm
  have HB3 := hide (HB2.out.trans (hm.bw.mono HB2.out.size))
  have HLL : Hid (l.length ≤ 25) := hide (by omega)
  obtain ⟨X, hgX⟩ := hm.g
  have HG : Hid (∀ W, Below w3.heap.size w3 W → Gp W p b X l) := hide (fun W hW => hgX.old hW)
  have HXW : Hid (∀ x ∈ X, CmR w3 x.c x.a x.cap ∧ x.c.ps.length ≤ 2) := hide (fun x hx => ⟨hgX.cs.cm x hx, (hgX.cs.sm x hx).2⟩)
  have HOKG := hide hm.ok
  have HPOS := hide hm.pos
  have hlen := hgX.len
  have HXL : Hid (X.length = l.length) := hide hlen
  clear hm hgX HMD HB2 hl25 hll hl hlen
  obtain ⟨B, hBe⟩ : ∃ B, B = baseG l a b0 := ⟨_, rfl⟩
  have HBI := hide (base_is HOKG.out a b0)
  rw [← hBe] at HBI
  have HC1 : Hid (∀ W, Below w3.heap.size w3 W → Calls Try.prog 18 #[.pointer (some ⟨p, 0, none⟩), .int .u64 a, .int .u64 b0] W (BsP W B)) := hide (fun W hW => by rw [hBe]; exact basep_any (HG.out W hW) HOKG.out HPOS.out ha hb)
  have HC2 : Hid (∀ W, Below w3.heap.size w3 W → Calls Try.prog 18 #[.pointer (some ⟨p, 0, none⟩), .int .u64 b0, .int .u64 a] W (BsP W B)) := hide (fun W hW => by rw [hBe, base_sym HOKG.out a b0]; exact basep_any (HG.out W hW) HOKG.out HPOS.out hb ha)
  have hB0 : B.2 = false → B.1 = 0 := fun h => by
    rw [hBe, base_pos HOKG.out HPOS.out] at h ⊢
    simpa using h
  obtain ⟨bi, bh⟩ := B
  simp only at HBI hB0
  have HBZ := hide hB0
  unfold BsP at HC1 HC2
  simp only at HC1 HC2
  clear hB0 HM hBe HXL HXW
  go_wp2_with fail
  refine (HC1.out w3 (Below.refl _ _)).mono ?_
  rintro e w6 ⟨rfl, b6⟩
  have HB6 := hide b6
  clear b6 HC1
  go_wp2_with fail
  refine (HC2.out w6 HB6.out).mono ?_
  rintro e w7 ⟨rfl, b7⟩
  have HB7 := hide (HB6.out.trans (b7.mono HB6.out.size))
  clear b7 HC2 HB6
  have hdd : (bi != bi) = false := by simp
  have hdb : (bh != bh) = false := by simp
  cases bh with
  | false =>
    obtain rfl : bi = 0 := HBZ.out rfl
    have hg0 : getG l 0 = none := (getG_no (fun x hx => HPOS.out x hx)).1
    have HGT := hide (getl_no (HG.out w7 HB7.out) (z := 0) (by omega) (by omega) hg0)
    clear hg0
    go_wp2_with fail
    refine HGT.out.mono ?_
    rintro e w8 ⟨ya, yc, rfl, _, b8⟩
    obtain ⟨w9, hw9⟩ : ∃ w9, w9 = w8.alloc (.cells #[.int .u64 0, .slice ya 0 yc, .int .u64 0, .int .u64 0, .string ⟨#[]⟩] 32) := ⟨_, rfl⟩
    have bA : Below w8.heap.size w8 w9 := by rw [hw9]; exact (Below.refl _ _).alloc (Nat.le_refl _) _
    have HB9 := hide (HB7.out.trans ((b8.trans (bA.mono b8.size)).mono HB7.out.size))
    have HW9 := hide hw9
    clear b8 bA HGT HB7 hw9
    have HID := hide (lids_any (HG.out w9 HB9.out).gv)
    rw [HW9.out] at HID
    go_wp2_with fail
    refine HID.out.mono ?_
    rintro e w4 ⟨sa, sn, sc, rfl, rfl, r4, b4⟩
    rw [← HW9.out] at b4
    have HR : Hid (∀ W, Below w4.heap.size w4 W → Rd .u64 W sa (lids l)) := hide (fun W hW => (Rd.own r4.1).1.below hW)
    have HB4 := hide b4
    have hnl : (lids l).length = l.length := by unfold lids; simp
    obtain ⟨n, hn⟩ : ∃ n, n = (lids l).length := ⟨_, rfl⟩
    have HN := hide hn
    have hnb : n ≤ 25 := by have := HLL.out; omega
    rw [← hn]
    clear r4 b4 HID hn hnl
    go_wp2
    go_loopw [81] (fun v wr => ∃ k : Nat, k ≤ n ∧ v = .int .i64 k ∧ Hid (Below w4.heap.size w4 wr)) (fun v _ => n - (intOf v).toNat)
    case atStart => exact ⟨0, Nat.zero_le _, rfl, hide (Below.refl _ _)⟩
    case round =>
      obtain ⟨k, hk, rfl, HB⟩ := hrel
      by_cases hlt : k < n
      · have hkl : k < (lids l).length := by have := HN.out; omega
        obtain ⟨g, off, z, hsa, hcz, hz, _⟩ := (HR.out wr HB.out).at hkl
        rw [hsa]
        have hBW := HB9.out.trans ((HB4.out.trans (HB.out.mono HB4.out.size)).mono HB9.out.size)
        have hG := HG.out wr hBW
        obtain ⟨d, hdl, hdz, hgz⟩ := getG_ids hG.rise hz.out
        have HGT := hide (getl_is hG hgz)
        have HZB := hide (hG.idb hgz)
        have HGZ := hide hgz
        clear hz hG hdl hdz hgz hsa hBW
        go_wp2_with fail
        refine HGT.out.mono ?_
        rintro e w5 ⟨da, nd, dc, rfl, hnd, _, b5⟩
        clear hnd
        obtain ⟨W5, hW5⟩ : ∃ W5, W5 = w5.alloc (.cells #[.int .u64 d.id, .slice da nd dc, .int .u64 d.gen, .int .u64 d.root, .string d.tx] 32) := ⟨_, rfl⟩
        have bA : Below w5.heap.size w5 W5 := by rw [hW5]; exact (Below.refl _ _).alloc (Nat.le_refl _) _
        have HBA := hide (HB.out.trans ((b5.trans (bA.mono b5.size)).mono HB.out.size))
        have kD : Ob W5 w5.heap.size 32 [.int .u64 d.id, .slice da nd dc, .int .u64 d.gen, .int .u64 d.root, .string d.tx] := by rw [hW5]; exact Ob.new w5 [.int .u64 d.id, .slice da nd dc, .int .u64 d.gen, .int .u64 d.root, .string d.tx] 32
        have HKD := hide kD
        have h39 := HB9.out.trans ((HB4.out.trans (HBA.out.mono HB4.out.size)).mono HB9.out.size)
        have HIA := hide (isp_any (HG.out W5 h39).gv HOKG.out (old := z) (late := a) HZB.out ha)
        have HW5 := hide hW5
        clear b5 bA kD HGT HB hW5 h39
        cases hia : isG l z a with
        | false =>
          rw [hia] at HIA
          rw [HW5.out] at HIA
          go_wp2_with fail
          refine HIA.out.mono ?_
          rintro e w8 ⟨rfl, b8⟩
          rw [← HW5.out] at b8
          have HB8 := hide (HBA.out.trans (b8.mono HBA.out.size))
          clear b8 HIA hia
          go_wp2
          go_roundw
          case rel => exact ⟨k + 1, by omega, by simp, HB8⟩
          case measure => simp [intOf]; omega
        | true =>
          rw [hia] at HIA
          rw [HW5.out] at HIA
          have HAA := hide ((is_anc HOKG.out z a).1 hia)
          go_wp2_with fail
          refine HIA.out.mono ?_
          rintro e w8 ⟨rfl, b8⟩
          rw [← HW5.out] at b8
          have HB8 := hide (HBA.out.trans (b8.mono HBA.out.size))
          have HKD8 := hide (HKD.out.old b8)
          have h39 := HB9.out.trans ((HB4.out.trans (HB8.out.mono HB4.out.size)).mono HB9.out.size)
          have HIB := hide (isp_any (HG.out w8 h39).gv HOKG.out (old := z) (late := b0) HZB.out hb)
          clear b8 HIA hia HBA HKD h39
          cases hib : isG l z b0 with
          | false =>
            rw [hib] at HIB
            go_wp2_with fail
            refine HIB.out.mono ?_
            rintro e w10 ⟨rfl, b10⟩
            have HB10 := hide (HB8.out.trans (b10.mono HB8.out.size))
            clear b10 HIB hib
            go_wp2
            go_roundw
            case rel => exact ⟨k + 1, by omega, by simp, HB10⟩
            case measure => simp [intOf]; omega
          | true =>
            have := (HBI.out.2 z HAA.out ((is_anc HOKG.out z b0).1 hib)).1
            cases this
      · obtain rfl : k = n := by omega
        have HF := hide (HB3.out.trans ((HB9.out.trans ((HB4.out.trans (HB.out.mono HB4.out.size)).mono HB9.out.size)).mono HB3.out.size))
        go_wp2
        go_ret
        exact ⟨rfl, HF.out⟩

  | true =>
    obtain ⟨hA1, hA2⟩ := HBI.out.1 rfl
    obtain ⟨cb, hcb⟩ := hA1.there.1
    have HGB := hide hcb
    have HI1 := hide ((is_anc HOKG.out bi a).2 hA1)
    have HI2 := hide ((is_anc HOKG.out bi b0).2 hA2)
    have hbb := (HG.out w7 HB7.out).idb hcb
    have HBB := hide hbb
    have HGT := hide (getl_is (HG.out w7 HB7.out) hcb)
    obtain ⟨cg, hcg⟩ : ∃ cg, cg = cb.gen := ⟨_, rfl⟩
    have HCG := hide hcg
    rw [← hcg] at HGT
    clear hA1 hA2 hcb hbb hcg
    go_wp2_with fail
    refine HGT.out.mono ?_
    rintro e w8 ⟨ya, np, yc, rfl, hnp, _, b8⟩
    clear hnp
    obtain ⟨wc, hwc⟩ : ∃ wc, wc = w8.alloc (.cells #[.int .u64 cb.id, .slice ya np yc, .int .u64 cg, .int .u64 cb.root, .string cb.tx] 32) := ⟨_, rfl⟩
    have bA : Below w8.heap.size w8 wc := by rw [hwc]; exact (Below.refl _ _).alloc (Nat.le_refl _) _
    have kC : Ob wc w8.heap.size 32 [.int .u64 cb.id, .slice ya np yc, .int .u64 cg, .int .u64 cb.root, .string cb.tx] := by rw [hwc]; exact Ob.new w8 [.int .u64 cb.id, .slice ya np yc, .int .u64 cg, .int .u64 cb.root, .string cb.tx] 32
    have HBC := hide (HB7.out.trans ((b8.trans (bA.mono b8.size)).mono HB7.out.size))
    have HKCC := hide kC
    have HX1 := hide (isp_any (HG.out wc HBC.out).gv HOKG.out (old := bi) (late := a) HBB.out ha)
    rw [HI1.out] at HX1
    rw [hwc] at HX1
    have HWC := hide hwc
    clear b8 bA HGT HB7 kC hwc
    go_wp2_with fail
    refine HX1.out.mono ?_
    rintro e wd ⟨rfl, bd⟩
    rw [← HWC.out] at bd
    have HBD := hide (HBC.out.trans (bd.mono HBC.out.size))
    have HX2 := hide (isp_any (HG.out wd HBD.out).gv HOKG.out (old := bi) (late := b0) HBB.out hb)
    rw [HI2.out] at HX2
    have HKCD := hide (HKCC.out.old bd)
    clear bd HX1 HKCC HBC HWC
    go_wp2_with fail
    refine HX2.out.mono ?_
    rintro e w9 ⟨rfl, b9⟩
    have HB9 := hide (HBD.out.trans (b9.mono HBD.out.size))
    have HKC : Hid (∀ W, Below w9.heap.size w9 W → W.cell? ⟨w8.heap.size, 2, none⟩ = some (.int .u64 cg)) := hide (fun W hW => ((HKCD.out.old b9).old hW).cell 2)
    clear b9 HX2 HKCD HBD
    have HID := hide (lids_any (HG.out w9 HB9.out).gv)
    go_wp2_with fail
    refine HID.out.mono ?_
    rintro e w4 ⟨sa, sn, sc, rfl, rfl, r4, b4⟩
    have HR : Hid (∀ W, Below w4.heap.size w4 W → Rd .u64 W sa (lids l)) := hide (fun W hW => (Rd.own r4.1).1.below hW)
    have HB4 := hide b4
    have hnl : (lids l).length = l.length := by unfold lids; simp
    obtain ⟨n, hn⟩ : ∃ n, n = (lids l).length := ⟨_, rfl⟩
    have HN := hide hn
    have hnb : n ≤ 25 := by have := HLL.out; omega
    rw [← hn]
    clear r4 b4 HID hn hnl
    go_wp2
    go_loopw [81] (fun v wr => ∃ k : Nat, k ≤ n ∧ v = .int .i64 k ∧ Hid (Below w4.heap.size w4 wr)) (fun v _ => n - (intOf v).toNat)
    case atStart => exact ⟨0, Nat.zero_le _, rfl, hide (Below.refl _ _)⟩
    case round =>
      obtain ⟨k, hk, rfl, HB⟩ := hrel
      by_cases hlt : k < n
      · have hkl : k < (lids l).length := by have := HN.out; omega
        obtain ⟨g, off, z, hsa, hcz, hz, _⟩ := (HR.out wr HB.out).at hkl
        rw [hsa]
        have hBW := HB9.out.trans ((HB4.out.trans (HB.out.mono HB4.out.size)).mono HB9.out.size)
        have hG := HG.out wr hBW
        obtain ⟨d, hdl, hdz, hgz⟩ := getG_ids hG.rise hz.out
        have HGT := hide (getl_is hG hgz)
        have HZB := hide (hG.idb hgz)
        have HGZ := hide hgz
        clear hz hG hdl hdz hgz hsa hBW
        go_wp2_with fail
        refine HGT.out.mono ?_
        rintro e w5 ⟨da, nd, dc, rfl, hnd, _, b5⟩
        clear hnd
        obtain ⟨W5, hW5⟩ : ∃ W5, W5 = w5.alloc (.cells #[.int .u64 d.id, .slice da nd dc, .int .u64 d.gen, .int .u64 d.root, .string d.tx] 32) := ⟨_, rfl⟩
        have bA : Below w5.heap.size w5 W5 := by rw [hW5]; exact (Below.refl _ _).alloc (Nat.le_refl _) _
        have HBA := hide (HB.out.trans ((b5.trans (bA.mono b5.size)).mono HB.out.size))
        have kD : Ob W5 w5.heap.size 32 [.int .u64 d.id, .slice da nd dc, .int .u64 d.gen, .int .u64 d.root, .string d.tx] := by rw [hW5]; exact Ob.new w5 [.int .u64 d.id, .slice da nd dc, .int .u64 d.gen, .int .u64 d.root, .string d.tx] 32
        have HKD := hide kD
        have h39 := HB9.out.trans ((HB4.out.trans (HBA.out.mono HB4.out.size)).mono HB9.out.size)
        have HIA := hide (isp_any (HG.out W5 h39).gv HOKG.out (old := z) (late := a) HZB.out ha)
        have HW5 := hide hW5
        clear b5 bA kD HGT HB hW5 h39
        cases hia : isG l z a with
        | false =>
          rw [hia] at HIA
          rw [HW5.out] at HIA
          go_wp2_with fail
          refine HIA.out.mono ?_
          rintro e w8 ⟨rfl, b8⟩
          rw [← HW5.out] at b8
          have HB8 := hide (HBA.out.trans (b8.mono HBA.out.size))
          clear b8 HIA hia
          go_wp2
          go_roundw
          case rel => exact ⟨k + 1, by omega, by simp, HB8⟩
          case measure => simp [intOf]; omega
        | true =>
          rw [hia] at HIA
          rw [HW5.out] at HIA
          have HAA := hide ((is_anc HOKG.out z a).1 hia)
          go_wp2_with fail
          refine HIA.out.mono ?_
          rintro e w8 ⟨rfl, b8⟩
          rw [← HW5.out] at b8
          have HB8 := hide (HBA.out.trans (b8.mono HBA.out.size))
          have HKD8 := hide (HKD.out.old b8)
          have h39 := HB9.out.trans ((HB4.out.trans (HB8.out.mono HB4.out.size)).mono HB9.out.size)
          have HIB := hide (isp_any (HG.out w8 h39).gv HOKG.out (old := z) (late := b0) HZB.out hb)
          clear b8 HIA hia HBA HKD h39
          cases hib : isG l z b0 with
          | false =>
            rw [hib] at HIB
            go_wp2_with fail
            refine HIB.out.mono ?_
            rintro e w10 ⟨rfl, b10⟩
            have HB10 := hide (HB8.out.trans (b10.mono HB8.out.size))
            clear b10 HIB hib
            go_wp2
            go_roundw
            case rel => exact ⟨k + 1, by omega, by simp, HB10⟩
            case measure => simp [intOf]; omega
          | true =>
            have hle : d.gen ≤ cg := by
              have := (HBI.out.2 z HAA.out ((is_anc HOKG.out z b0).1 hib)).2
              rw [genOf_is HGZ.out, genOf_is HGB.out] at this
              have h2 := HCG.out
              omega
            have hnlt : decide (cg < d.gen) = false := by simp; omega
            rw [hib] at HIB
            go_wp2_with fail
            refine HIB.out.mono ?_
            rintro e w10 ⟨rfl, b10⟩
            have HB10 := hide (HB8.out.trans (b10.mono HB8.out.size))
            have d2 := (HKD8.out.old b10).cell 2
            have c2 := HKC.out w10 (HB4.out.trans (HB10.out.mono HB4.out.size))
            simp only [List.getElem?_cons_zero, List.getElem?_cons_succ] at d2
            clear b10 HIB hib
            go_wp2
            go_roundw
            case rel => exact ⟨k + 1, by omega, by simp, HB10⟩
            case measure => simp [intOf]; omega
      · obtain rfl : k = n := by omega
        have HF := hide (HB3.out.trans ((HB9.out.trans ((HB4.out.trans (HB.out.mono HB4.out.size)).mono HB9.out.size)).mono HB3.out.size))
        go_wp2
        go_ret
        exact ⟨rfl, HF.out⟩

end Go.Proofs.Ytmkafoidfgaokaa
