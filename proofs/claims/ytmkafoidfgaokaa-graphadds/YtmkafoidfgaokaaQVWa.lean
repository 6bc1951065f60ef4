/- Law 15: Adds. Over the translation. -/
import Derived.Test.YtmkafoidfgaokaaQB9
import Derived.Test.YtmkafoidfgaokaaQC1
import Derived.Test.YtmkafoidfgaokaaQVGl
import Derived.Test.YtmkafoidfgaokaaQGIi
namespace Go.Proofs.Ytmkafoidfgaokaa
open Go.RowKit Apo
set_option maxRecDepth 100000 in
set_option maxHeartbeats 8000000 in
theorem adds15 (w : World) (f : CsA) (h : OkCs w f) (a : Int) (ha : 0 ≤ a ∧ a ≤ 18446744073709551615) : Calls Try.prog 3 #[.slice f.a f.l.length f.c, .int .u64 a] w fun e w' => e = .returned (.bool true) ∧ Below w.heap.size w w' := by
  have HAW := hide (awake15 w)
  have HOK := hide h
  obtain ⟨fa, fc, fl⟩ := f
  obtain ⟨nf, hnf⟩ : ∃ nf, nf = fl.length := ⟨_, rfl⟩
  have HNF := hide hnf
  have HFEW : Hid (∀ w1, Below w.heap.size w w1 → Calls Try.prog 10 #[.slice fa nf fc] w1 fun e w' => e = .returned (.bool (fewM (fl.map CmA.c))) ∧ Below w1.heap.size w1 w') := hide (fun w1 b1 => by rw [hnf]; exact few15 w1 ⟨fa, fc, fl⟩ (HOK.out.below b1))
  have HMADE : Hid (∀ w1, Below w.heap.size w w1 → fl.length ≤ 25 → Calls Try.prog 11 #[.slice fa nf fc] w1 (MdP w1 fl)) := hide (fun w1 b1 hl => by rw [hnf]; exact made15 w1 ⟨fa, fc, fl⟩ (HOK.out.below b1) hl)
  simp only [← hnf]
  clear h hnf
  go_enter Try.func3, Try.ntmps3
  go_wp2_with fail
  refine HAW.out.mono ?_
  rintro e w1 ⟨rfl, b1⟩
  have HB1 := hide b1
  have HF1 := hide (HFEW.out w1 b1)
  clear b1 HAW HFEW
  go_wp2_with fail
  refine HF1.out.mono ?_
  rintro e w2 ⟨rfl, b2⟩
  have HB2 := hide (HB1.out.trans (b2.mono HB1.out.size))
  clear b2 HF1 HB1
  cases hfew : fewM (fl.map CmA.c) with
  | false =>
    clear hfew
    go_wp2
    go_ret
    exact ⟨rfl, HB2.out⟩
  | true =>
  have hl25 : fl.length ≤ 25 := by
    unfold fewM at hfew
    simp only [List.length_map, Bool.and_eq_true, decide_eq_true_eq] at hfew
    exact hfew.2
  have HMD := hide (HMADE.out w2 HB2.out hl25)
  clear HMADE hfew
  go_wp2_with fail
  refine HMD.out.mono ?_
  rintro e w3 ⟨p, b, px, l, rfl, hl, hll, hm⟩
  have HM := hide hm
  have HB3 := hide (HB2.out.trans (hm.bw.mono HB2.out.size))
  have HLL : Hid (l.length ≤ 25) := hide (by omega)
  obtain ⟨X, hgX⟩ := hm.g
  have HG : Hid (∀ W, Below w3.heap.size w3 W → Gp W p b X l) := hide (fun W hW => hgX.old hW)
  have HXW : Hid (∀ x ∈ X, CmR w3 x.c x.a x.cap ∧ x.c.ps.length ≤ 2) := hide (fun x hx => ⟨hgX.cs.cm x hx, (hgX.cs.sm x hx).2⟩)
  have HOKG := hide hm.ok
  have HPOS := hide hm.pos
  have hlen := hgX.len
  have HXL : Hid (X.length = l.length) := hide hlen
  clear hm hgX HMD HB2 hl25 hll hl hlen
  obtain ⟨w0, M, hGr, hML, _, _, _⟩ := HM.out.x
  have HXD : Hid (∀ W, Below w3.heap.size w3 W → Calls Try.prog 17 #[.pointer (some ⟨px, 0, none⟩)] W (NuP W (lids l))) := hide (fun W hW => by
    have := ids_any (hGr.old hW)
    rw [hML] at this
    exact this)
  cases hga : getG l a with
  | some c =>
    have HGT := hide (getl_is (HG.out w3 (Below.refl _ _)) hga)
    have hps := ((HG.out w3 (Below.refl _ _)).sz (getG_mem hga).1).2.1
    have HDT : Hid (∀ W, Below w3.heap.size w3 W → Calls Try.prog 13 #[.pointer (some ⟨px, 0, none⟩), .int .u64 a] W fun e w' => ∃ (xa : Option Addr) (xn xc : Nat), e = .returned (.tuple #[.agg #[.int .u64 c.id, .slice xa xn xc, .int .u64 c.gen, .int .u64 c.root, .string c.tx], .bool true]) ∧ xn = c.ps.length ∧ CmR w' c xa xc ∧ Below W.heap.size W w') := hide (fun W hW => by
      have hG2 := hGr.old hW
      refine (get_any hG2 a).mono ?_
      rintro e w' ⟨⟨i, x, hi, hx, rfl⟩ | ⟨hx, rfl⟩, hb⟩
      · rw [hML, hga] at hx
        injection hx with hx
        have hcm := ((hG2.cm x (List.mem_of_getElem? hi)).below hG2.b).below hb
        obtain ⟨xc0, xa, xcap⟩ := x
        simp only at hx hcm
        subst hx
        exact ⟨xa, _, xcap, rfl, rfl, hcm, hb⟩
      · rw [hML, hga] at hx; cases hx)
    clear hGr hML hga HM
    go_wp2_with fail
    refine HGT.out.mono ?_
    rintro e w4 ⟨ya, np, yc, rfl, hnp, y4, b4⟩
    have HNP := hide hnp
    clear hnp
    obtain ⟨W4, hW4⟩ : ∃ W4, W4 = w4.alloc (.cells #[.int .u64 c.id, .slice ya np yc, .int .u64 c.gen, .int .u64 c.root, .string c.tx] 32) := ⟨_, rfl⟩
    have bA : Below w4.heap.size w4 W4 := by rw [hW4]; exact (Below.refl _ _).alloc (Nat.le_refl _) _
    have k4 : Ob W4 w4.heap.size 32 [.int .u64 c.id, .slice ya np yc, .int .u64 c.gen, .int .u64 c.root, .string c.tx] := by rw [hW4]; exact Ob.new w4 [.int .u64 c.id, .slice ya np yc, .int .u64 c.gen, .int .u64 c.root, .string c.tx] 32
    have HB4 := hide (b4.trans (bA.mono b4.size))
    have HY4 := hide (y4.below bA)
    have HK4 := hide k4
    have HD := HDT.out W4 HB4.out
    rw [hW4] at HD
    have HDD := hide HD
    have HW4 := hide hW4
    clear b4 bA k4 HD hW4 HGT HDT y4
    go_wp2_with fail
    refine HDD.out.mono ?_
    rintro e w5 ⟨xa, xn, xc, rfl, hxn, x5, b5⟩
    rw [← HW4.out] at b5
    obtain ⟨W5, hW5⟩ : ∃ W5, W5 = w5.alloc (.cells #[.int .u64 c.id, .slice xa xn xc, .int .u64 c.gen, .int .u64 c.root, .string c.tx] 32) := ⟨_, rfl⟩
    have bB : Below w5.heap.size w5 W5 := by rw [hW5]; exact (Below.refl _ _).alloc (Nat.le_refl _) _
    have k5 : Ob W5 w5.heap.size 32 [.int .u64 c.id, .slice xa xn xc, .int .u64 c.gen, .int .u64 c.root, .string c.tx] := by rw [hW5]; exact Ob.new w5 [.int .u64 c.id, .slice xa xn xc, .int .u64 c.gen, .int .u64 c.root, .string c.tx] 32
    have b45 := b5.trans (bB.mono b5.size)
    have HB5 := hide (HB4.out.trans (b45.mono HB4.out.size))
    have k45 := HK4.out.old b45
    have r0 := k45.cell 0
    have r1 := k45.cell 1
    have r2 := k45.cell 2
    have r3 := k45.cell 3
    have r4 := k45.cell 4
    simp only [List.getElem?_cons_zero, List.getElem?_cons_succ] at r0 r1 r2 r3 r4
    have hs45 : w4.heap.size < w5.heap.size := by have := HK4.out.lt; have := b5.size; omega
    have HSC : Hid (Calls Try.prog 14 #[.agg #[.int .u64 c.id, .slice ya np yc, .int .u64 c.gen, .int .u64 c.root, .string c.tx], .agg #[.int .u64 c.id, .slice xa xn xc, .int .u64 c.gen, .int .u64 c.root, .string c.tx]] W5 fun e w' => e = .returned (.bool true) ∧ Below W5.heap.size W5 w') := hide (by
      rw [HNP.out, hxn]
      refine (rsame14 c c ya xa yc xc W5 (HY4.out.rd.below b45) (x5.rd.below bB) (by omega)).mono ?_
      rintro e w' ⟨rfl, hb⟩
      exact ⟨by rw [sameCm_refl], hb⟩)
    clear hxn x5 HY4 hps
    rw [hW5] at HSC
    have HW5 := hide hW5
    rw [hW5] at r0 r1 r2 r3 r4
    clear b5 bB k5 b45 k45 HDD hW5
    go_wp2_with fail
    refine HSC.out.mono ?_
    rintro e w6 ⟨rfl, b6⟩
    rw [← HW5.out] at b6
    have HB6 := hide (HB5.out.trans (b6.mono HB5.out.size))
    have HID := hide (lids_any (HG.out w6 HB6.out).gv)
    clear b6 HSC r0 r1 r2 r3 r4
    go_wp2_with fail
    refine HID.out.mono ?_
    rintro e w7 ⟨sa, sn, sc, rfl, hsn, s4, b7⟩
    have HB7 := hide (HB6.out.trans (b7.mono HB6.out.size))
    have HRS : Hid (∀ W, Below w7.heap.size w7 W → Rd .u64 W sa (lids l)) := hide (fun W hW => (Rd.own s4.1).1.below hW)
    have HXI := hide (HXD.out w7 HB7.out)
    have HSN := hide hsn
    clear b7 s4 HID hsn
    go_wp2_with fail
    refine HXI.out.mono ?_
    rintro e w8 ⟨ta, tn, tc, rfl, htn, t4, b8⟩
    have HB8 := hide (HB7.out.trans (b8.mono HB7.out.size))
    have HSM : Hid (Calls Try.prog 15 #[.slice sa sn sc, .slice ta tn tc] w8 fun e w' => e = .returned (.bool true) ∧ Below w8.heap.size w8 w') := hide (by
      rw [HSN.out, htn]
      refine (samen_any sa ta sc tc (lids l) (lids l) w8 (HRS.out w8 b8) (Rd.own t4.1).1 (by unfold lids; rw [List.length_map]; have := HLL.out; omega)).mono ?_
      rintro e w' ⟨rfl, hb⟩
      exact ⟨by simp, hb⟩)
    clear b8 t4 HXI htn HSN
    go_wp2_with fail
    refine HSM.out.mono ?_
    rintro e w9 ⟨rfl, b9⟩
    have HF := hide (HB3.out.trans ((HB8.out.trans (b9.mono HB8.out.size)).mono HB3.out.size))
    clear b9 HSM
    go_wp2
    go_ret
    exact ⟨rfl, HF.out⟩

  | none =>
    have HGT := hide (getl_no (HG.out w3 (Below.refl _ _)) ha.1 ha.2 hga)
    have HDT : Hid (∀ W, Below w3.heap.size w3 W → Calls Try.prog 13 #[.pointer (some ⟨px, 0, none⟩), .int .u64 a] W fun e w' => e = .returned (.tuple #[.agg #[.int .u64 0, .slice none 0 0, .int .u64 0, .int .u64 0, .string ⟨#[]⟩], .bool false]) ∧ Below W.heap.size W w') := hide (fun W hW => by
      have hG2 := hGr.old hW
      refine (get_any hG2 a).mono ?_
      rintro e w' ⟨⟨i, x, hi, hx, rfl⟩ | ⟨hx, rfl⟩, hb⟩
      · rw [hML, hga] at hx; cases hx
      · exact ⟨rfl, hb⟩)
    clear hGr hML hga HM
    go_wp2_with fail
    refine HGT.out.mono ?_
    rintro e w4 ⟨ya, yc, rfl, y4, b4⟩
    obtain ⟨W4, hW4⟩ : ∃ W4, W4 = w4.alloc (.cells #[.int .u64 0, .slice ya 0 yc, .int .u64 0, .int .u64 0, .string ⟨#[]⟩] 32) := ⟨_, rfl⟩
    have bA : Below w4.heap.size w4 W4 := by rw [hW4]; exact (Below.refl _ _).alloc (Nat.le_refl _) _
    have k4 : Ob W4 w4.heap.size 32 [.int .u64 0, .slice ya 0 yc, .int .u64 0, .int .u64 0, .string ⟨#[]⟩] := by rw [hW4]; exact Ob.new w4 [.int .u64 0, .slice ya 0 yc, .int .u64 0, .int .u64 0, .string ⟨#[]⟩] 32
    have HB4 := hide (b4.trans (bA.mono b4.size))
    have HY4 := hide (y4.below bA)
    have HK4 := hide k4
    have HD := HDT.out W4 HB4.out
    rw [hW4] at HD
    have HDD := hide HD
    have HW4 := hide hW4
    clear b4 bA k4 HD hW4 HGT HDT y4
    go_wp2_with fail
    refine HDD.out.mono ?_
    rintro e w5 ⟨rfl, b5⟩
    rw [← HW4.out] at b5
    obtain ⟨W5, hW5⟩ : ∃ W5, W5 = w5.alloc (.cells #[.int .u64 0, .slice none 0 0, .int .u64 0, .int .u64 0, .string ⟨#[]⟩] 32) := ⟨_, rfl⟩
    have bB : Below w5.heap.size w5 W5 := by rw [hW5]; exact (Below.refl _ _).alloc (Nat.le_refl _) _
    have k5 : Ob W5 w5.heap.size 32 [.int .u64 0, .slice none 0 0, .int .u64 0, .int .u64 0, .string ⟨#[]⟩] := by rw [hW5]; exact Ob.new w5 [.int .u64 0, .slice none 0 0, .int .u64 0, .int .u64 0, .string ⟨#[]⟩] 32
    have b45 := b5.trans (bB.mono b5.size)
    have HB5 := hide (HB4.out.trans (b45.mono HB4.out.size))
    have k45 := HK4.out.old b45
    have r0 := k45.cell 0
    have r1 := k45.cell 1
    have r2 := k45.cell 2
    have r3 := k45.cell 3
    have r4 := k45.cell 4
    simp only [List.getElem?_cons_zero, List.getElem?_cons_succ] at r0 r1 r2 r3 r4
    have hs45 : w4.heap.size < w5.heap.size := by have := HK4.out.lt; have := b5.size; omega
    have HSC : Hid (Calls Try.prog 14 #[.agg #[.int .u64 0, .slice ya 0 yc, .int .u64 0, .int .u64 0, .string ⟨#[]⟩], .agg #[.int .u64 0, .slice none 0 0, .int .u64 0, .int .u64 0, .string ⟨#[]⟩]] W5 fun e w' => e = .returned (.bool true) ∧ Below W5.heap.size W5 w') := hide (by
      refine Calls.mono (rsame14 zeroCm zeroCm ya none yc 0 W5 (HY4.out.rd.below b45) (Rd.nil _ _ _) (by simp [zeroCm])) ?_
      rintro e w' ⟨rfl, hb⟩
      exact ⟨by rw [sameCm_refl], hb⟩)
    clear HY4
    rw [hW5] at HSC
    have HW5 := hide hW5
    rw [hW5] at r0 r1 r2 r3 r4
    clear b5 bB k5 b45 k45 HDD hW5
    go_wp2_with fail
    refine HSC.out.mono ?_
    rintro e w6 ⟨rfl, b6⟩
    rw [← HW5.out] at b6
    have HB6 := hide (HB5.out.trans (b6.mono HB5.out.size))
    have HID := hide (lids_any (HG.out w6 HB6.out).gv)
    clear b6 HSC r0 r1 r2 r3 r4
    go_wp2_with fail
    refine HID.out.mono ?_
    rintro e w7 ⟨sa, sn, sc, rfl, hsn, s4, b7⟩
    have HB7 := hide (HB6.out.trans (b7.mono HB6.out.size))
    have HRS : Hid (∀ W, Below w7.heap.size w7 W → Rd .u64 W sa (lids l)) := hide (fun W hW => (Rd.own s4.1).1.below hW)
    have HXI := hide (HXD.out w7 HB7.out)
    have HSN := hide hsn
    clear b7 s4 HID hsn
    go_wp2_with fail
    refine HXI.out.mono ?_
    rintro e w8 ⟨ta, tn, tc, rfl, htn, t4, b8⟩
    have HB8 := hide (HB7.out.trans (b8.mono HB7.out.size))
    have HSM : Hid (Calls Try.prog 15 #[.slice sa sn sc, .slice ta tn tc] w8 fun e w' => e = .returned (.bool true) ∧ Below w8.heap.size w8 w') := hide (by
      rw [HSN.out, htn]
      refine (samen_any sa ta sc tc (lids l) (lids l) w8 (HRS.out w8 b8) (Rd.own t4.1).1 (by unfold lids; rw [List.length_map]; have := HLL.out; omega)).mono ?_
      rintro e w' ⟨rfl, hb⟩
      exact ⟨by simp, hb⟩)
    clear b8 t4 HXI htn HSN
    go_wp2_with fail
    refine HSM.out.mono ?_
    rintro e w9 ⟨rfl, b9⟩
    have HF := hide (HB3.out.trans ((HB8.out.trans (b9.mono HB8.out.size)).mono HB3.out.size))
    clear b9 HSM
    go_wp2
    go_ret
    exact ⟨rfl, HF.out⟩

end Go.Proofs.Ytmkafoidfgaokaa
