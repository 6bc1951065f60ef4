/- Law 15: Bases. Over the translation. -/
import Derived.Test.YtmkafoidfgaokaaQB9
import Derived.Test.YtmkafoidfgaokaaQC1
import Derived.Test.YtmkafoidfgaokaaQVGl
import Derived.Test.YtmkafoidfgaokaaQL3
import Derived.Test.YtmkafoidfgaokaaQL4
import Derived.Test.YtmkafoidfgaokaaQGIi
import Derived.Test.YtmkafoidfgaokaaQL5
import Derived.Test.YtmkafoidfgaokaaQGSc
namespace Go.Proofs.Ytmkafoidfgaokaa
open Go.RowKit Apo
set_option maxRecDepth 100000 in
set_option maxHeartbeats 8000000 in
theorem bases15 (w : World) (f : CsA) (h : OkCs w f) (a b0 most : Int) (ha : 0 ≤ a ∧ a ≤ 18446744073709551615) (hb : 0 ≤ b0 ∧ b0 ≤ 18446744073709551615) : Calls Try.prog 4 #[.slice f.a f.l.length f.c, .int .u64 a, .int .u64 b0, .int .i64 most] w fun e w' => e = .returned (.bool true) ∧ Below w.heap.size w w' := by
  have HAW := hide (awake15 w)
  have HOK := hide h
  obtain ⟨fa, fc, fl⟩ := f
  obtain ⟨nf, hnf⟩ : ∃ nf, nf = fl.length := ⟨_, rfl⟩
  have HNF := hide hnf
  have HFEW : Hid (∀ w1, Below w.heap.size w w1 → Calls Try.prog 10 #[.slice fa nf fc] w1 fun e w' => e = .returned (.bool (fewM (fl.map CmA.c))) ∧ Below w1.heap.size w1 w') := hide (fun w1 b1 => by rw [hnf]; exact few15 w1 ⟨fa, fc, fl⟩ (HOK.out.below b1))
  have HMADE : Hid (∀ w1, Below w.heap.size w w1 → fl.length ≤ 25 → Calls Try.prog 11 #[.slice fa nf fc] w1 (MdP w1 fl)) := hide (fun w1 b1 hl => by rw [hnf]; exact made15 w1 ⟨fa, fc, fl⟩ (HOK.out.below b1) hl)
  simp only [← hnf]
  clear h hnf
  go_enter Try.func4, Try.ntmps4
  go_wp2_with fail
  refine HAW.out.mono ?_
  rintro e w1 ⟨rfl, b1⟩
  have HB1 := hide b1
  have HF1 := hide (HFEW.out w1 b1)
  clear b1 HAW HFEW
  go_wp2_with fail
  refine HF1.out.mono ?_
  rintro e w2 ⟨rfl, b2⟩
  have HB2 := hide (HB1.out.trans (b2.mono HB1.out.size))
  clear b2 HF1 HB1
  cases hfew : fewM (fl.map CmA.c) with
  | false =>
    clear hfew
    go_wp2
    go_ret
    exact ⟨rfl, HB2.out⟩
  | true =>
  have hl25 : fl.length ≤ 25 := by
    unfold fewM at hfew
    simp only [List.length_map, Bool.and_eq_true, decide_eq_true_eq] at hfew
    exact hfew.2
  have HMD := hide (HMADE.out w2 HB2.out hl25)
  clear HMADE hfew
  go_wp2_with fail
  refine HMD.out.mono ?_
  rintro e w3 ⟨p, b, px, l, rfl, hl, hll, hm⟩
  have HM := hide hm
  have HB3 := hide (HB2.out.trans (hm.bw.mono HB2.out.size))
  have HLL : Hid (l.length ≤ 25) := hide (by omega)
  obtain ⟨X, hgX⟩ := hm.g
  have HG : Hid (∀ W, Below w3.heap.size w3 W → Gp W p b X l) := hide (fun W hW => hgX.old hW)
  have HXW : Hid (∀ x ∈ X, CmR w3 x.c x.a x.cap ∧ x.c.ps.length ≤ 2) := hide (fun x hx => ⟨hgX.cs.cm x hx, (hgX.cs.sm x hx).2⟩)
  have HOKG := hide hm.ok
  have HPOS := hide hm.pos
  have hlen := hgX.len
  have HXL : Hid (X.length = l.length) := hide hlen
  clear hm hgX HMD HB2 hl25 hll hl hlen
  obtain ⟨w0, M, hGr, hML, _, _, _⟩ := HM.out.x
  have hMps : ∀ x ∈ M, x.c.ps.length ≤ 1099511627776 := fun x hx => by
    have h1 : x.c ∈ l := by rw [← hML]; exact List.mem_map.2 ⟨x, hx, rfl⟩
    have := ((HG.out w3 (Below.refl _ _)).sz h1).2.1
    omega
  have HMPS := hide hMps
  have HGR : Hid (∀ W, Below w3.heap.size w3 W → Gr w0 W px M) := hide (fun W hW => hGr.old hW)
  have HML := hide hML
  have hll : l.length ≤ 25 := HLL.out
  have hbl : (basesG l a b0).length ≤ 1099511627776 := by have := basesG_len l a b0; omega
  have hrl : (reachG l [a, b0]).length ≤ 1099511627776 := by have := reachG_len l [a, b0]; omega
  have HDB : Hid (∀ W, Below w3.heap.size w3 W → Calls Try.prog 19 #[.pointer (some ⟨px, 0, none⟩), .int .u64 a, .int .u64 b0] W (BsP W (baseG l a b0))) := hide (fun W hW => by
    have := base_any (hGr.old hW) hMps a b0
    rw [hML] at this
    exact this)
  have HDBS : Hid (∀ W, Below w3.heap.size w3 W → Calls Try.prog 23 #[.pointer (some ⟨px, 0, none⟩), .int .u64 a, .int .u64 b0] W (NuP W (basesG l a b0))) := hide (fun W hW => by
    have := bases_any (hGr.old hW) hMps a b0
    rw [hML] at this
    exact this)
  have HDI : Hid (∀ W, Below w3.heap.size w3 W → Calls Try.prog 21 #[.pointer (some ⟨px, 0, none⟩), .int .u64 a, .int .u64 b0] W fun e w' => e = .returned (.bool (isG l a b0)) ∧ Below W.heap.size W w') := hide (fun W hW => by
    have := is_any (hGr.old hW) hMps a b0
    rw [hML] at this
    exact this)
  have HPR : Hid (∀ W, Below w3.heap.size w3 W → Calls Try.prog 24 #[.pointer (some ⟨p, 0, none⟩), .slice (some ⟨W.heap.size, 0, none⟩) 2 2] (W.alloc (.cells #[.int .u64 a, .int .u64 b0] 23)) (NuP (W.alloc (.cells #[.int .u64 a, .int .u64 b0] 23)) (reachG l [a, b0]))) := hide (fun W hW => by
    have := reachp_any (HG.out _ (hW.alloc hW.size (.cells #[.int .u64 a, .int .u64 b0] 23))).gv HOKG.out (rd_lit2 .u64 W 23 a b0) (ic := 2) (by simp) (by simp) (by intro z hz; simp at hz; rcases hz with rfl | rfl <;> omega)
    exact this)
  have HDR : Hid (∀ W, Below w3.heap.size w3 W → Calls Try.prog 25 #[.pointer (some ⟨px, 0, none⟩), .slice (some ⟨W.heap.size, 0, none⟩) 2 2] (W.alloc (.cells #[.int .u64 a, .int .u64 b0] 23)) (NuP (W.alloc (.cells #[.int .u64 a, .int .u64 b0] 23)) (reachG l [a, b0]))) := hide (fun W hW => by
    have := reach_any (hGr.old (hW.alloc hW.size (.cells #[.int .u64 a, .int .u64 b0] 23))) (some ⟨W.heap.size, 0, none⟩) 2 [a, b0] hMps (rd_lit2 .u64 W 23 a b0) (by simp)
    rw [hML] at this
    exact this)
  have HDL : Hid (∀ W, Below w3.heap.size w3 W → Calls Try.prog 28 #[.pointer (some ⟨px, 0, none⟩), .int .u64 a, .int .i64 most] W (LgP w0 W (logG l a most))) := hide (fun W hW => by
    have := log_any (hGr.old hW) hMps a most
    rw [hML] at this
    exact this)
  have HLGL : Hid ((logG l a most).length ≤ 25) := hide (by
    unfold logG
    have h1 := (sortG_sorted l (reachG l [a])).2.length_eq
    have h2 := reachG_len l [a]
    rw [List.length_map] at h1
    rw [List.length_take]
    omega)
  have HSZ : Hid (∀ c ∈ logG l a most, c.ps.length ≤ 1099511627776) := hide (fun c hc => by
    unfold logG at hc
    have := (sort_ids HOKG.out [a] (List.mem_of_mem_take hc)).1
    have := ((HG.out w3 (Below.refl _ _)).sz this).2.1
    omega)
  clear HM hGr hML hMps hll HXW HXL HML HMPS
  have HP0 := hide (basep_any (HG.out w3 (Below.refl _ _)) HOKG.out HPOS.out ha hb)
  have hrefl : (baseG l a b0).1 = (baseG l a b0).1 := rfl
  obtain ⟨B, hB⟩ : ∃ B, B = baseG l a b0 := ⟨_, rfl⟩
  rw [← hB] at HP0 HDB
  obtain ⟨bi, bh⟩ := B
  unfold BsP at HP0 HDB
  simp only at HP0 HDB
  clear hB hrefl
  go_wp2_with fail
  refine HP0.out.mono ?_
  rintro e w4 ⟨rfl, b4⟩
  have HB4 := hide b4
  clear b4 HP0
  go_wp2_with fail
  refine (HDB.out w4 HB4.out).mono ?_
  rintro e w5 ⟨rfl, b5⟩
  have HB5 := hide (HB4.out.trans (b5.mono HB4.out.size))
  clear b5 HDB HB4
  have HPI := hide (isp_any (HG.out w5 HB5.out).gv HOKG.out (old := a) (late := b0) ha hb)
  obtain ⟨ri, hri⟩ : ∃ ri, ri = isG l a b0 := ⟨_, rfl⟩
  rw [← hri] at HPI HDI
  clear hri
  go_wp2_with fail
  refine HPI.out.mono ?_
  rintro e w6 ⟨rfl, b6⟩
  have HB6 := hide (HB5.out.trans (b6.mono HB5.out.size))
  clear b6 HPI HB5
  have hd1 : (ri == ri) = true := by simp
  have hd2 : (bi == bi) = true := by simp
  have hd3 : (bh == bh) = true := by simp
  go_wp2_with fail
  refine (HDI.out w6 HB6.out).mono ?_
  rintro e w7 ⟨rfl, b7⟩
  have HB7 := hide (HB6.out.trans (b7.mono HB6.out.size))
  clear b7 HDI HB6
  have HP1 := hide (basesp_any (HG.out _ HB7.out).gv HOKG.out ha hb)
  go_wp2_with fail
  refine HP1.out.mono ?_
  rintro e wa1 ⟨sa1, sn1, sc1, rfl, hsn1, s41, ba1⟩
  have ba1 := HB7.out.trans (ba1.mono HB7.out.size)
  have HA1 := hide ba1
  have HS1 : Hid (∀ W, Below wa1.heap.size wa1 W → Rd .u64 W sa1 (basesG l a b0)) := hide (fun W hW => (Rd.own s41.1).1.below hW)
  have HSN1 := hide hsn1
  have HD1 := hide (HDBS.out _ HA1.out)
  clear ba1 s41 hsn1 HP1
  go_wp2_with fail
  refine HD1.out.mono ?_
  rintro e wb1 ⟨ta1, tn1, tc1, rfl, htn1, t41, bb1⟩
  have bab1 := bb1
  have HBB1 := hide (HA1.out.trans (bab1.mono HA1.out.size))
  have HSM1 : Hid (Calls Try.prog 15 #[.slice sa1 sn1 sc1, .slice ta1 tn1 tc1] wb1 fun e w' => e = .returned (.bool true) ∧ Below wb1.heap.size wb1 w') := hide (by
    rw [HSN1.out, htn1]
    refine (samen_any sa1 ta1 sc1 tc1 (basesG l a b0) (basesG l a b0) wb1 (HS1.out wb1 bab1) (Rd.own t41.1).1 (by exact hbl)).mono ?_
    rintro e w' ⟨rfl, hb⟩
    exact ⟨by simp, hb⟩)
  clear bb1 bab1 t41 htn1 HD1 HS1 HSN1 HA1
  go_wp2_with fail
  refine HSM1.out.mono ?_
  rintro e wc1 ⟨rfl, bc1⟩
  have HC1 := hide (HBB1.out.trans (bc1.mono HBB1.out.size))
  clear bc1 HSM1 HBB1
  have HP2 := hide (HPR.out _ HC1.out)
  go_wp2_with fail
  refine HP2.out.mono ?_
  rintro e wa2 ⟨sa2, sn2, sc2, rfl, hsn2, s42, ba2⟩
  have ba2 := ((HC1.out.alloc HC1.out.size (.cells #[.int .u64 a, .int .u64 b0] 23))).trans (ba2.mono (HC1.out.alloc HC1.out.size (.cells #[.int .u64 a, .int .u64 b0] 23)).size)
  have HA2 := hide ba2
  have HS2 : Hid (∀ W, Below wa2.heap.size wa2 W → Rd .u64 W sa2 (reachG l [a, b0])) := hide (fun W hW => (Rd.own s42.1).1.below hW)
  have HSN2 := hide hsn2
  have HD2 := hide (HDR.out _ HA2.out)
  clear ba2 s42 hsn2 HP2
  go_wp2_with fail
  refine HD2.out.mono ?_
  rintro e wb2 ⟨ta2, tn2, tc2, rfl, htn2, t42, bb2⟩
  have bab2 : Below wa2.heap.size wa2 wb2 := ((Below.refl _ wa2).alloc (Nat.le_refl _) (.cells #[.int .u64 a, .int .u64 b0] 23)).trans (bb2.mono (by simp))
  have HBB2 := hide (HA2.out.trans (bab2.mono HA2.out.size))
  have HSM2 : Hid (Calls Try.prog 15 #[.slice sa2 sn2 sc2, .slice ta2 tn2 tc2] wb2 fun e w' => e = .returned (.bool true) ∧ Below wb2.heap.size wb2 w') := hide (by
    rw [HSN2.out, htn2]
    refine (samen_any sa2 ta2 sc2 tc2 (reachG l [a, b0]) (reachG l [a, b0]) wb2 (HS2.out wb2 bab2) (Rd.own t42.1).1 (by exact hrl)).mono ?_
    rintro e w' ⟨rfl, hb⟩
    exact ⟨by simp, hb⟩)
  clear bb2 bab2 t42 htn2 HD2 HS2 HSN2 HA2
  go_wp2_with fail
  refine HSM2.out.mono ?_
  rintro e wc2 ⟨rfl, bc2⟩
  have HC2 := hide (HBB2.out.trans (bc2.mono HBB2.out.size))
  clear bc2 HSM2 HBB2

  have HPL := hide (logp_any (HG.out _ HC2.out).gv HOKG.out (id := a) ha most)
  go_wp2_with fail
  refine HPL.out.mono ?_
  rintro e w8 ⟨la, ln, lc, S, rfl, hln, hSm, hScm, hSrd, b8, _, _⟩
  have HB8 := hide (HC2.out.trans (b8.mono HC2.out.size))
  have HSX := hide (And.intro hln (And.intro hSm (And.intro hScm hSrd)))
  have HDLL := hide (HDL.out w8 HB8.out)
  clear b8 HPL hln hSm hScm hSrd HDL
  go_wp2_with fail
  refine HDLL.out.mono ?_
  rintro e w9 ⟨ma, mn, mc, T, rfl, hmn, hTm, hTcm, hTrd, b9⟩
  have HB9 := hide (HB8.out.trans (b9.mono HB8.out.size))
  have HSC : Hid (Calls Try.prog 26 #[.slice la ln lc, .slice ma mn mc] w9 fun e w' => e = .returned (.bool true) ∧ Below w9.heap.size w9 w') := hide (by
    obtain ⟨h1, h2, h3, h4⟩ := HSX.out
    rw [h1, hmn]
    have hSl : S.length ≤ 25 := by
      have := congrArg List.length h2
      rw [List.length_map] at this
      have := HLGL.out
      omega
    refine (rsames_any (w0 := w9) la lc S ma mc T (Below.refl _ _) (h4.below b9) hTrd (fun x hx => ⟨(h3 x hx).below b9, HSZ.out x.c (by rw [← h2]; exact List.mem_map.2 ⟨x, hx, rfl⟩)⟩) (fun x hx => (hTcm x hx).below (HGR.out w9 HB9.out).b) (by omega)).mono ?_
    rintro e w' ⟨⟨r, rfl, hr⟩, hb⟩
    have : r = true := hr.2 (by rw [h2, hTm])
    subst this
    exact ⟨rfl, hb⟩)
  clear b9 hmn hTm hTcm hTrd HDLL HSX
  go_wp2_with fail
  refine HSC.out.mono ?_
  rintro e w10 ⟨rfl, b10⟩
  have HF := hide (HB3.out.trans ((HB9.out.trans (b10.mono HB9.out.size)).mono HB3.out.size))
  clear b10 HSC
  go_wp2
  go_ret
  exact ⟨rfl, HF.out⟩
end Go.Proofs.Ytmkafoidfgaokaa
