/- ConflictPuts' walk. -/
import Derived.Test.YtjmjcmejneljgaaCWb
import Derived.Test.YtjmjcmejneljgaaCPv
import Derived.Test.YtjmjcmejneljgaaCXo
namespace Go.Proofs.Ytjmjcmejneljgaa
open Go.RowKit Apo
open Classical in
set_option maxRecDepth 100000 in
set_option maxHeartbeats 8000000 in
theorem puts13 (w : World) (x : ClA) (hx : OkClA w x) (a : Option Addr) (cap : Nat) (b : List Int) (hr : Rd .u8 w a b) (hcap : b.length ≤ cap) (hn : a = none → cap = 0) (hb : InB b) (hbl : b.length ≤ 9223372036854775807) :
    Calls Try.prog 3 #[.slice x.a x.l.length x.c, .slice a b.length cap] w fun e w' => e = .returned (.bool true) ∧ Below w.heap.size w w' := by
  obtain ⟨la, lc, l⟩ := x
  obtain ⟨hrd, hsz, hlen, hbig, _⟩ := hx
  simp only at hrd hsz hlen hbig ⊢
  unfold maxLen at hbig
  have HCA := hide (awake13 w)
  have HLR := hide hrd
  have HLZ := hide hsz
  have HRD := hide hr
  have HNI := hide hn
  have HIB := hide hb
  have HCAP := hide hcap
  obtain ⟨ln, hln⟩ : ∃ ln, ln = l.length := ⟨_, rfl⟩
  obtain ⟨bn, hbn⟩ : ∃ bn, bn = b.length := ⟨_, rfl⟩
  rw [← hln, ← hbn]
  have HLN := hide hln
  have HBN := hide hbn
  have hlm : ln ≤ 9223372036854775807 := by omega
  have hbm : bn ≤ 9223372036854775807 := by omega
  clear hrd hsz hr hn hb hln hbn hlen hbig hbl hcap
  go_enter Try.func3, Try.ntmps3
  go_wp2_with fail
  refine HCA.out.mono ?_
  rintro e w1 ⟨rfl, b1⟩
  have HB1 := hide b1
  have HCL := hide (light13 w1 la lc l (HLR.out.below b1) (by have := HLN.out; omega) HLZ.out)
  rw [← HLN.out] at HCL
  clear b1 HCA
  cases hlt : lightC l with
  | false =>
    rw [hlt] at HCL
    clear hlt
    go_wp2_with fail
    refine HCL.out.mono ?_
    rintro e w2 ⟨rfl, b2⟩
    have HB2 := hide (HB1.out.trans (b2.mono HB1.out.size))
    clear b2 HCL
    go_wp2
    go_ret
    exact ⟨rfl, HB2.out⟩
  | true =>
    have hlo := lightC_ok hlt
    rw [hlt] at HCL
    have hl20 : ln ≤ 20 := by rw [HLN.out]; exact hlo.1
    clear hlt hlo
    by_cases hbig : 2000 < bn
    · have d1 : decide ((2000 : Int) < (bn : Int)) = true := by simp; omega
      have d2 : decide (2000 < bn) = true := by simp; omega
      clear hbig
      go_wp2_with fail
      refine HCL.out.mono ?_
      rintro e w2 ⟨rfl, b2⟩
      have HB2 := hide (HB1.out.trans (b2.mono HB1.out.size))
      clear b2 HCL
      go_wp2
      go_ret
      exact ⟨rfl, HB2.out⟩
    · have d1 : decide ((2000 : Int) < (bn : Int)) = false := by simp; omega
      have d2 : decide (2000 < bn) = false := by simp; omega
      have HBL : Hid (b.length ≤ 2000) := hide (by rw [← HBN.out]; omega)
      have HLL : Hid (l.length ≤ 1000000) := hide (by rw [← HLN.out]; omega)
      clear hbig
      go_wp2_with fail
      refine HCL.out.mono ?_
      rintro e w2 ⟨rfl, b2⟩
      have HB2 := hide (HB1.out.trans (b2.mono HB1.out.size))
      have HCP1 := hide (put_cls w2 la lc l (HLR.out.below HB2.out) HLL.out HLZ.out)
      rw [← HLN.out] at HCP1
      clear b2 HCL HB1
      go_wp2_with fail
      refine HCP1.out.mono ?_
      rintro e w3 ⟨v3, rfl, o3, b3⟩
      have HB3 := hide (HB2.out.trans (b3.mono HB2.out.size))
      obtain ⟨pa, pc, hp, _, _⟩ := own_form o3
      subst hp
      have HPR := hide (Rd.own o3).1
      have HCP2 := hide (rput_cls w3 la lc l (HLR.out.below HB3.out) HLL.out HLZ.out)
      rw [← HLN.out] at HCP2
      obtain ⟨PB, hPB⟩ : ∃ PB, PB = (putC l).1 := ⟨_, rfl⟩
      obtain ⟨PE, hPE⟩ : ∃ PE, PE = (putC l).2 := ⟨_, rfl⟩
      have HPB := hide hPB
      have HPE := hide hPE
      rw [← hPB] at HPR ⊢
      rw [← hPE]
      obtain ⟨pn, hpn⟩ : ∃ pn, pn = PB.length := ⟨_, rfl⟩
      rw [← hpn]
      have HPN := hide hpn
      clear o3 b3 HCP1 hPB hPE hpn
      go_wp2_with fail
      refine HCP2.out.mono ?_
      rintro e w4 ⟨v4, rfl, r4, b4⟩
      have HB4 := hide (HB3.out.trans (b4.mono HB3.out.size))
      have HPR4 := hide (HPR.out.below b4)
      unfold RwB at r4
      obtain ⟨qa, qc, hq, _, _⟩ := own_form r4.1
      subst hq
      have HQR := hide (Rd.own r4.1).1
      rw [← HPB.out] at HQR ⊢
      rw [← HPE.out, ← HPN.out]
      have HCO := hide (of_cls w4 a cap b (HRD.out.below HB4.out) HNI.out HIB.out (by have := HBL.out; omega))
      rw [← HBN.out] at HCO
      clear r4 b4 HCP2 HPR
      go_wp2_with fail
      refine HCO.out.mono ?_
      rintro e w5 ⟨v5, rfl, r5, b5⟩
      have HB5 := hide (HB4.out.trans (b5.mono HB4.out.size))
      have HPR5 := hide (HPR4.out.below b5)
      have HQR5 := hide (HQR.out.below b5)
      obtain ⟨ma, mc, hm, mrd, _⟩ := rd_gcells cCl_len r5
      subst hm
      have HMR := hide mrd
      have HCX := hide (rof_cls w5 a cap b (HRD.out.below HB5.out) HCAP.out HNI.out HIB.out (by have := HBL.out; omega))
      rw [← HBN.out] at HCX
      have HML := hide (ofC_len b)
      obtain ⟨OL, hOL⟩ : ∃ OL, OL = (ofC b).1 := ⟨_, rfl⟩
      obtain ⟨OE, hOE⟩ : ∃ OE, OE = (ofC b).2 := ⟨_, rfl⟩
      have HOL := hide hOL
      have HOE := hide hOE
      rw [← hOL] at HMR HML ⊢
      rw [← hOE]
      obtain ⟨mn, hmn⟩ : ∃ mn, mn = OL.length := ⟨_, rfl⟩
      rw [← hmn]
      have HMN := hide hmn
      clear r5 b5 mrd HCO HPR4 HQR hOL hOE hmn
      go_wp2_with fail
      refine HCX.out.mono ?_
      rintro e w6 ⟨v6, rfl, r6, b6⟩
      have HB6 := hide (HB5.out.trans (b6.mono HB5.out.size))
      have HPR6 := hide (HPR5.out.below b6)
      have HQR6 := hide (HQR5.out.below b6)
      have HMR6 := hide (HMR.out.below b6)
      rw [← HOL.out] at r6
      obtain ⟨na, nc, hm, nrd, _⟩ := rd_gcells cCl_len r6
      subst hm
      have HNR := hide nrd
      rw [← HOE.out, ← HMN.out]
      have HC8 := hide (right_any w6 la lc l (HLR.out.below HB6.out) HLL.out HLZ.out)
      rw [← HLN.out] at HC8
      obtain ⟨CE, hCE⟩ : ∃ CE, CE = clashE l := ⟨_, rfl⟩
      rw [← hCE] at HC8
      have HCE := hide hCE
      clear r6 b6 nrd HCX HPR5 HQR5 HMR hCE
      go_wp2_with fail
      refine HC8.out.mono ?_
      rintro e w7 ⟨rfl, b7⟩
      have HB7 := hide (HB6.out.trans (b7.mono HB6.out.size))
      have HPR7 := hide (HPR6.out.below b7)
      have HQR7 := hide (HQR6.out.below b7)
      have HMR7 := hide (HMR6.out.below b7)
      have HNR7 := hide (HNR.out.below b7)
      have HC9 := hide (rclashes_any w7 la lc l (HLR.out.below HB7.out) HLL.out HLZ.out)
      rw [← HLN.out, ← HCE.out] at HC9
      clear b7 HC8 HPR6 HQR6 HMR6 HNR
      go_wp2_with fail
      refine HC9.out.mono ?_
      rintro e w8 ⟨rfl, b8⟩
      have HB8 := hide (HB7.out.trans (b8.mono HB7.out.size))
      have cv1 := (HPR7.out.below b8).conv 23 5 9 Try.underlying23 Try.underlying5 Try.underlying9 pc
      have cv2 := (HQR7.out.below b8).conv 23 5 9 Try.underlying23 Try.underlying5 Try.underlying9 qc
      rw [← HPN.out] at cv1 cv2
      have HCS := hide (sameCl_any ma mc OL na nc OL w8 (HMR7.out.below b8) (HNR7.out.below b8) (by have := HML.out; omega))
      rw [decide_eq_true rfl, ← HMN.out] at HCS
      have hsq : ((strOfNums PB).toList == (strOfNums PB).toList) = true := by simp
      generalize strOfNums PB = SB at cv1 cv2 hsq
      clear b8 HC9 HPR7 HQR7 HMR7 HNR7
      go_wp2_with fail
      refine HCS.out.mono ?_
      rintro e w9 ⟨rfl, b9⟩
      have HB9 := hide (HB8.out.trans (b9.mono HB8.out.size))
      clear b9 HCS
      go_wp2
      go_ret
      exact ⟨rfl, HB9.out⟩
end Go.Proofs.Ytjmjcmejneljgaa
