/- ConflictBack's walk. -/
import Derived.Test.YtjmjcmejneljgaaCOf
import Derived.Test.YtjmjcmejneljgaaCPu
import Derived.Test.YtjmjcmejneljgaaCLw
import Derived.Test.YtjmjcmejneljgaaCIn
namespace Apo
open Go Go.RowKit
theorem cap_of_row {k : IntKind} {w : World} {a : Option Addr} {len cap : Nat} {zs : List Int}
    (h : (a = none ∧ len = 0 ∧ cap = 0 ∧ zs = []) ∨
      ∃ x, a = some x ∧ len ≤ cap ∧ cap ≤ maxLen ∧ zs.length = cap ∧ (∀ i, i < zs.length → w.cell? (x.add i) = some (.int k (zs.getD i 0))) ∧ ∀ n ∈ zs, (Lit.int k n).wf = true) :
    len ≤ cap ∧ cap ≤ 9223372036854775807 := by
  rcases h with ⟨_, rfl, rfl, _⟩ | ⟨x, _, h1, h2, _⟩
  · exact ⟨Nat.le_refl _, by omega⟩
  · unfold maxLen at h2
    exact ⟨h1, by omega⟩
end Apo
namespace Go.Proofs.Ytjmjcmejneljgaa
open Go.RowKit Apo
theorem ofC_len (b : List Int) : (ofC b).1.length ≤ 1000 := by
  have := rawC_len b
  unfold ofC
  split
  · exact this
  · simp
theorem ofC_sz (b : List Int) : ClsSz (ofC b).1 := by
  unfold ofC
  split
  · exact rawC_sz b
  · intro c hc; simp at hc
open Classical in
set_option maxRecDepth 100000 in
set_option maxHeartbeats 8000000 in
theorem back13 (w : World) (x : ClA) (hx : OkClA w x) (a : Option Addr) (cap : Nat) (b : List Int) (hr : Rd .u8 w a b) (hn : a = none → cap = 0) (hb : InB b) (hbl : b.length ≤ 9223372036854775807) :
    Calls Try.prog 4 #[.slice x.a x.l.length x.c, .slice a b.length cap] w fun e w' => e = .returned (.bool true) ∧ Below w.heap.size w w' := by
  obtain ⟨la, lc, l⟩ := x
  obtain ⟨hrd, hsz, hlen, hbig, _⟩ := hx
  simp only at hrd hsz hlen hbig ⊢
  unfold maxLen at hbig
  have HCA := hide (awake13 w)
  have HLR := hide hrd
  have HLZ := hide hsz
  have HRD := hide hr
  have HNI := hide hn
  have HIB := hide hb
  obtain ⟨ln, hln⟩ : ∃ ln, ln = l.length := ⟨_, rfl⟩
  obtain ⟨bn, hbn⟩ : ∃ bn, bn = b.length := ⟨_, rfl⟩
  rw [← hln, ← hbn]
  have HLN := hide hln
  have HBN := hide hbn
  have hlm : ln ≤ 9223372036854775807 := by omega
  have hbm : bn ≤ 9223372036854775807 := by omega
  clear hrd hsz hr hn hb hln hbn hlen hbig hbl
  go_enter Try.func4, Try.ntmps4
  go_wp2_with fail
  refine HCA.out.mono ?_
  rintro e w1 ⟨rfl, b1⟩
  have HB1 := hide b1
  have HCL := hide (light13 w1 la lc l (HLR.out.below b1) (by have := HLN.out; omega) HLZ.out)
  rw [← HLN.out] at HCL
  clear b1 HCA
  cases hlt : lightC l with
  | false =>
    rw [hlt] at HCL
    clear hlt
    go_wp2_with fail
    refine HCL.out.mono ?_
    rintro e w2 ⟨rfl, b2⟩
    have HB2 := hide (HB1.out.trans (b2.mono HB1.out.size))
    clear b2 HCL
    go_wp2
    go_ret
    exact ⟨rfl, HB2.out⟩
  | true =>
    have hlo := lightC_ok hlt
    rw [hlt] at HCL
    have HLO := hide hlo
    have hl20 : ln ≤ 20 := by rw [HLN.out]; exact hlo.1
    clear hlt hlo
    by_cases hbig : 2000 < bn
    · have d1 : decide ((2000 : Int) < (bn : Int)) = true := by simp; omega
      have d2 : decide (2000 < bn) = true := by simp; omega
      clear hbig
      go_wp2_with fail
      refine HCL.out.mono ?_
      rintro e w2 ⟨rfl, b2⟩
      have HB2 := hide (HB1.out.trans (b2.mono HB1.out.size))
      clear b2 HCL
      go_wp2
      go_ret
      exact ⟨rfl, HB2.out⟩
    · have d1 : decide ((2000 : Int) < (bn : Int)) = false := by simp; omega
      have d2 : decide (2000 < bn) = false := by simp; omega
      have HBL : Hid (b.length ≤ 2000) := hide (by rw [← HBN.out]; omega)
      clear hbig
      go_wp2_with fail
      refine HCL.out.mono ?_
      rintro e w2 ⟨rfl, b2⟩
      have HB2 := hide (HB1.out.trans (b2.mono HB1.out.size))
      have HCP1 := hide (put_cls w2 la lc l (HLR.out.below HB2.out) (by have := HLN.out; omega) HLZ.out)
      rw [← HLN.out] at HCP1
      clear b2 HCL HB1
      go_wp2_with fail
      refine HCP1.out.mono ?_
      rintro e w3 ⟨v3, rfl, o3, b3⟩
      have HB3 := hide (HB2.out.trans (b3.mono HB2.out.size))
      obtain ⟨pa, pc, hp, _, hpn⟩ := own_form o3
      subst hp
      have HPR := hide (Rd.own o3).1
      have HPN := hide hpn
      have hcl := putC_small (l := l) HLO.out.1 HLO.out.2
      clear o3 b3 HCP1 hpn
      by_cases hp0 : (putC l).2 = 0
      · have HOP := hide (ofC_put hp0)
        have HPB := hide (putC_byte (l := l) (by rw [← HLN.out]; unfold top; omega))
        rw [hp0]
        have HCO1 := hide (of_cls w3 pa pc (putC l).1 HPR.out HPN.out HPB.out (by omega))
        obtain ⟨pn, hpn⟩ : ∃ pn, pn = (putC l).1.length := ⟨_, rfl⟩
        rw [← hpn] at HCO1 ⊢
        clear hp0 hpn hcl HPN HPR HPB
        go_wp2_with fail
        refine HCO1.out.mono ?_
        rintro e w4 ⟨v4, rfl, r4, b4⟩
        rw [HOP.out] at r4 ⊢
        simp only at r4 ⊢
        obtain ⟨ma, mc, hm, mrd, _⟩ := rd_gcells cCl_len r4
        subst hm
        have HB4 := hide (HB3.out.trans (b4.mono HB3.out.size))
        have HCS := hide (sameCl_any ma mc l la lc l w4 mrd (HLR.out.below HB4.out) (by have := HLN.out; omega))
        rw [decide_eq_true rfl] at HCS
        rw [← HLN.out] at HCS ⊢
        clear r4 b4 mrd HCO1 HOP HB3 HB2
        go_wp2_with fail
        refine HCS.out.mono ?_
        rintro e w5 ⟨rfl, b5⟩
        have HB5 := hide (HB4.out.trans (b5.mono HB4.out.size))
        clear b5 HCS HB4
        have HCO := hide (of_cls w5 a cap b (HRD.out.below HB5.out) HNI.out HIB.out (by have := HBL.out; omega))
        rw [← HBN.out] at HCO
        have hsk := HB5.out.size
        go_wp2_with fail
        refine HCO.out.mono ?_
        rintro e x1 ⟨y1, rfl, yr, yb⟩
        obtain ⟨ya, yc, hy, yrd, _⟩ := rd_gcells cCl_len yr
        subst hy
        have HBX := hide (HB5.out.trans (yb.mono hsk))
        have HYR := hide yrd
        clear yr yb yrd HCO
        by_cases hz : (ofC b).2 = 0
        · have HPO := hide (putC_of HIB.out hz)
          have hml : (ofC b).1.length ≤ 1000 := ofC_len b
          have HCP := hide (put_cls x1 ya yc (ofC b).1 HYR.out (by omega) (ofC_sz b))
          rw [hz]
          obtain ⟨mn, hmn⟩ : ∃ mn, mn = (ofC b).1.length := ⟨_, rfl⟩
          rw [← hmn] at HCP ⊢
          clear hz hmn hml HYR
          go_wp2_with fail
          refine HCP.out.mono ?_
          rintro e x2 ⟨y2, rfl, o2, b2⟩
          rw [HPO.out] at o2 ⊢
          simp only at o2 ⊢
          have hsx := HBX.out.size
          have HB2 := hide (HBX.out.trans (b2.mono hsx))
          obtain ⟨za, zc, hz, _, _⟩ := own_form o2
          subst hz
          have cv1 := (Rd.own o2).1.conv 23 5 9 Try.underlying23 Try.underlying5 Try.underlying9 zc
          have cv2 := (HRD.out.below HB2.out).conv 23 5 9 Try.underlying23 Try.underlying5 Try.underlying9 cap
          rw [← HBN.out] at cv1 cv2 ⊢
          have hsq : ((strOfNums b).toList == (strOfNums b).toList) = true := by simp
          generalize strOfNums b = SB at cv1 cv2 hsq
          clear o2 b2 HCP HBX
          go_wp2
          go_ret
          exact ⟨rfl, HB2.out⟩
        · have e0 := ofC_bad hz
          rw [e0]
          have dz : ((20 : Int) != 0) = true := by decide
          clear hz
          go_wp2
          go_ret
          exact ⟨rfl, HBX.out⟩
      · have hp1 : ((putC l).2 == 0) = false := by simpa using hp0
        generalize (putC l).2 = PE at hp1 ⊢
        generalize (putC l).1.length = pn
        clear hp0 HPN HPR hcl
        have HCO := hide (of_cls w3 a cap b (HRD.out.below HB3.out) HNI.out HIB.out (by have := HBL.out; omega))
        rw [← HBN.out] at HCO
        have hsk := HB3.out.size
        go_wp2_with fail
        refine HCO.out.mono ?_
        rintro e x1 ⟨y1, rfl, yr, yb⟩
        obtain ⟨ya, yc, hy, yrd, _⟩ := rd_gcells cCl_len yr
        subst hy
        have HBX := hide (HB3.out.trans (yb.mono hsk))
        have HYR := hide yrd
        clear yr yb yrd HCO
        by_cases hz : (ofC b).2 = 0
        · have HPO := hide (putC_of HIB.out hz)
          have hml : (ofC b).1.length ≤ 1000 := ofC_len b
          have HCP := hide (put_cls x1 ya yc (ofC b).1 HYR.out (by omega) (ofC_sz b))
          rw [hz]
          obtain ⟨mn, hmn⟩ : ∃ mn, mn = (ofC b).1.length := ⟨_, rfl⟩
          rw [← hmn] at HCP ⊢
          clear hz hmn hml HYR
          go_wp2_with fail
          refine HCP.out.mono ?_
          rintro e x2 ⟨y2, rfl, o2, b2⟩
          rw [HPO.out] at o2 ⊢
          simp only at o2 ⊢
          have hsx := HBX.out.size
          have HB2 := hide (HBX.out.trans (b2.mono hsx))
          obtain ⟨za, zc, hz, _, _⟩ := own_form o2
          subst hz
          have cv1 := (Rd.own o2).1.conv 23 5 9 Try.underlying23 Try.underlying5 Try.underlying9 zc
          have cv2 := (HRD.out.below HB2.out).conv 23 5 9 Try.underlying23 Try.underlying5 Try.underlying9 cap
          rw [← HBN.out] at cv1 cv2 ⊢
          have hsq : ((strOfNums b).toList == (strOfNums b).toList) = true := by simp
          generalize strOfNums b = SB at cv1 cv2 hsq
          clear o2 b2 HCP HBX
          go_wp2
          go_ret
          exact ⟨rfl, HB2.out⟩
        · have e0 := ofC_bad hz
          rw [e0]
          have dz : ((20 : Int) != 0) = true := by decide
          clear hz
          go_wp2
          go_ret
          exact ⟨rfl, HBX.out⟩
end Go.Proofs.Ytjmjcmejneljgaa
