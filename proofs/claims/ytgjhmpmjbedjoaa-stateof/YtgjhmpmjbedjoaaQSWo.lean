/- StateOf's walk. Over the translation. (Written by tools/gen17.py's rows.) -/
import Derived.Test.YtgjhmpmjbedjoaaQSCo
namespace Apo
open Go Go.RowKit
theorem cap_of_row {k : IntKind} {w : World} {a : Option Addr} {len cap : Nat} {zs : List Int}
    (h : (a = none ∧ len = 0 ∧ cap = 0 ∧ zs = []) ∨
      ∃ x, a = some x ∧ len ≤ cap ∧ cap ≤ maxLen ∧ zs.length = cap ∧ (∀ i, i < zs.length → w.cell? (x.add i) = some (.int k (zs.getD i 0))) ∧ ∀ n ∈ zs, (Lit.int k n).wf = true) :
    len ≤ cap ∧ cap ≤ 9223372036854775807 := by
  rcases h with ⟨_, rfl, rfl, _⟩ | ⟨x, _, h1, h2, _⟩
  · exact ⟨Nat.le_refl _, by omega⟩
  · unfold maxLen at h2
    exact ⟨h1, by omega⟩
end Apo
namespace Go.Proofs.Ytgjhmpmjbedjoaa
open Go.RowKit Apo
open Classical in
set_option maxRecDepth 100000 in
set_option maxHeartbeats 8000000 in
theorem of17 (D : StDo) (w : World) (a : Option Addr) (cap : Nat) (b : List Int) (hr : Rd .u8 w a b) (hcap : b.length ≤ cap) (hn : a = none → cap = 0) (hb : InB b) (hbl : b.length ≤ 9223372036854775807) :
    Calls Try.prog 4 #[.slice a b.length cap] w fun e w' => e = .returned (.bool true) ∧ Below w.heap.size w w' := by
  have HCA := hide (awake17 D w)
  have HD := hide D
  have HRD := hide hr
  have HCAP := hide hcap
  have HNI := hide hn
  have HIB := hide hb
  obtain ⟨bn, hbn⟩ : ∃ bn, bn = b.length := ⟨_, rfl⟩
  rw [← hbn] at hbl ⊢
  have HBN := hide hbn
  clear D hr hcap hn hb hbn
  go_enter Try.func4, Try.ntmps4
  go_wp2_with fail
  refine HCA.out.mono ?_
  rintro e w1 ⟨rfl, b1⟩
  have HB1 := hide b1
  clear b1 HCA
  by_cases hbig : 3000 < bn
  · have d1 : decide ((3000 : Int) < (bn : Int)) = true := by simp; omega
    have d2 : decide (3000 < bn) = true := by simp; omega
    clear hbig
    go_wp2
    go_ret
    exact ⟨rfl, HB1.out⟩
  · have d1 : decide ((3000 : Int) < (bn : Int)) = false := by simp; omega
    have d2 : decide (3000 < bn) = false := by simp; omega
    have HBL : Hid (b.length ≤ 3000) := hide (by rw [← HBN.out]; omega)
    have HO := hide (HD.out.of a cap b w1 (HRD.out.below HB1.out) HCAP.out HNI.out HIB.out (by have := HBL.out; omega))
    rw [← HBN.out] at HO
    clear hbig
    go_wp2_with fail
    refine HO.out.mono ?_
    rintro e w2 ⟨⟨⟨hd, wk, nx, pd, rf, ml, cl⟩, ra, rc, ma, mc, ca, cc⟩, rfl, hy, hr, b2⟩
    have HB2 := hide (HB1.out.trans (b2.mono HB1.out.size))
    obtain ⟨OE, hOE⟩ : ∃ OE, OE = (ofS b).2 := ⟨_, rfl⟩
    have HOE := hide hOE
    rw [← hOE]
    obtain ⟨nr, hnr⟩ : ∃ nr, nr = rf.length := ⟨_, rfl⟩
    obtain ⟨nm, hnm⟩ : ∃ nm, nm = ml.length := ⟨_, rfl⟩
    obtain ⟨nc, hnc⟩ : ∃ nc, nc = cl.length := ⟨_, rfl⟩
    have HQ : Hid (Value.agg (cSv ⟨⟨hd, wk, nx, pd, rf, ml, cl⟩, ra, rc, ma, mc, ca, cc⟩).toArray = .agg #[.string hd, .int .u64 wk, .int .u64 nx, .int .u64 pd, .slice ra nr rc, .slice ma nm mc, .slice ca nc cc]) := hide (by rw [hnr, hnm, hnc]; rfl)
    have HZ : Hid (∀ rb rd mb md cb cd, cSv ⟨⟨hd, wk, nx, pd, rf, ml, cl⟩, rb, rd, mb, md, cb, cd⟩ = [.string hd, .int .u64 wk, .int .u64 nx, .int .u64 pd, .slice rb nr rd, .slice mb nm md, .slice cb nc cd]) := hide (fun rb rd mb md cb cd => by rw [hnr, hnm, hnc]; rfl)
    rw [show cSv ⟨⟨hd, wk, nx, pd, rf, ml, cl⟩, ra, rc, ma, mc, ca, cc⟩ = [.string hd, .int .u64 wk, .int .u64 nx, .int .u64 pd, .slice ra nr rc, .slice ma nm mc, .slice ca nc cc] by rw [hnr, hnm, hnc]; rfl]
    have HY := hide hr
    have HYE := hide hy
    obtain ⟨W3, hW3⟩ : ∃ W3, W3 = w2.alloc (.cells #[.string hd, .int .u64 wk, .int .u64 nx, .int .u64 pd, .slice ra nr rc, .slice ma nm mc, .slice ca nc cc] 27) := ⟨_, rfl⟩
    have b3 : Below w2.heap.size w2 W3 := by rw [hW3]; exact (Below.refl _ _).alloc (Nat.le_refl _) _
    have HK3 := hide (show Ob W3 w2.heap.size 27 [.string hd, .int .u64 wk, .int .u64 nx, .int .u64 pd, .slice ra nr rc, .slice ma nm mc, .slice ca nc cc] by rw [hW3]; exact Ob.new w2 [.string hd, .int .u64 wk, .int .u64 nx, .int .u64 pd, .slice ra nr rc, .slice ma nm mc, .slice ca nc cc] _)
    have HB3 := hide (HB2.out.trans (b3.mono HB2.out.size))
    have HY3 := hide (HY.out.below b3)
    have HX := hide (rof_state a cap b W3 (HRD.out.below HB3.out) HCAP.out HNI.out HIB.out (by have := HBL.out; omega))
    rw [← HBN.out] at HX
    rw [hW3] at HX
    have HW3 := hide hW3
    clear hr hy b2 b3 hW3 hOE hnr hnm hnc HO HB1 HY HB2
    go_wp2_with fail
    refine HX.out.mono ?_
    rintro e w4 ⟨⟨s2, rb, rd, mb, md, cb, cd⟩, rfl, hy2, hr2, b4⟩
    rw [← HYE.out] at hy2
    simp only at hy2
    subst hy2
    rw [HZ.out rb rd mb md cb cd, ← HOE.out]
    have HQ2 : Hid (Value.agg (cSv ⟨⟨hd, wk, nx, pd, rf, ml, cl⟩, rb, rd, mb, md, cb, cd⟩).toArray = .agg #[.string hd, .int .u64 wk, .int .u64 nx, .int .u64 pd, .slice rb nr rd, .slice mb nm md, .slice cb nc cd]) := hide (by rw [HZ.out rb rd mb md cb cd])
    rw [← HW3.out] at b4
    have HB4 := hide (HB3.out.trans (b4.mono HB3.out.size))
    have HK4 := hide (HK3.out.old b4)
    obtain ⟨W5, hW5⟩ : ∃ W5, W5 = w4.alloc (.cells #[.string hd, .int .u64 wk, .int .u64 nx, .int .u64 pd, .slice rb nr rd, .slice mb nm md, .slice cb nc cd] 27) := ⟨_, rfl⟩
    have b5 : Below w4.heap.size w4 W5 := by rw [hW5]; exact (Below.refl _ _).alloc (Nat.le_refl _) _
    have HK5 := hide (HK4.out.old b5)
    have HT5 := hide (show Ob W5 w4.heap.size 27 [.string hd, .int .u64 wk, .int .u64 nx, .int .u64 pd, .slice rb nr rd, .slice mb nm md, .slice cb nc cd] by rw [hW5]; exact Ob.new w4 [.string hd, .int .u64 wk, .int .u64 nx, .int .u64 pd, .slice rb nr rd, .slice mb nm md, .slice cb nc cd] _)
    have HB5 := hide (HB4.out.trans (b5.mono HB4.out.size))
    have HY5 := hide ((HY3.out.below b4).below b5)
    have HR5 := hide (SvR.below hr2 b5)
    have HS := hide (rsame_state _ _ W5 HY5.out HR5.out)
    rw [decide_eq_true (show (⟨⟨hd, wk, nx, pd, rf, ml, cl⟩, ra, rc, ma, mc, ca, cc⟩ : SvA).s = (⟨⟨hd, wk, nx, pd, rf, ml, cl⟩, rb, rd, mb, md, cb, cd⟩ : SvA).s from rfl), HQ.out, HQ2.out] at HS
    have c0 := HK5.out.cell 0
    have c1 := HK5.out.cell 1
    have c2 := HK5.out.cell 2
    have c3 := HK5.out.cell 3
    have c4 := HK5.out.cell 4
    have c5 := HK5.out.cell 5
    have c6 := HK5.out.cell 6
    simp only [List.getElem?_cons_succ, List.getElem?_cons_zero] at c0 c1 c2 c3 c4 c5 c6
    have d0 := HT5.out.cell 0
    have d1 := HT5.out.cell 1
    have d2 := HT5.out.cell 2
    have d3 := HT5.out.cell 3
    have d4 := HT5.out.cell 4
    have d5 := HT5.out.cell 5
    have d6 := HT5.out.cell 6
    simp only [List.getElem?_cons_succ, List.getElem?_cons_zero] at d0 d1 d2 d3 d4 d5 d6
    rw [hW5] at HS c0 c1 c2 c3 c4 c5 c6 d0 d1 d2 d3 d4 d5 d6
    have HW5 := hide hW5
    clear hr2 b4 b5 HX HB3 HB4 hW5 HK4 HK3 HY3 HW3
    go_wp2_with fail
    refine HS.out.mono ?_
    rintro e w6 ⟨rfl, b6⟩
    rw [← HW5.out] at b6
    have HB6 := hide (HB5.out.trans (b6.mono HB5.out.size))
    have HK6 := hide (HK5.out.old b6)
    have HY6 := hide (HY5.out.below b6)
    clear b6 HS HW5 HB5 HK5 HT5 HY5 HR5 c0 c1 c2 c3 c4 c5 c6 d0 d1 d2 d3 d4 d5 d6
    have c0 := HK6.out.cell 0
    have c1 := HK6.out.cell 1
    have c2 := HK6.out.cell 2
    have c3 := HK6.out.cell 3
    have c4 := HK6.out.cell 4
    have c5 := HK6.out.cell 5
    have c6 := HK6.out.cell 6
    simp only [List.getElem?_cons_succ, List.getElem?_cons_zero] at c0 c1 c2 c3 c4 c5 c6
    by_cases hz : OE = 0
    · have HCL := ofS_few b
      rw [← HYE.out] at HCL
      have HPO := hide (putS_of HIB.out (by rw [← HOE.out]; exact hz))
      rw [← HYE.out] at HPO
      have HP := hide (HD.out.put _ w6 HY6.out (by simp only at HCL ⊢; omega))
      rw [HQ.out] at HP
      rw [hz]
      clear hz HCL
      go_wp2_with fail
      refine HP.out.mono ?_
      rintro e w7 ⟨v, rfl, r7, b7⟩
      rw [HPO.out] at r7 ⊢
      simp only at r7 ⊢
      have HB7 := hide (HB6.out.trans (b7.mono HB6.out.size))
      unfold RwB at r7
      obtain ⟨qa, qc, hq, hqc, hqn⟩ := own_form r7.1
      subst hq
      have cv1 := (Rd.own r7.1).1.conv 30 5 9 Try.underlying30 Try.underlying5 Try.underlying9 qc
      have cv2 := (HRD.out.below HB7.out).conv 30 5 9 Try.underlying30 Try.underlying5 Try.underlying9 cap
      rw [← HBN.out] at cv1 cv2 ⊢
      have hsq : ((strOfNums b).toList == (strOfNums b).toList) = true := by simp
      generalize strOfNums b = SB at cv1 cv2 hsq
      clear r7 b7 hqc hqn HP HB6 HK6 c0 c1 c2 c3 c4 c5 c6
      go_wp2
      go_ret
      exact ⟨rfl, HB7.out⟩
    · have dz : (OE != 0) = true := by simpa using hz
      clear hz
      go_wp2
      go_ret
      exact ⟨rfl, HB6.out⟩
end Go.Proofs.Ytgjhmpmjbedjoaa
