/- ChunkOnce, over the translation. -/
import Derived.Test.YtegadgncggbeoaaGreatQHLw
import Derived.Test.YtegadgncggbeoaaGreatQPIn
namespace Go.Proofs.YtegadgncggbeoaaGreat
open Go.RowKit Apo
theorem need_small {n : Nat} (h : n ≤ 1000) : needP (n : Int) ≤ 9 := by
  unfold needP
  rw [if_neg (by omega)]
  split <;> omega
set_option maxRecDepth 100000 in
set_option maxHeartbeats 8000000 in
theorem honce_any (w : World) (a b : Tb) (ha : OkB w a) (hb : OkB w b) :
    Calls Tryz.prog 6 #[.slice a.a a.b.length a.c, .slice b.a b.b.length b.c] w fun e w' => e = .returned (.bool true) ∧ Below w.heap.size w w' := by
  obtain ⟨aa, ac, al⟩ := a
  obtain ⟨ba, bc, bl⟩ := b
  simp only
  have hA := hawake_any w
  obtain ⟨na, hna⟩ : ∃ na, na = al.length := ⟨_, rfl⟩
  obtain ⟨nb, hnb⟩ : ∃ nb, nb = bl.length := ⟨_, rfl⟩
  have HNA := hide hna
  have HNB := hide hnb
  have HHA := hide ha
  have HHB := hide hb
  have HAW := hide hA
  have hma : na ≤ maxLen := by rw [hna]; exact ha.big
  have hmb : nb ≤ maxLen := by rw [hnb]; exact hb.big
  rw [← hna, ← hnb]
  have hmL : maxLen ≤ 9223372036854775807 := by decide
  clear ha hb hA hna hnb
  by_cases hs : na ≤ 1000 ∧ nb ≤ 1000
  · have h8 : 8 ≤ lenOf 400 := by decide
    have ST := sto_new h8
    obtain ⟨alv, hC, hS, hN⟩ := newCs_st h8
    have HST := hide ST
    have HAL := hide alv
    have HC := hide hC
    have HS := hide hS
    have HN := hide hN
    have H8 := hide h8
    have hl : lenOf 400 = 400 := by decide
    have HLN := hide hl
    have hd1 : decide ((1000 : Int) < (na : Int)) = false := by simp; omega
    have hd2 : decide ((1000 : Int) < (nb : Int)) = false := by simp; omega
    clear ST alv hC hS hN h8 hl
    go_enter Tryz.func6, Tryz.ntmps6
    go_wp2_with fail
    refine HAW.out.mono ?_
    rintro e w1 ⟨rfl, b1⟩
    have HB1 := hide b1
    clear b1
    go_wp2_with fail
    refine (cnew_any 400 w1).mono ?_
    rintro e w2 ⟨d, rfl, k2, b2⟩
    have L2 : LwD w1 w2 d (newSd 400) (Fresh w1 w2) := ⟨k2, fun i q => q.1, fun i q => q.2, b2⟩
    have C3 := lopen_new L2 H8.out
    have HC3 := hide C3
    clear k2 b2 L2 C3
    go_wp2_with fail
    refine HC3.out.mono ?_
    rintro e w3 ⟨s, O3, rfl, L3⟩
    have oa : OkB w3 ⟨aa, ac, al⟩ := (HHA.out.below HB1.out).below L3.bel
    have C4 := lput L3 HST.out (by simp) (by rw [HN.out]; omega) (by rw [HC.out]; simp) aa ac al oa.rd oa.nil oa.len (by rw [← HNA.out]; omega) oa.byt (fun x hx hp q => by have := L3.lo _ q; subst hx; have h2 := Rd.lt (HHA.out.below HB1.out).rd hp; have h3 := h2; omega)
    rw [← HNA.out] at C4
    have HC4 := hide C4
    have HL3 := hide L3
    clear C4 L3 oa
    go_wp2_with fail
    refine HC4.out.mono ?_
    rintro e w4 ⟨id4, er4, S4, O4, rfl, p4, L4, _, _⟩
    have H4 : Hid (id4 = 1 ∧ er4 = 0 ∧ ∃ c m, Sto (newSd 400).format.2.S ⟨1, 0, 0, 0⟩ S4 [] [(1, c, al)] m ∧ m ≤ 10 ∧ Alive S4.st ∧ S4.next = 2 ∧ S4.st.S.length = 400 ∧ S4.st.C.length ≤ 10000) := by
      refine hide ?_
      have hn1 := need_small (n := al.length) (by rw [← HNA.out]; omega)
      rcases HST.out.put (b := al) HAL.out HHA.out.byt (by rw [← HNA.out]; omega) (by rw [HN.out]; omega) p4 with ⟨x, hx, _⟩ | ⟨_, ⟨_, _, q⟩ | ⟨q1, q2, c, m', q3, q4, q5, q6, q7, _, _, _, q8⟩⟩
      · simp at hx
      · rw [HS.out, HLN.out] at q; omega
      · rw [HN.out] at q2 q3 q6
        rw [HC.out] at q8
        exact ⟨q2, q1, c, m', q3, by omega, q5, q6, by rw [q7, HS.out, HLN.out], by simp at q8; omega⟩
    obtain ⟨rfl, rfl, c1, m1, ST4, hm4, al4, nx4, sl4, cl4⟩ := H4.out
    have HST4 := hide ST4
    have HAL4 := hide al4
    have HX4 := hide (And.intro hm4 (And.intro nx4 (And.intro sl4 cl4)))
    clear ST4 al4 nx4 sl4 cl4 hm4 p4
    have ob : OkB w4 ⟨ba, bc, bl⟩ := (HHB.out.below HB1.out).below L4.bel
    have C5 := lput L4 HST4.out (by simp) (by rw [HX4.out.2.1]; omega) (by have := HX4.out.2.2.2; omega) ba bc bl ob.rd ob.nil ob.len (by rw [← HNB.out]; omega) ob.byt (fun x hx hp q => by have := L4.lo _ q; subst hx; have h2 := Rd.lt (HHB.out.below HB1.out).rd hp; have h3 := h2; omega)
    rw [← HNB.out] at C5
    have HC5 := hide C5
    have HL4 := hide L4
    clear C5 L4 ob
    go_wp2_with fail
    refine HC5.out.mono ?_
    rintro e w5 ⟨id5, er5, S5, O5, rfl, p5, L5, _, _⟩
    have H5 : Hid (er5 = 0 ∧ ((1 : Int) == (id5 : Int)) = decide (al = bl)) := by
      refine hide ?_
      obtain ⟨x0, x1, x2, x3⟩ := HX4.out
      have hn1 := need_small (n := bl.length) (by rw [← HNB.out]; omega)
      rcases HST4.out.put (b := bl) HAL4.out HHB.out.byt (by rw [← HNB.out]; omega) (by rw [x1]; omega) p5 with ⟨x, hx, hx2, h3, h4, _⟩ | ⟨hno, ⟨_, _, q⟩ | ⟨q1, q2, _⟩⟩
      · simp at hx
        subst hx
        refine ⟨h4, ?_⟩
        simp only at hx2 h3
        rw [h3, hx2]
        simp
      · rw [x2] at q; omega
      · refine ⟨q1, ?_⟩
        have : ¬ al = bl := hno (1, c1, al) (by simp)
        rw [q2, x1]
        simp [this]
    obtain ⟨rfl, hq⟩ := H5.out
    have oa : OkB w5 ⟨aa, ac, al⟩ := (HHA.out.below HB1.out).below L5.bel
    have ob : OkB w5 ⟨ba, bc, bl⟩ := (HHB.out.below HB1.out).below L5.bel
    have cv1 := oa.rd.conv (P := Tryz.prog) 34 5 9 Tryz.underlying34 Tryz.underlying5 Tryz.underlying9 ac
    have cv2 := ob.rd.conv (P := Tryz.prog) 34 5 9 Tryz.underlying34 Tryz.underlying5 Tryz.underlying9 bc
    simp only at cv1 cv2
    rw [← HNA.out] at cv1
    rw [← HNB.out] at cv2
    have heq : ((strOfNums al).toList == (strOfNums bl).toList) = decide (al = bl) := by
      by_cases h : al = bl
      · simp [h]
      · have : ¬ (strOfNums al).toList = (strOfNums bl).toList := fun e => h (str_inj HHA.out.byt HHB.out.byt e)
        simp [h, this]
    have HBF := hide (HB1.out.trans (L5.bel.mono HB1.out.size))
    clear L5 p5 oa ob
    cases hd : decide (al = bl)
    all_goals
      rw [hd] at hq heq
      clear hd
      go_wp2
      go_ret
      exact ⟨rfl, HBF.out⟩
  · have hd : decide ((1000 : Int) < (na : Int)) = true ∨ (decide ((1000 : Int) < (na : Int)) = false ∧ decide ((1000 : Int) < (nb : Int)) = true) := by
      by_cases q : 1000 < na
      · left; simp; omega
      · right
        constructor
        · simp; omega
        · simp; omega
    clear hs
    rcases hd with hd | ⟨hd, hd2⟩
    all_goals
      go_enter Tryz.func6, Tryz.ntmps6
      go_wp2_with fail
      refine HAW.out.mono ?_
      rintro e w1 ⟨rfl, b1⟩
      have HB1 := hide b1
      clear b1
      go_wp2
      go_ret
      exact ⟨rfl, HB1.out⟩
end Go.Proofs.YtegadgncggbeoaaGreat
