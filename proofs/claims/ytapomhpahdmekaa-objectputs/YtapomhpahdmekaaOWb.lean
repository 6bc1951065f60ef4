/- ObjectBack's walk. -/
import Derived.Test.YtapomhpahdmekaaOAm
import Derived.Test.YtapomhpahdmekaaOOf
namespace Go.Proofs.Ytapomhpahdmekaa
open Go.RowKit Apo
theorem ofM_sz (b : List Int) : (ofM b).1.Sz := by
  unfold ofM
  split
  · exact rawM_sz b
  · unfold Cm.Sz zeroCm
    simp
theorem ofM_bad {b : List Int} (h : ¬ (ofM b).2 = 0) : (ofM b).2 = 20 := by
  unfold ofM at h ⊢
  split
  · rename_i q; rw [if_pos q] at h; exact absurd rfl h
  · rfl
set_option maxRecDepth 100000 in
set_option maxHeartbeats 8000000 in
theorem back14 (w : World) (x : CmA) (hx : CmR w x.c x.a x.cap) (ba : Option Addr) (bc : Nat) (b : List Int) (hr : Rd .u8 w ba b) (hn : ba = none → bc = 0) (hb : InB b) (hbl : b.length ≤ 9223372036854775807) :
    Calls Try.prog 4 #[cmV x.c.id x.a x.c.ps.length x.cap x.c.gen x.c.root x.c.tx, .slice ba b.length bc] w fun e w' => e = .returned (.bool true) ∧ Below w.heap.size w w' := by
  obtain ⟨c, a, cap⟩ := x
  simp only at hx ⊢
  obtain ⟨W0, hW0⟩ : ∃ W0, W0 = w.alloc (.cells #[.int .u64 c.id, .slice a c.ps.length cap, .int .u64 c.gen, .int .u64 c.root, .string c.tx] 25) := ⟨_, rfl⟩
  have bb : Below w.heap.size w W0 := by rw [hW0]; exact (Below.refl w.heap.size w).alloc (Nat.le_refl _) _
  have HA0 : Hid (Am w W0 w.heap.size c a cap) := hide ⟨bb, by rw [hW0]; exact Ob.new w [.int .u64 c.id, .slice a c.ps.length cap, .int .u64 c.gen, .int .u64 c.root, .string c.tx] _, hx⟩
  have HCA := hide (awake14 W0)
  rw [hW0] at HCA
  have HRD := hide hr
  have HNI := hide hn
  have HIB := hide hb
  obtain ⟨bn, hbn⟩ : ∃ bn, bn = b.length := ⟨_, rfl⟩
  rw [← hbn]
  have HBN := hide hbn
  have hbm : bn ≤ 9223372036854775807 := by omega
  clear hx bb hr hn hb hbn hbl
  go_enter Try.func4, Try.ntmps4
  go_wp2_with fail
  refine HCA.out.mono ?_
  rintro e w1 ⟨rfl, b1⟩
  rw [← hW0] at b1
  have HA1 := hide (HA0.out.old b1)
  have HCL := hide (light14 c a cap w1 HA1.out.cm)
  obtain ⟨x0, x1, x2, x3, x4⟩ := HA1.out.cells
  clear b1 HCA HA0 hW0
  cases hlc : lightM c with
  | false =>
    rw [hlc] at HCL
    clear hlc
    go_wp2_with fail
    refine HCL.out.mono ?_
    rintro e w2 ⟨rfl, b2⟩
    have HA2 := hide (HA1.out.old b2)
    clear b2
    go_wp2
    go_ret
    exact ⟨rfl, HA2.out.b⟩
  | true =>
    rw [hlc] at HCL
    have HLC := hide (lightM_ok hlc)
    clear hlc
    by_cases hbig : 300 < bn
    · have d1 : decide ((300 : Int) < (bn : Int)) = true := by simp; omega
      have d2 : decide (300 < bn) = true := by simp; omega
      clear hbig
      go_wp2_with fail
      refine HCL.out.mono ?_
      rintro e w2 ⟨rfl, b2⟩
      have HA2 := hide (HA1.out.old b2)
      clear b2
      go_wp2
      go_ret
      exact ⟨rfl, HA2.out.b⟩
    · have d1 : decide ((300 : Int) < (bn : Int)) = false := by simp; omega
      have d2 : decide (300 < bn) = false := by simp; omega
      have HBL : Hid (b.length ≤ 300) := hide (by rw [← HBN.out]; omega)
      clear hbig
      go_wp2_with fail
      refine HCL.out.mono ?_
      rintro e w2 ⟨rfl, b2⟩
      have HA2 := hide (HA1.out.old b2)
      have HCP := hide (put14 c a cap w2 HA2.out.cm)
      clear b2 x0 x1 x2 x3 x4 HA1 HCL
      obtain ⟨x0, x1, x2, x3, x4⟩ := HA2.out.cells
      go_wp2_with fail
      refine HCP.out.mono ?_
      rintro e w3 ⟨v3, rfl, o3, b3⟩
      have HA3 := hide (HA2.out.old b3)
      obtain ⟨ga, gn, gc, rfl, hgn, gr, gni, gcl⟩ := Bt.own o3
      by_cases he : (putM c).2 = 0
      · have HOF := hide (ofM_put HA3.out.r.sz he)
        have HP1 : Hid ((putM c).1 = cmB c ∧ cmE c = 0) := hide (by
          unfold putM at he ⊢
          split at he
          · rename_i q; exact absurd he q
          · rename_i q; rw [if_neg q]; exact ⟨rfl, Decidable.not_not.1 q⟩)
        have hcl : (cmB c).length ≤ 1000 := by
          obtain ⟨_, h2, h3⟩ := cmE_ok HP1.out.2
          have h4 := txtOk_size h3
          have h5 := psB_len c.ps
          have e1 := enc_len c.id.toNat
          have e2 := enc_len c.ps.length
          have e3 := enc_len c.gen.toNat
          have e4 := enc_len c.root.toNat
          have e5 := enc_len c.tx.size
          have e6 := nums_length c.tx
          unfold cmB
          simp only [List.length_append]
          omega
        have HCO := hide (of14 ga gc (putM c).1 w3 gr gni (by rw [HP1.out.1]; exact cmB_inB HA3.out.r.sz HP1.out.2) (by rw [HP1.out.1]; omega))
        rw [← hgn] at HCO
        rw [he]
        clear he b3 o3 gr hgn gni gcl x0 x1 x2 x3 x4 HA2 HCP hcl
        go_wp2_with fail
        refine HCO.out.mono ?_
        rintro e w4 ⟨ma, mc, rfl, mr, b4⟩
        rw [HOF.out] at mr ⊢
        simp only at mr ⊢
        have bm : Below w4.heap.size w4 (w4.alloc (.cells #[.int .u64 c.id, .slice ma c.ps.length mc, .int .u64 c.gen, .int .u64 c.root, .string c.tx] 25)) := (Below.refl _ _).alloc (Nat.le_refl _) _
        obtain ⟨W5, hW5⟩ : ∃ W5, W5 = w4.alloc (.cells #[.int .u64 c.id, .slice ma c.ps.length mc, .int .u64 c.gen, .int .u64 c.root, .string c.tx] 25) := ⟨_, rfl⟩
        rw [← hW5] at bm
        have HM5 : Hid (Am w4 W5 w4.heap.size c ma mc) := hide ⟨bm, by rw [hW5]; exact Ob.new w4 [.int .u64 c.id, .slice ma c.ps.length mc, .int .u64 c.gen, .int .u64 c.root, .string c.tx] _, mr⟩
        have HA5 := hide ((HA3.out.old b4).old bm)
        have HCS := hide (same14 c c ma a mc cap W5 HM5.out.cm.rd HA5.out.cm.rd (by have := HLC.out; omega))
        rw [sameCm_refl] at HCS
        obtain ⟨x0, x1, x2, x3, x4⟩ := HA5.out.cells
        rw [hW5] at HCS x0 x1 x2 x3 x4
        clear mr bm b4 HA3 HCO HOF HP1
        go_wp2_with fail
        refine HCS.out.mono ?_
        rintro e w5 ⟨rfl, b5⟩
        rw [← hW5] at b5
        have HM6 := hide (HM5.out.old b5)
        have HA6 := hide (HA5.out.old b5)
        have HCT := hide (rsame14 c c ma a mc cap w5 HM6.out.cm.rd HA6.out.cm.rd (by have := HLC.out; omega))
        rw [sameCm_refl] at HCT
        clear x0 x1 x2 x3 x4 HCS HM5 HA5 b5 hW5
        obtain ⟨x0, x1, x2, x3, x4⟩ := HA6.out.cells
        obtain ⟨y0, y1, y2, y3, y4⟩ := HM6.out.cells
        go_wp2_with fail
        refine HCT.out.mono ?_
        rintro e w6 ⟨rfl, b6⟩
        have HW := hide (HA6.out.old b6)
        clear x0 x1 x2 x3 x4 y0 y1 y2 y3 y4 HCT HM6 HA6 b6
        have HCO2 := hide (of14 ba bc b w6 (HRD.out.below HW.out.b) HNI.out HIB.out (by have := HBL.out; omega))
        rw [← HBN.out] at HCO2
        go_wp2_with fail
        refine HCO2.out.mono ?_
        rintro e w7 ⟨na, nc, rfl, nr, b7⟩
        have HA7 := hide (HW.out.old b7)
        clear b7 HCO2 HW
        by_cases hz : (ofM b).2 = 0
        · have HPO := hide (putM_of HIB.out hz)
          rw [hz]
          clear hz
          obtain ⟨m, hm⟩ : ∃ m, m = (ofM b).1 := ⟨_, rfl⟩
          rw [← hm] at HPO nr ⊢
          clear hm
          have bm : Below w7.heap.size w7 (w7.alloc (.cells #[.int .u64 m.id, .slice na m.ps.length nc, .int .u64 m.gen, .int .u64 m.root, .string m.tx] 25)) := (Below.refl _ _).alloc (Nat.le_refl _) _
          have HM8 : Hid (Am w7 (w7.alloc (.cells #[.int .u64 m.id, .slice na m.ps.length nc, .int .u64 m.gen, .int .u64 m.root, .string m.tx] 25)) w7.heap.size m na nc) := hide ⟨bm, Ob.new w7 [.int .u64 m.id, .slice na m.ps.length nc, .int .u64 m.gen, .int .u64 m.root, .string m.tx] _, nr⟩
          have HA8 := hide (HA7.out.old bm)
          have HCP2 := hide (put14 m na nc _ HM8.out.cm)
          clear nr bm HA7
          go_wp2_with fail
          refine HCP2.out.mono ?_
          rintro e w9 ⟨v9, rfl, o9, b9⟩
          have HA9 := hide (HA8.out.old b9)
          obtain ⟨ka, kn, kc, rfl, hkn, kr, _, _⟩ := Bt.own o9
          rw [HPO.out] at kr hkn ⊢
          simp only at kr hkn ⊢
          have cv1 := kr.conv 26 5 9 Try.underlying26 Try.underlying5 Try.underlying9 kc
          have cv2 := (HRD.out.below HA9.out.b).conv 26 5 9 Try.underlying26 Try.underlying5 Try.underlying9 bc
          rw [← hkn] at cv1
          rw [← HBN.out] at cv2
          have hsq : ((strOfNums b).toList == (strOfNums b).toList) = true := by simp
          generalize strOfNums b = SB at cv1 cv2 hsq
          clear b9 o9 kr hkn HCP2 HM8 HA8 HPO
          go_wp2
          go_ret
          exact ⟨rfl, HA9.out.b⟩
        · rw [ofM_bad hz]
          clear hz nr
          go_wp2
          go_ret
          exact ⟨rfl, (HA7.out.old ((Below.refl _ _).alloc (Nat.le_refl _) _)).b⟩
      · have d3 : ((putM c).2 == 0) = false := by simpa using he
        generalize (putM c).2 = E at d3 ⊢
        have HW := HA3
        clear he b3 o3 gr hgn gni gcl x0 x1 x2 x3 x4 HA2 HCP
        have HCO2 := hide (of14 ba bc b w3 (HRD.out.below HW.out.b) HNI.out HIB.out (by have := HBL.out; omega))
        rw [← HBN.out] at HCO2
        go_wp2_with fail
        refine HCO2.out.mono ?_
        rintro e w7 ⟨na, nc, rfl, nr, b7⟩
        have HA7 := hide (HW.out.old b7)
        clear b7 HCO2 HW
        by_cases hz : (ofM b).2 = 0
        · have HPO := hide (putM_of HIB.out hz)
          rw [hz]
          clear hz
          obtain ⟨m, hm⟩ : ∃ m, m = (ofM b).1 := ⟨_, rfl⟩
          rw [← hm] at HPO nr ⊢
          clear hm
          have bm : Below w7.heap.size w7 (w7.alloc (.cells #[.int .u64 m.id, .slice na m.ps.length nc, .int .u64 m.gen, .int .u64 m.root, .string m.tx] 25)) := (Below.refl _ _).alloc (Nat.le_refl _) _
          have HM8 : Hid (Am w7 (w7.alloc (.cells #[.int .u64 m.id, .slice na m.ps.length nc, .int .u64 m.gen, .int .u64 m.root, .string m.tx] 25)) w7.heap.size m na nc) := hide ⟨bm, Ob.new w7 [.int .u64 m.id, .slice na m.ps.length nc, .int .u64 m.gen, .int .u64 m.root, .string m.tx] _, nr⟩
          have HA8 := hide (HA7.out.old bm)
          have HCP2 := hide (put14 m na nc _ HM8.out.cm)
          clear nr bm HA7
          go_wp2_with fail
          refine HCP2.out.mono ?_
          rintro e w9 ⟨v9, rfl, o9, b9⟩
          have HA9 := hide (HA8.out.old b9)
          obtain ⟨ka, kn, kc, rfl, hkn, kr, _, _⟩ := Bt.own o9
          rw [HPO.out] at kr hkn ⊢
          simp only at kr hkn ⊢
          have cv1 := kr.conv 26 5 9 Try.underlying26 Try.underlying5 Try.underlying9 kc
          have cv2 := (HRD.out.below HA9.out.b).conv 26 5 9 Try.underlying26 Try.underlying5 Try.underlying9 bc
          rw [← hkn] at cv1
          rw [← HBN.out] at cv2
          have hsq : ((strOfNums b).toList == (strOfNums b).toList) = true := by simp
          generalize strOfNums b = SB at cv1 cv2 hsq
          clear b9 o9 kr hkn HCP2 HM8 HA8 HPO
          go_wp2
          go_ret
          exact ⟨rfl, HA9.out.b⟩
        · rw [ofM_bad hz]
          clear hz nr
          go_wp2
          go_ret
          exact ⟨rfl, (HA7.out.old ((Below.refl _ _).alloc (Nat.le_refl _) _)).b⟩
end Go.Proofs.Ytapomhpahdmekaa
