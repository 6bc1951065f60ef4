/- ObjectPuts' walk. -/
import Derived.Test.YtapomhpahdmekaaOWb
import Derived.Test.YtapomhpahdmekaaOPv
import Derived.Test.YtapomhpahdmekaaOXo
namespace Go.Proofs.Ytapomhpahdmekaa
open Go.RowKit Apo
theorem ofM_ps (b : List Int) : (ofM b).1.ps.length ≤ 2 := by
  unfold ofM
  split
  · rename_i q; exact (cmE_ok q.2).2.1
  · simp [zeroCm]
theorem Bt.rwb {W : World} {B : Nat} {v : Value} {l : List Int} (h : RwB B W v l) : Bt W v l := Bt.own h.1
set_option maxRecDepth 100000 in
set_option maxHeartbeats 8000000 in
theorem puts14 (w : World) (x y : CmA) (hx : CmR w x.c x.a x.cap) (hy : CmR w y.c y.a y.cap) (ba : Option Addr) (bc : Nat) (b : List Int) (hr : Rd .u8 w ba b) (hcap : b.length ≤ bc) (hn : ba = none → bc = 0) (hb : InB b) (hbl : b.length ≤ 9223372036854775807) (s : ByteArray) (hs : s.size ≤ 9223372036854775807) :
    Calls Try.prog 3 #[cmV x.c.id x.a x.c.ps.length x.cap x.c.gen x.c.root x.c.tx, cmV y.c.id y.a y.c.ps.length y.cap y.c.gen y.c.root y.c.tx, .slice ba b.length bc, .string s] w fun e w' => e = .returned (.bool true) ∧ Below w.heap.size w w' := by
  obtain ⟨c, a, cap⟩ := x
  obtain ⟨d, a', cap'⟩ := y
  simp only at hx hy ⊢
  obtain ⟨W0, hW0⟩ : ∃ W0, W0 = (w.alloc (.cells #[.int .u64 c.id, .slice a c.ps.length cap, .int .u64 c.gen, .int .u64 c.root, .string c.tx] 25)).alloc (.cells #[.int .u64 d.id, .slice a' d.ps.length cap', .int .u64 d.gen, .int .u64 d.root, .string d.tx] 25) := ⟨_, rfl⟩
  have bb : Below w.heap.size w W0 := by rw [hW0]; exact ((Below.refl w.heap.size w).alloc (Nat.le_refl _) _).alloc (by simp) _
  have kd := Ob.new (w.alloc (.cells #[.int .u64 c.id, .slice a c.ps.length cap, .int .u64 c.gen, .int .u64 c.root, .string c.tx] 25)) [.int .u64 d.id, .slice a' d.ps.length cap', .int .u64 d.gen, .int .u64 d.root, .string d.tx] 25
  simp only [World.size_alloc] at kd
  have HA0 : Hid (Am w W0 w.heap.size c a cap) := hide ⟨bb, by rw [hW0]; exact (Ob.new w [.int .u64 c.id, .slice a c.ps.length cap, .int .u64 c.gen, .int .u64 c.root, .string c.tx] _).alloc _, hx⟩
  have HD0 : Hid (Am w W0 (w.heap.size + 1) d a' cap') := hide ⟨bb, by rw [hW0]; exact kd, hy⟩
  have HCA := hide (awake14 W0)
  rw [hW0] at HCA
  have HRD := hide hr
  have HCAP := hide hcap
  have HNI := hide hn
  have HIB := hide hb
  obtain ⟨bn, hbn⟩ : ∃ bn, bn = b.length := ⟨_, rfl⟩
  rw [← hbn]
  have HBN := hide hbn
  have hbm : bn ≤ 9223372036854775807 := by omega
  clear hx hy bb kd hr hn hb hbn hbl hcap
  go_enter Try.func3, Try.ntmps3
  go_wp2_with fail
  refine HCA.out.mono ?_
  rintro e w1 ⟨rfl, b1⟩
  rw [← hW0] at b1
  have HA1 := hide (HA0.out.old b1)
  have HD1 := hide (HD0.out.old b1)
  have HCL := hide (light14 c a cap w1 HA1.out.cm)
  obtain ⟨x0, x1, x2, x3, x4⟩ := HA1.out.cells
  clear b1 HCA HA0 HD0 hW0
  cases hlc : lightM c with
  | false =>
    rw [hlc] at HCL
    clear hlc
    go_wp2_with fail
    refine HCL.out.mono ?_
    rintro e w2 ⟨rfl, b2⟩
    have HA2 := hide (HA1.out.old b2)
    clear b2
    go_wp2
    go_ret
    exact ⟨rfl, HA2.out.b⟩
  | true =>
    rw [hlc] at HCL
    have HLC := hide (lightM_ok hlc)
    clear hlc
    go_wp2_with fail
    refine HCL.out.mono ?_
    rintro e w2 ⟨rfl, b2⟩
    have HA2 := hide (HA1.out.old b2)
    have HD2 := hide (HD1.out.old b2)
    have HCL2 := hide (light14 d a' cap' w2 HD2.out.cm)
    clear b2 x0 x1 x2 x3 x4 HA1 HD1 HCL
    obtain ⟨x0, x1, x2, x3, x4⟩ := HD2.out.cells
    cases hld : lightM d with
    | false =>
      rw [hld] at HCL2
      clear hld
      go_wp2_with fail
      refine HCL2.out.mono ?_
      rintro e w3 ⟨rfl, b3⟩
      have HA3 := hide (HA2.out.old b3)
      clear b3
      go_wp2
      go_ret
      exact ⟨rfl, HA3.out.b⟩
    | true =>
      rw [hld] at HCL2
      clear hld
      by_cases hbig : 300 < bn
      · have d1 : decide ((300 : Int) < (bn : Int)) = true := by simp; omega
        have d2 : decide (300 < bn) = true := by simp; omega
        clear hbig
        go_wp2_with fail
        refine HCL2.out.mono ?_
        rintro e w3 ⟨rfl, b3⟩
        have HA3 := hide (HA2.out.old b3)
        clear b3
        go_wp2
        go_ret
        exact ⟨rfl, HA3.out.b⟩
      · have d1 : decide ((300 : Int) < (bn : Int)) = false := by simp; omega
        have d2 : decide (300 < bn) = false := by simp; omega
        have HBL : Hid (b.length ≤ 300) := hide (by rw [← HBN.out]; omega)
        clear hbig
        by_cases hsb : 100 < s.size
        · have d3 : decide ((100 : Int) < (s.size : Int)) = true := by simp; omega
          have d4 : decide (100 < s.size) = true := by simp; omega
          clear hsb
          go_wp2_with fail
          refine HCL2.out.mono ?_
          rintro e w3 ⟨rfl, b3⟩
          have HA3 := hide (HA2.out.old b3)
          clear b3
          go_wp2
          go_ret
          exact ⟨rfl, HA3.out.b⟩
        · have d3 : decide ((100 : Int) < (s.size : Int)) = false := by simp; omega
          have d4 : decide (100 < s.size) = false := by simp; omega
          clear hsb
          go_wp2_with fail
          refine HCL2.out.mono ?_
          rintro e w3 ⟨rfl, b3⟩
          have HA3 := hide (HA2.out.old b3)
          have HD3 := hide (HD2.out.old b3)
          have HCP := hide (put14 c a cap w3 HA3.out.cm)
          clear b3 x0 x1 x2 x3 x4 HA2 HD2 HCL2
          obtain ⟨x0, x1, x2, x3, x4⟩ := HA3.out.cells
          go_wp2_with fail
          refine HCP.out.mono ?_
          rintro e w4 ⟨v4, rfl, o4, b4⟩
          have HA4 := hide (HA3.out.old b4)
          have HD4 := hide (HD3.out.old b4)
          obtain ⟨ga, gn, gc, rfl, hgn, gr, _, _⟩ := Bt.own o4
          have HGR := hide gr
          have HGN := hide hgn
          have HCP2 := hide (rput14 c a cap w4 HA4.out.cm)
          clear b4 o4 gr hgn x0 x1 x2 x3 x4 HA3 HD3 HCP
          obtain ⟨x0, x1, x2, x3, x4⟩ := HA4.out.cells
          go_wp2_with fail
          refine HCP2.out.mono ?_
          rintro e w5 ⟨v5, rfl, o5, b5⟩
          have HA5 := hide (HA4.out.old b5)
          have HD5 := hide (HD4.out.old b5)
          have HGR5 := hide (HGR.out.below b5)
          obtain ⟨ka, kn, kc, rfl, hkn, kr, _, _⟩ := Bt.rwb o5
          have HKR5 := hide kr
          have HKN := hide hkn
          obtain ⟨PE, hPE⟩ : ∃ PE, PE = (putM c).2 := ⟨_, rfl⟩
          rw [← hPE]
          have HCO := hide (of14 ba bc b w5 (HRD.out.below HA5.out.b) HNI.out HIB.out (by have := HBL.out; omega))
          rw [← HBN.out] at HCO
          clear b5 o5 kr hkn x0 x1 x2 x3 x4 HA4 HD4 HCP2 HGR hPE
          go_wp2_with fail
          refine HCO.out.mono ?_
          rintro e w6 ⟨ma, mc, rfl, mr, b6⟩
          obtain ⟨m, hm⟩ : ∃ m, m = (ofM b).1 := ⟨_, rfl⟩
          obtain ⟨OE, hOE⟩ : ∃ OE, OE = (ofM b).2 := ⟨_, rfl⟩
          have HML := hide (ofM_ps b)
          rw [← hm] at mr HML ⊢
          rw [← hOE]
          have HM := hide hm
          have HOE := hide hOE
          have HA6 := hide (HA5.out.old b6)
          have HD6 := hide (HD5.out.old b6)
          have HGR6 := hide (HGR5.out.below b6)
          have HKR6 := hide (HKR5.out.below b6)
          obtain ⟨W7, hW7⟩ : ∃ W7, W7 = w6.alloc (.cells #[.int .u64 m.id, .slice ma m.ps.length mc, .int .u64 m.gen, .int .u64 m.root, .string m.tx] 25) := ⟨_, rfl⟩
          have bm : Below w6.heap.size w6 W7 := by rw [hW7]; exact (Below.refl _ _).alloc (Nat.le_refl _) _
          have HM7 : Hid (Am w6 W7 w6.heap.size m ma mc) := hide ⟨bm, by rw [hW7]; exact Ob.new w6 [.int .u64 m.id, .slice ma m.ps.length mc, .int .u64 m.gen, .int .u64 m.root, .string m.tx] _, mr⟩
          have HA7 := hide (HA6.out.old bm)
          have HD7 := hide (HD6.out.old bm)
          have HCX := hide (rof14 ba bc b W7 (HRD.out.below HA7.out.b) HCAP.out HNI.out HIB.out (by have := HBL.out; omega))
          rw [← HBN.out] at HCX
          rw [hW7] at HCX
          clear mr hm hOE b6 HA5 HD5 HGR5 HKR5 HCO
          go_wp2_with fail
          refine HCX.out.mono ?_
          rintro e w8 ⟨na, nc, rfl, nr, b8⟩
          rw [← hW7] at b8
          rw [← HM.out] at nr ⊢
          rw [← HOE.out]
          have HA8 := hide (HA7.out.old b8)
          have HD8 := hide (HD7.out.old b8)
          have HM8 := hide (HM7.out.old b8)
          have b68 : Below w6.heap.size w6 w8 := bm.trans (b8.mono bm.size)
          have HGR8 := hide (HGR6.out.below b68)
          have HKR8 := hide (HKR6.out.below b68)
          obtain ⟨W9, hW9⟩ : ∃ W9, W9 = w8.alloc (.cells #[.int .u64 m.id, .slice na m.ps.length nc, .int .u64 m.gen, .int .u64 m.root, .string m.tx] 25) := ⟨_, rfl⟩
          have bn9 : Below w8.heap.size w8 W9 := by rw [hW9]; exact (Below.refl _ _).alloc (Nat.le_refl _) _
          have HN9 : Hid (Am w8 W9 w8.heap.size m na nc) := hide ⟨bn9, by rw [hW9]; exact Ob.new w8 [.int .u64 m.id, .slice na m.ps.length nc, .int .u64 m.gen, .int .u64 m.root, .string m.tx] _, nr⟩
          have HA9 := hide (HA8.out.old bn9)
          obtain ⟨SB, hSB⟩ : ∃ SB, SB = strOfNums (putM c).1 := ⟨_, rfl⟩
          have HD9 := hide (HD8.out.old bn9)
          have HM9 := hide (HM8.out.old bn9)
          have HGR9 := hide (HGR8.out.below bn9)
          have HKR9 := hide (HKR8.out.below bn9)
          have HLIM : Hid (∀ W', Below W9.heap.size W9 W' → ((convert 26 9 (.slice ga gn gc)).run Try.prog W' = .ok (.string SB) W' ∧ (convert 26 9 (.slice ka kn kc)).run Try.prog W' = .ok (.string SB) W' ∧ W'.cell? ⟨w.heap.size, 0, none⟩ = some (.int .u64 c.id) ∧ W'.cell? ⟨w.heap.size, 1, none⟩ = some (.slice a c.ps.length cap) ∧ W'.cell? ⟨w.heap.size, 2, none⟩ = some (.int .u64 c.gen) ∧ W'.cell? ⟨w.heap.size, 3, none⟩ = some (.int .u64 c.root) ∧ W'.cell? ⟨w.heap.size, 4, none⟩ = some (.string c.tx) ∧ W'.cell? ⟨w.heap.size + 1, 0, none⟩ = some (.int .u64 d.id) ∧ W'.cell? ⟨w.heap.size + 1, 1, none⟩ = some (.slice a' d.ps.length cap') ∧ W'.cell? ⟨w.heap.size + 1, 2, none⟩ = some (.int .u64 d.gen) ∧ W'.cell? ⟨w.heap.size + 1, 3, none⟩ = some (.int .u64 d.root) ∧ W'.cell? ⟨w.heap.size + 1, 4, none⟩ = some (.string d.tx) ∧ W'.cell? ⟨w6.heap.size, 0, none⟩ = some (.int .u64 m.id) ∧ W'.cell? ⟨w6.heap.size, 1, none⟩ = some (.slice ma m.ps.length mc) ∧ W'.cell? ⟨w6.heap.size, 2, none⟩ = some (.int .u64 m.gen) ∧ W'.cell? ⟨w6.heap.size, 3, none⟩ = some (.int .u64 m.root) ∧ W'.cell? ⟨w6.heap.size, 4, none⟩ = some (.string m.tx) ∧ W'.cell? ⟨w8.heap.size, 0, none⟩ = some (.int .u64 m.id) ∧ W'.cell? ⟨w8.heap.size, 1, none⟩ = some (.slice na m.ps.length nc) ∧ W'.cell? ⟨w8.heap.size, 2, none⟩ = some (.int .u64 m.gen) ∧ W'.cell? ⟨w8.heap.size, 3, none⟩ = some (.int .u64 m.root) ∧ W'.cell? ⟨w8.heap.size, 4, none⟩ = some (.string m.tx))) := hide (fun W' hW => by
            have cv1 := (HGR9.out.below hW).conv 26 5 9 Try.underlying26 Try.underlying5 Try.underlying9 gc
            have cv2 := (HKR9.out.below hW).conv 26 5 9 Try.underlying26 Try.underlying5 Try.underlying9 kc
            rw [← HGN.out] at cv1
            rw [← HKN.out] at cv2
            obtain ⟨x0, x1, x2, x3, x4⟩ := (HA9.out.old hW).cells
            obtain ⟨y0, y1, y2, y3, y4⟩ := (HD9.out.old hW).cells
            obtain ⟨u0, u1, u2, u3, u4⟩ := (HM9.out.old hW).cells
            obtain ⟨v0, v1, v2, v3, v4⟩ := (HN9.out.old hW).cells
            rw [← hSB] at cv1 cv2
            exact ⟨cv1, cv2, x0, x1, x2, x3, x4, y0, y1, y2, y3, y4, u0, u1, u2, u3, u4, v0, v1, v2, v3, v4⟩)
          have hps := HLC.out.1
          have hpm := HML.out
          have HC1 : Hid (∀ W, Below W9.heap.size W9 W → Calls Try.prog 12 #[cmV c.id a c.ps.length cap c.gen c.root c.tx] W fun e W' => e = .returned (.int .i64 (cmE c)) ∧ ((convert 26 9 (.slice ga gn gc)).run Try.prog W' = .ok (.string SB) W' ∧ (convert 26 9 (.slice ka kn kc)).run Try.prog W' = .ok (.string SB) W' ∧ W'.cell? ⟨w.heap.size, 0, none⟩ = some (.int .u64 c.id) ∧ W'.cell? ⟨w.heap.size, 1, none⟩ = some (.slice a c.ps.length cap) ∧ W'.cell? ⟨w.heap.size, 2, none⟩ = some (.int .u64 c.gen) ∧ W'.cell? ⟨w.heap.size, 3, none⟩ = some (.int .u64 c.root) ∧ W'.cell? ⟨w.heap.size, 4, none⟩ = some (.string c.tx) ∧ W'.cell? ⟨w.heap.size + 1, 0, none⟩ = some (.int .u64 d.id) ∧ W'.cell? ⟨w.heap.size + 1, 1, none⟩ = some (.slice a' d.ps.length cap') ∧ W'.cell? ⟨w.heap.size + 1, 2, none⟩ = some (.int .u64 d.gen) ∧ W'.cell? ⟨w.heap.size + 1, 3, none⟩ = some (.int .u64 d.root) ∧ W'.cell? ⟨w.heap.size + 1, 4, none⟩ = some (.string d.tx) ∧ W'.cell? ⟨w6.heap.size, 0, none⟩ = some (.int .u64 m.id) ∧ W'.cell? ⟨w6.heap.size, 1, none⟩ = some (.slice ma m.ps.length mc) ∧ W'.cell? ⟨w6.heap.size, 2, none⟩ = some (.int .u64 m.gen) ∧ W'.cell? ⟨w6.heap.size, 3, none⟩ = some (.int .u64 m.root) ∧ W'.cell? ⟨w6.heap.size, 4, none⟩ = some (.string m.tx) ∧ W'.cell? ⟨w8.heap.size, 0, none⟩ = some (.int .u64 m.id) ∧ W'.cell? ⟨w8.heap.size, 1, none⟩ = some (.slice na m.ps.length nc) ∧ W'.cell? ⟨w8.heap.size, 2, none⟩ = some (.int .u64 m.gen) ∧ W'.cell? ⟨w8.heap.size, 3, none⟩ = some (.int .u64 m.root) ∧ W'.cell? ⟨w8.heap.size, 4, none⟩ = some (.string m.tx)) ∧ Hid (Below W9.heap.size W9 W')) := hide (fun W hW => (right14 c a cap W (HA9.out.old hW).cm.rd HA9.out.cm.len HA9.out.cm.big HA9.out.cm.txt).mono (fun e W' h => by
            have b := hW.trans (h.2.mono hW.size)
            exact ⟨h.1, HLIM.out W' b, hide b⟩))
          have HC2 : Hid (∀ W, Below W9.heap.size W9 W → Calls Try.prog 13 #[cmV c.id a c.ps.length cap c.gen c.root c.tx] W fun e W' => e = .returned (.int .i64 (cmE c)) ∧ ((convert 26 9 (.slice ga gn gc)).run Try.prog W' = .ok (.string SB) W' ∧ (convert 26 9 (.slice ka kn kc)).run Try.prog W' = .ok (.string SB) W' ∧ W'.cell? ⟨w.heap.size, 0, none⟩ = some (.int .u64 c.id) ∧ W'.cell? ⟨w.heap.size, 1, none⟩ = some (.slice a c.ps.length cap) ∧ W'.cell? ⟨w.heap.size, 2, none⟩ = some (.int .u64 c.gen) ∧ W'.cell? ⟨w.heap.size, 3, none⟩ = some (.int .u64 c.root) ∧ W'.cell? ⟨w.heap.size, 4, none⟩ = some (.string c.tx) ∧ W'.cell? ⟨w.heap.size + 1, 0, none⟩ = some (.int .u64 d.id) ∧ W'.cell? ⟨w.heap.size + 1, 1, none⟩ = some (.slice a' d.ps.length cap') ∧ W'.cell? ⟨w.heap.size + 1, 2, none⟩ = some (.int .u64 d.gen) ∧ W'.cell? ⟨w.heap.size + 1, 3, none⟩ = some (.int .u64 d.root) ∧ W'.cell? ⟨w.heap.size + 1, 4, none⟩ = some (.string d.tx) ∧ W'.cell? ⟨w6.heap.size, 0, none⟩ = some (.int .u64 m.id) ∧ W'.cell? ⟨w6.heap.size, 1, none⟩ = some (.slice ma m.ps.length mc) ∧ W'.cell? ⟨w6.heap.size, 2, none⟩ = some (.int .u64 m.gen) ∧ W'.cell? ⟨w6.heap.size, 3, none⟩ = some (.int .u64 m.root) ∧ W'.cell? ⟨w6.heap.size, 4, none⟩ = some (.string m.tx) ∧ W'.cell? ⟨w8.heap.size, 0, none⟩ = some (.int .u64 m.id) ∧ W'.cell? ⟨w8.heap.size, 1, none⟩ = some (.slice na m.ps.length nc) ∧ W'.cell? ⟨w8.heap.size, 2, none⟩ = some (.int .u64 m.gen) ∧ W'.cell? ⟨w8.heap.size, 3, none⟩ = some (.int .u64 m.root) ∧ W'.cell? ⟨w8.heap.size, 4, none⟩ = some (.string m.tx)) ∧ Hid (Below W9.heap.size W9 W')) := hide (fun W hW => (rcommit14 c a cap W (HA9.out.old hW).cm.rd HA9.out.cm.len HA9.out.cm.big HA9.out.cm.txt).mono (fun e W' h => by
            have b := hW.trans (h.2.mono hW.size)
            exact ⟨h.1, HLIM.out W' b, hide b⟩))
          have HC3 : Hid (∀ W, Below W9.heap.size W9 W → Calls Try.prog 14 #[cmV m.id ma m.ps.length mc m.gen m.root m.tx, cmV m.id na m.ps.length nc m.gen m.root m.tx] W fun e W' => e = .returned (.bool true) ∧ ((convert 26 9 (.slice ga gn gc)).run Try.prog W' = .ok (.string SB) W' ∧ (convert 26 9 (.slice ka kn kc)).run Try.prog W' = .ok (.string SB) W' ∧ W'.cell? ⟨w.heap.size, 0, none⟩ = some (.int .u64 c.id) ∧ W'.cell? ⟨w.heap.size, 1, none⟩ = some (.slice a c.ps.length cap) ∧ W'.cell? ⟨w.heap.size, 2, none⟩ = some (.int .u64 c.gen) ∧ W'.cell? ⟨w.heap.size, 3, none⟩ = some (.int .u64 c.root) ∧ W'.cell? ⟨w.heap.size, 4, none⟩ = some (.string c.tx) ∧ W'.cell? ⟨w.heap.size + 1, 0, none⟩ = some (.int .u64 d.id) ∧ W'.cell? ⟨w.heap.size + 1, 1, none⟩ = some (.slice a' d.ps.length cap') ∧ W'.cell? ⟨w.heap.size + 1, 2, none⟩ = some (.int .u64 d.gen) ∧ W'.cell? ⟨w.heap.size + 1, 3, none⟩ = some (.int .u64 d.root) ∧ W'.cell? ⟨w.heap.size + 1, 4, none⟩ = some (.string d.tx) ∧ W'.cell? ⟨w6.heap.size, 0, none⟩ = some (.int .u64 m.id) ∧ W'.cell? ⟨w6.heap.size, 1, none⟩ = some (.slice ma m.ps.length mc) ∧ W'.cell? ⟨w6.heap.size, 2, none⟩ = some (.int .u64 m.gen) ∧ W'.cell? ⟨w6.heap.size, 3, none⟩ = some (.int .u64 m.root) ∧ W'.cell? ⟨w6.heap.size, 4, none⟩ = some (.string m.tx) ∧ W'.cell? ⟨w8.heap.size, 0, none⟩ = some (.int .u64 m.id) ∧ W'.cell? ⟨w8.heap.size, 1, none⟩ = some (.slice na m.ps.length nc) ∧ W'.cell? ⟨w8.heap.size, 2, none⟩ = some (.int .u64 m.gen) ∧ W'.cell? ⟨w8.heap.size, 3, none⟩ = some (.int .u64 m.root) ∧ W'.cell? ⟨w8.heap.size, 4, none⟩ = some (.string m.tx)) ∧ Hid (Below W9.heap.size W9 W')) := hide (fun W hW => (rsame14 m m ma na mc nc W (HM9.out.old hW).cm.rd (HN9.out.old hW).cm.rd (by omega)).mono (fun e W' h => by
            have b := hW.trans (h.2.mono hW.size)
            rw [sameCm_refl] at h
            exact ⟨h.1, HLIM.out W' b, hide b⟩))
          have HC4 : Hid (∀ W, Below W9.heap.size W9 W → Calls Try.prog 15 #[cmV c.id a c.ps.length cap c.gen c.root c.tx, cmV d.id a' d.ps.length cap' d.gen d.root d.tx] W fun e W' => e = .returned (.bool (sameCm c d)) ∧ ((convert 26 9 (.slice ga gn gc)).run Try.prog W' = .ok (.string SB) W' ∧ (convert 26 9 (.slice ka kn kc)).run Try.prog W' = .ok (.string SB) W' ∧ W'.cell? ⟨w.heap.size, 0, none⟩ = some (.int .u64 c.id) ∧ W'.cell? ⟨w.heap.size, 1, none⟩ = some (.slice a c.ps.length cap) ∧ W'.cell? ⟨w.heap.size, 2, none⟩ = some (.int .u64 c.gen) ∧ W'.cell? ⟨w.heap.size, 3, none⟩ = some (.int .u64 c.root) ∧ W'.cell? ⟨w.heap.size, 4, none⟩ = some (.string c.tx) ∧ W'.cell? ⟨w.heap.size + 1, 0, none⟩ = some (.int .u64 d.id) ∧ W'.cell? ⟨w.heap.size + 1, 1, none⟩ = some (.slice a' d.ps.length cap') ∧ W'.cell? ⟨w.heap.size + 1, 2, none⟩ = some (.int .u64 d.gen) ∧ W'.cell? ⟨w.heap.size + 1, 3, none⟩ = some (.int .u64 d.root) ∧ W'.cell? ⟨w.heap.size + 1, 4, none⟩ = some (.string d.tx) ∧ W'.cell? ⟨w6.heap.size, 0, none⟩ = some (.int .u64 m.id) ∧ W'.cell? ⟨w6.heap.size, 1, none⟩ = some (.slice ma m.ps.length mc) ∧ W'.cell? ⟨w6.heap.size, 2, none⟩ = some (.int .u64 m.gen) ∧ W'.cell? ⟨w6.heap.size, 3, none⟩ = some (.int .u64 m.root) ∧ W'.cell? ⟨w6.heap.size, 4, none⟩ = some (.string m.tx) ∧ W'.cell? ⟨w8.heap.size, 0, none⟩ = some (.int .u64 m.id) ∧ W'.cell? ⟨w8.heap.size, 1, none⟩ = some (.slice na m.ps.length nc) ∧ W'.cell? ⟨w8.heap.size, 2, none⟩ = some (.int .u64 m.gen) ∧ W'.cell? ⟨w8.heap.size, 3, none⟩ = some (.int .u64 m.root) ∧ W'.cell? ⟨w8.heap.size, 4, none⟩ = some (.string m.tx)) ∧ Hid (Below W9.heap.size W9 W')) := hide (fun W hW => (same14 c d a a' cap cap' W (HA9.out.old hW).cm.rd (HD9.out.old hW).cm.rd (by omega)).mono (fun e W' h => by
            have b := hW.trans (h.2.mono hW.size)
            exact ⟨h.1, HLIM.out W' b, hide b⟩))
          have HC5 : Hid (∀ W, Below W9.heap.size W9 W → Calls Try.prog 14 #[cmV c.id a c.ps.length cap c.gen c.root c.tx, cmV d.id a' d.ps.length cap' d.gen d.root d.tx] W fun e W' => e = .returned (.bool (sameCm c d)) ∧ ((convert 26 9 (.slice ga gn gc)).run Try.prog W' = .ok (.string SB) W' ∧ (convert 26 9 (.slice ka kn kc)).run Try.prog W' = .ok (.string SB) W' ∧ W'.cell? ⟨w.heap.size, 0, none⟩ = some (.int .u64 c.id) ∧ W'.cell? ⟨w.heap.size, 1, none⟩ = some (.slice a c.ps.length cap) ∧ W'.cell? ⟨w.heap.size, 2, none⟩ = some (.int .u64 c.gen) ∧ W'.cell? ⟨w.heap.size, 3, none⟩ = some (.int .u64 c.root) ∧ W'.cell? ⟨w.heap.size, 4, none⟩ = some (.string c.tx) ∧ W'.cell? ⟨w.heap.size + 1, 0, none⟩ = some (.int .u64 d.id) ∧ W'.cell? ⟨w.heap.size + 1, 1, none⟩ = some (.slice a' d.ps.length cap') ∧ W'.cell? ⟨w.heap.size + 1, 2, none⟩ = some (.int .u64 d.gen) ∧ W'.cell? ⟨w.heap.size + 1, 3, none⟩ = some (.int .u64 d.root) ∧ W'.cell? ⟨w.heap.size + 1, 4, none⟩ = some (.string d.tx) ∧ W'.cell? ⟨w6.heap.size, 0, none⟩ = some (.int .u64 m.id) ∧ W'.cell? ⟨w6.heap.size, 1, none⟩ = some (.slice ma m.ps.length mc) ∧ W'.cell? ⟨w6.heap.size, 2, none⟩ = some (.int .u64 m.gen) ∧ W'.cell? ⟨w6.heap.size, 3, none⟩ = some (.int .u64 m.root) ∧ W'.cell? ⟨w6.heap.size, 4, none⟩ = some (.string m.tx) ∧ W'.cell? ⟨w8.heap.size, 0, none⟩ = some (.int .u64 m.id) ∧ W'.cell? ⟨w8.heap.size, 1, none⟩ = some (.slice na m.ps.length nc) ∧ W'.cell? ⟨w8.heap.size, 2, none⟩ = some (.int .u64 m.gen) ∧ W'.cell? ⟨w8.heap.size, 3, none⟩ = some (.int .u64 m.root) ∧ W'.cell? ⟨w8.heap.size, 4, none⟩ = some (.string m.tx)) ∧ Hid (Below W9.heap.size W9 W')) := hide (fun W hW => (rsame14 c d a a' cap cap' W (HA9.out.old hW).cm.rd (HD9.out.old hW).cm.rd (by omega)).mono (fun e W' h => by
            have b := hW.trans (h.2.mono hW.size)
            exact ⟨h.1, HLIM.out W' b, hide b⟩))
          have HC6 : Hid (∀ W, Below W9.heap.size W9 W → Calls Try.prog 16 #[.string s] W fun e W' => e = .returned (.bool (txtOk s)) ∧ ((convert 26 9 (.slice ga gn gc)).run Try.prog W' = .ok (.string SB) W' ∧ (convert 26 9 (.slice ka kn kc)).run Try.prog W' = .ok (.string SB) W' ∧ W'.cell? ⟨w.heap.size, 0, none⟩ = some (.int .u64 c.id) ∧ W'.cell? ⟨w.heap.size, 1, none⟩ = some (.slice a c.ps.length cap) ∧ W'.cell? ⟨w.heap.size, 2, none⟩ = some (.int .u64 c.gen) ∧ W'.cell? ⟨w.heap.size, 3, none⟩ = some (.int .u64 c.root) ∧ W'.cell? ⟨w.heap.size, 4, none⟩ = some (.string c.tx) ∧ W'.cell? ⟨w.heap.size + 1, 0, none⟩ = some (.int .u64 d.id) ∧ W'.cell? ⟨w.heap.size + 1, 1, none⟩ = some (.slice a' d.ps.length cap') ∧ W'.cell? ⟨w.heap.size + 1, 2, none⟩ = some (.int .u64 d.gen) ∧ W'.cell? ⟨w.heap.size + 1, 3, none⟩ = some (.int .u64 d.root) ∧ W'.cell? ⟨w.heap.size + 1, 4, none⟩ = some (.string d.tx) ∧ W'.cell? ⟨w6.heap.size, 0, none⟩ = some (.int .u64 m.id) ∧ W'.cell? ⟨w6.heap.size, 1, none⟩ = some (.slice ma m.ps.length mc) ∧ W'.cell? ⟨w6.heap.size, 2, none⟩ = some (.int .u64 m.gen) ∧ W'.cell? ⟨w6.heap.size, 3, none⟩ = some (.int .u64 m.root) ∧ W'.cell? ⟨w6.heap.size, 4, none⟩ = some (.string m.tx) ∧ W'.cell? ⟨w8.heap.size, 0, none⟩ = some (.int .u64 m.id) ∧ W'.cell? ⟨w8.heap.size, 1, none⟩ = some (.slice na m.ps.length nc) ∧ W'.cell? ⟨w8.heap.size, 2, none⟩ = some (.int .u64 m.gen) ∧ W'.cell? ⟨w8.heap.size, 3, none⟩ = some (.int .u64 m.root) ∧ W'.cell? ⟨w8.heap.size, 4, none⟩ = some (.string m.tx)) ∧ Hid (Below W9.heap.size W9 W')) := hide (fun W hW => (text_any14 s W hs).mono (fun e W' h => by
            obtain ⟨h1, rfl⟩ := h
            exact ⟨h1, HLIM.out W hW, hide hW⟩))
          have HC7 : Hid (∀ W, Below W9.heap.size W9 W → Calls Try.prog 17 #[.string s] W fun e W' => e = .returned (.bool (txtOk s)) ∧ ((convert 26 9 (.slice ga gn gc)).run Try.prog W' = .ok (.string SB) W' ∧ (convert 26 9 (.slice ka kn kc)).run Try.prog W' = .ok (.string SB) W' ∧ W'.cell? ⟨w.heap.size, 0, none⟩ = some (.int .u64 c.id) ∧ W'.cell? ⟨w.heap.size, 1, none⟩ = some (.slice a c.ps.length cap) ∧ W'.cell? ⟨w.heap.size, 2, none⟩ = some (.int .u64 c.gen) ∧ W'.cell? ⟨w.heap.size, 3, none⟩ = some (.int .u64 c.root) ∧ W'.cell? ⟨w.heap.size, 4, none⟩ = some (.string c.tx) ∧ W'.cell? ⟨w.heap.size + 1, 0, none⟩ = some (.int .u64 d.id) ∧ W'.cell? ⟨w.heap.size + 1, 1, none⟩ = some (.slice a' d.ps.length cap') ∧ W'.cell? ⟨w.heap.size + 1, 2, none⟩ = some (.int .u64 d.gen) ∧ W'.cell? ⟨w.heap.size + 1, 3, none⟩ = some (.int .u64 d.root) ∧ W'.cell? ⟨w.heap.size + 1, 4, none⟩ = some (.string d.tx) ∧ W'.cell? ⟨w6.heap.size, 0, none⟩ = some (.int .u64 m.id) ∧ W'.cell? ⟨w6.heap.size, 1, none⟩ = some (.slice ma m.ps.length mc) ∧ W'.cell? ⟨w6.heap.size, 2, none⟩ = some (.int .u64 m.gen) ∧ W'.cell? ⟨w6.heap.size, 3, none⟩ = some (.int .u64 m.root) ∧ W'.cell? ⟨w6.heap.size, 4, none⟩ = some (.string m.tx) ∧ W'.cell? ⟨w8.heap.size, 0, none⟩ = some (.int .u64 m.id) ∧ W'.cell? ⟨w8.heap.size, 1, none⟩ = some (.slice na m.ps.length nc) ∧ W'.cell? ⟨w8.heap.size, 2, none⟩ = some (.int .u64 m.gen) ∧ W'.cell? ⟨w8.heap.size, 3, none⟩ = some (.int .u64 m.root) ∧ W'.cell? ⟨w8.heap.size, 4, none⟩ = some (.string m.tx)) ∧ Hid (Below W9.heap.size W9 W')) := hide (fun W hW => (rtext_any14 s W hs).mono (fun e W' h => by
            obtain ⟨h1, rfl⟩ := h
            exact ⟨h1, HLIM.out W hW, hide hW⟩))
          have hl9 := HLIM.out W9 (Below.refl _ _)
          have hl9d := HLIM.out W9.drew (Below.refl _ _).drew
          have HBA := hide HA9.out.b
          have HBD : Hid (Below W9.heap.size W9 W9.drew) := hide (Below.refl _ _).drew
          obtain ⟨CE, hCE⟩ : ∃ CE, CE = cmE c := ⟨_, rfl⟩
          rw [← hCE] at HC1 HC2
          generalize sameCm c d = SC at HC4 HC5
          generalize txtOk s = TB at HC6 HC7
          have hce : (CE == CE) = true := by simp
          have hpe : (PE == PE) = true := by simp
          have hoe : (OE == OE) = true := by simp
          have hsc : (SC == SC) = true := by simp
          have htb : (TB == TB) = true := by simp
          have hsq : (SB.toList == SB.toList) = true := by simp
          clear b8 bm nr b68 bn9 HA6 HD6 HGR6 HKR6 HA7 HD7 HM7 HCX HA8 HD8 HM8 HGR8 HKR8 hW7 hCE HA9 HD9 HM9 HN9 HGR9 HKR9 HLIM HGN HKN HM HOE HML
          obtain ⟨cv1, cv2, x0, x1, x2, x3, x4, y0, y1, y2, y3, y4, u0, u1, u2, u3, u4, v0, v1, v2, v3, v4⟩ := hl9
          go_wp2_with fail
          rw [← hW9]
          clear hW9
          go_region_held3 (fun W' => (convert 26 9 (.slice ga gn gc)).run Try.prog W' = .ok (.string SB) W' ∧ (convert 26 9 (.slice ka kn kc)).run Try.prog W' = .ok (.string SB) W' ∧ W'.cell? ⟨w.heap.size, 0, none⟩ = some (.int .u64 c.id) ∧ W'.cell? ⟨w.heap.size, 1, none⟩ = some (.slice a c.ps.length cap) ∧ W'.cell? ⟨w.heap.size, 2, none⟩ = some (.int .u64 c.gen) ∧ W'.cell? ⟨w.heap.size, 3, none⟩ = some (.int .u64 c.root) ∧ W'.cell? ⟨w.heap.size, 4, none⟩ = some (.string c.tx) ∧ W'.cell? ⟨w.heap.size + 1, 0, none⟩ = some (.int .u64 d.id) ∧ W'.cell? ⟨w.heap.size + 1, 1, none⟩ = some (.slice a' d.ps.length cap') ∧ W'.cell? ⟨w.heap.size + 1, 2, none⟩ = some (.int .u64 d.gen) ∧ W'.cell? ⟨w.heap.size + 1, 3, none⟩ = some (.int .u64 d.root) ∧ W'.cell? ⟨w.heap.size + 1, 4, none⟩ = some (.string d.tx) ∧ W'.cell? ⟨w6.heap.size, 0, none⟩ = some (.int .u64 m.id) ∧ W'.cell? ⟨w6.heap.size, 1, none⟩ = some (.slice ma m.ps.length mc) ∧ W'.cell? ⟨w6.heap.size, 2, none⟩ = some (.int .u64 m.gen) ∧ W'.cell? ⟨w6.heap.size, 3, none⟩ = some (.int .u64 m.root) ∧ W'.cell? ⟨w6.heap.size, 4, none⟩ = some (.string m.tx) ∧ W'.cell? ⟨w8.heap.size, 0, none⟩ = some (.int .u64 m.id) ∧ W'.cell? ⟨w8.heap.size, 1, none⟩ = some (.slice na m.ps.length nc) ∧ W'.cell? ⟨w8.heap.size, 2, none⟩ = some (.int .u64 m.gen) ∧ W'.cell? ⟨w8.heap.size, 3, none⟩ = some (.int .u64 m.root) ∧ W'.cell? ⟨w8.heap.size, 4, none⟩ = some (.string m.tx)) (first | assumption | go_keep) (first
            | (go_at_call 12; (with_reducible refine (HC1.out _ HBD.out).mono ?_); rintro en w10 ⟨rfl, hS10, HF1⟩)
            | (go_at_call 13; (with_reducible refine (HC2.out _ HF1.out).mono ?_); rintro en w11 ⟨rfl, hS11, HF2⟩)
            | (go_at_call 14; (with_reducible refine (HC3.out _ HF2.out).mono ?_); rintro en w12 ⟨rfl, hS12, HF3⟩)
            | (go_at_call 15; (with_reducible refine (HC4.out _ HF3.out).mono ?_); rintro en w13 ⟨rfl, hS13, HF4⟩)
            | (go_at_call 14; (with_reducible refine (HC5.out _ HF4.out).mono ?_); rintro en w14 ⟨rfl, hS14, HF5⟩)
            | (go_at_call 16; (with_reducible refine (HC6.out _ HF5.out).mono ?_); rintro en w15 ⟨rfl, hS15, HF6⟩)
            | (go_at_call 17; (with_reducible refine (HC7.out _ HF6.out).mono ?_); rintro en w16 ⟨rfl, hS16, HF7⟩))
          have HFF := hide (HBA.out.trans (HF7.out.mono HBA.out.size))
          clear hS10 hS11 hS12 hS13 hS14 hS15 hS16 cv1 cv2 x0 x1 x2 x3 x4 y0 y1 y2 y3 y4 u0 u1 u2 u3 u4 v0 v1 v2 v3 v4 hl9d HC1 HC2 HC3 HC4 HC5 HC6 HC7
          go_wp2
          go_ret
          exact ⟨rfl, HFF.out⟩
end Go.Proofs.Ytapomhpahdmekaa
