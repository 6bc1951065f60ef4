/- Law 15: Keeps. Over the translation. -/
import Derived.Test.YtmkafoidfgaokaaQB9
import Derived.Test.YtmkafoidfgaokaaQC1
import Derived.Test.YtmkafoidfgaokaaQVGl
import Derived.Test.YtmkafoidfgaokaaQVNi
import Derived.Test.YtmkafoidfgaokaaQGIi
import Derived.Test.YtmkafoidfgaokaaQGKe
namespace Go.Proofs.Ytmkafoidfgaokaa
open Go.RowKit Apo
/-- what both Keeps leave -/
theorem keeps_both {w2 w3 : World} {p b px : Nat} {l : List Cm} (hm : MdS w2 w3 p b px l) {sa : Option Addr} {stay : List Int} {sc : Nat} {w : World} (hw : Below w.heap.size w w2) (hr : Rd .u64 w sa stay) (hn : sa = none → sc = 0) (hl : stay.length ≤ 1000000) (hu : InU stay) :
    Calls Try.prog 30 #[.pointer (some ⟨p, 0, none⟩), .slice sa stay.length sc] w3 fun e w4 => ∃ k : Int, e = .returned (.int .i64 k) ∧ Below w2.heap.size w2 w4 ∧
      Calls Try.prog 31 #[.pointer (some ⟨px, 0, none⟩), .slice sa stay.length sc] w4 fun e w5 => e = .returned (.int .i64 k) ∧ Below w2.heap.size w2 w5 ∧
        ∃ bf F l' w0 L', Gp w5 p bf F l' ∧ Gr w0 w5 px L' ∧ L'.map CmA.c = l' ∧ l'.length ≤ l.length := by
  obtain ⟨X, hg⟩ := hm.g
  obtain ⟨w0, M, hGr, hML, h0, hb0, hp0⟩ := hm.x
  have hB3 := hw.trans (hm.bw.mono hw.size)
  refine (keepp_any hg hm.ok (hr.below hB3) hn hl hu).mono ?_
  rintro e w4 ⟨l', bf, F, hl', rfl, hg4, hbf, o4⟩
  have B4 : Below w2.heap.size w2 w4 := Below.onl hm.bw o4 (fun i q => by rw [q]; exact hm.lb.2) (Nat.le_refl _)
  refine ⟨_, rfl, B4, ?_⟩
  have hMr : ∀ y ∈ M, ∀ ad, y.a = some ad → 0 < y.c.ps.length → ¬ ad.block = p := fun y hy => rd_notob hg.ob (by simp) ((hGr.cm y hy).below hGr.b).rd
  have hr4 := gr_cut hGr o4 (fun i q => by rw [q]; exact hp0) hMr
  have hMps : ∀ x ∈ M, x.c.ps.length ≤ 1099511627776 := fun x hx => by
    have h1 : x.c ∈ l := by rw [← hML]; exact List.mem_map.2 ⟨x, hx, rfl⟩
    obtain ⟨y, hy, e⟩ := hg.mem h1
    have := (hg.cs.sm y hy).2
    rw [e] at this
    omega
  have hB4w := hw.trans (B4.mono hw.size)
  refine (keep_any hr4 hMps sa sc stay (hr.below hB4w) hl).mono ?_
  rintro e w5 ⟨L', hL', rfl, hr5, o5⟩
  have hpx0 : w0.heap.size ≤ px := hGr.lo
  have hpx3 : px < w3.heap.size := hGr.lt
  have B5 : Below w2.heap.size w2 w5 := Below.onl B4 o5 (fun i q => by rw [q]; have := h0.size; omega) (Nat.le_refl _)
  have hmap : L'.map CmA.c = l' := by
    rw [hL', hl', hML, ← hML]
    rw [List.filter_map]
    rfl
  have hlen : L'.length = l'.length := by rw [← hmap, List.length_map]
  have hMl : M.length = l.length := by rw [← hML, List.length_map]
  refine ⟨by rw [hlen, hMl], B5, bf, F, l', _, L', hg4.onl o5 (by omega) (by omega) (fun y hy => gr_notob hr4 (hg4.cs.cm y hy).rd), hr5, hmap, ?_⟩
  rw [hl']
  exact List.length_filter_le _ _
set_option maxRecDepth 100000 in
set_option maxHeartbeats 8000000 in
theorem keeps15 (w : World) (f : CsA) (h : OkCs w f) (sa : Option Addr) (sc : Nat) (stay : List Int) (hr : Rd .u64 w sa stay) (hn : sa = none → sc = 0) (hu : InU stay) (hsl : stay.length ≤ 9223372036854775807) (x : CmA) (hx : CmR w x.c x.a x.cap) :
    Calls Try.prog 7 #[.slice f.a f.l.length f.c, .slice sa stay.length sc, .agg #[.int .u64 x.c.id, .slice x.a x.c.ps.length x.cap, .int .u64 x.c.gen, .int .u64 x.c.root, .string x.c.tx]] w fun e w' => e = .returned (.bool true) ∧ Below w.heap.size w w' := by
  obtain ⟨W0, hW0⟩ : ∃ W0, W0 = w.alloc (.cells #[.int .u64 x.c.id, .slice x.a x.c.ps.length x.cap, .int .u64 x.c.gen, .int .u64 x.c.root, .string x.c.tx] 32) := ⟨_, rfl⟩
  have b0 : Below w.heap.size w W0 := by rw [hW0]; exact (Below.refl _ _).alloc (Nat.le_refl _) _
  have k0 : Ob W0 w.heap.size 32 [.int .u64 x.c.id, .slice x.a x.c.ps.length x.cap, .int .u64 x.c.gen, .int .u64 x.c.root, .string x.c.tx] := by rw [hW0]; exact Ob.new w [.int .u64 x.c.id, .slice x.a x.c.ps.length x.cap, .int .u64 x.c.gen, .int .u64 x.c.root, .string x.c.tx] 32
  have HAW := hide (awake15 W0)
  have HOK := hide (h.below b0)
  have HRD := hide (hr.below b0)
  have HXR := hide (hx.below b0)
  have HKX : Hid (∀ W, Below W0.heap.size W0 W → Ob W w.heap.size 32 [.int .u64 x.c.id, .slice x.a x.c.ps.length x.cap, .int .u64 x.c.gen, .int .u64 x.c.root, .string x.c.tx]) := hide (fun W hW => k0.old hW)
  have HB0 := hide b0
  have HN := hide hn
  have HU := hide hu
  obtain ⟨fa, fc, fl⟩ := f
  obtain ⟨nf, hnf⟩ : ∃ nf, nf = fl.length := ⟨_, rfl⟩
  obtain ⟨ns, hns⟩ : ∃ ns, ns = stay.length := ⟨_, rfl⟩
  have HNS := hide hns
  have HFEW : Hid (∀ w1, Below W0.heap.size W0 w1 → Calls Try.prog 10 #[.slice fa nf fc] w1 fun e w' => e = .returned (.bool (fewM (fl.map CmA.c))) ∧ Below w1.heap.size w1 w') := hide (fun w1 b1 => by rw [hnf]; exact few15 w1 ⟨fa, fc, fl⟩ (HOK.out.below b1))
  have HMADE : Hid (∀ w1, Below W0.heap.size W0 w1 → fl.length ≤ 25 → Calls Try.prog 11 #[.slice fa nf fc] w1 (MdP w1 fl)) := hide (fun w1 b1 hl => by rw [hnf]; exact made15 w1 ⟨fa, fc, fl⟩ (HOK.out.below b1) hl)
  have HLI : Hid (∀ w1, Below W0.heap.size W0 w1 → Calls Try.prog 29 #[.agg #[.int .u64 x.c.id, .slice x.a x.c.ps.length x.cap, .int .u64 x.c.gen, .int .u64 x.c.root, .string x.c.tx]] w1 fun e w' => e = .returned (.bool (lightM x.c)) ∧ Below w1.heap.size w1 w') := hide (fun w1 b1 => light14 x.c x.a x.cap w1 (HXR.out.below b1))
  simp only [← hnf, ← hns]
  have HW0 := hide hW0
  rw [hW0] at HAW
  rw [← hns] at hsl
  clear h hnf hns hr hx hn hu b0 k0 hW0
  go_enter Try.func7, Try.ntmps7
  go_wp2_with fail
  refine HAW.out.mono ?_
  rintro e w1 ⟨rfl, b1⟩
  rw [← HW0.out] at b1
  have HB1 := hide b1
  have HF1 := hide (HFEW.out w1 b1)
  clear b1 HAW HFEW
  go_wp2_with fail
  refine HF1.out.mono ?_
  rintro e w2 ⟨rfl, b2⟩
  have HB2 := hide (HB1.out.trans (b2.mono HB1.out.size))
  clear b2 HF1 HB1
  have HBW2 := hide (HB0.out.trans (HB2.out.mono HB0.out.size))
  cases hfew : fewM (fl.map CmA.c) with
  | false =>
    clear hfew
    go_wp2
    go_ret
    exact ⟨rfl, HBW2.out⟩
  | true =>
  have hl25 : fl.length ≤ 25 := by
    unfold fewM at hfew
    simp only [List.length_map, Bool.and_eq_true, decide_eq_true_eq] at hfew
    exact hfew.2
  clear hfew
  by_cases hst : 20 < ns
  · have hd : decide ((20 : Int) < (ns : Int)) = true := by simp; omega
    clear hst
    go_wp2
    go_ret
    exact ⟨rfl, HBW2.out⟩
  have hd : decide ((20 : Int) < (ns : Int)) = false := by simp; omega
  have HST : Hid (ns ≤ 20) := hide (by omega)
  have HL1 := hide (HLI.out w2 HB2.out)
  have kx2 := HKX.out w2 HB2.out
  have x0 := kx2.cell 0
  have x1 := kx2.cell 1
  have x2 := kx2.cell 2
  have x3 := kx2.cell 3
  have x4 := kx2.cell 4
  simp only [List.getElem?_cons_zero, List.getElem?_cons_succ] at x0 x1 x2 x3 x4
  obtain ⟨li, hli⟩ : ∃ li, li = lightM x.c := ⟨_, rfl⟩
  rw [← hli] at HL1
  clear hli hst kx2 HLI
  go_wp2_with fail
  refine HL1.out.mono ?_
  rintro e wl ⟨rfl, bl⟩
  have HBL := hide (HB2.out.trans (bl.mono HB2.out.size))
  have HBWL := hide (HB0.out.trans (HBL.out.mono HB0.out.size))
  have HMD := hide (HMADE.out wl HBL.out hl25)
  clear bl HL1 x0 x1 x2 x3 x4 HMADE HB2 HBW2
  cases li with
  | false =>
    go_wp2
    go_ret
    exact ⟨rfl, HBWL.out⟩
  | true =>
  go_wp2_with fail
  refine HMD.out.mono ?_
  rintro e w3 ⟨p, b, px, l, rfl, hl, hll, hm⟩
  have HM := hide hm
  have HLL : Hid (l.length ≤ 25) := hide (by omega)
  have HKB := hide (keeps_both hm HBL.out HRD.out HN.out (by rw [← HNS.out]; have := HST.out; omega) HU.out)
  rw [← HNS.out] at HKB
  clear hm HMD hl hll hl25
  go_wp2_with fail
  refine HKB.out.mono ?_
  rintro e w4 ⟨kk, rfl, _, hk2⟩
  have HK2 := hide hk2
  clear hk2 HKB
  go_wp2_with fail
  refine HK2.out.mono ?_
  rintro e w5 ⟨rfl, b5, bf, F, l', w0, L', hg, hgr, hml, hle⟩
  have HB5 := hide (HBL.out.trans (b5.mono HBL.out.size))
  have HG : Hid (∀ W, Below w5.heap.size w5 W → Gp W p bf F l') := hide (fun W hW => hg.old hW)
  have HXD : Hid (∀ W, Below w5.heap.size w5 W → Calls Try.prog 17 #[.pointer (some ⟨px, 0, none⟩)] W (NuP W (lids l'))) := hide (fun W hW => by
    have := ids_any (hgr.old hW)
    rw [hml] at this
    exact this)
  have HLE : Hid ((lids l').length ≤ 25) := hide (by unfold lids; rw [List.length_map]; have := HLL.out; omega)
  have HG1 := hide (getp_nil w5 1)
  clear b5 hg hgr hml hle HK2 HM
  have hdk : (kk == kk) = true := by simp
  go_wp2_with fail
  refine HG1.out.mono ?_
  rintro e w6 ⟨ya, yc, rfl, b6⟩
  have bA : Below w5.heap.size w5 (w6.alloc (.cells #[.int .u64 0, .slice ya 0 yc, .int .u64 0, .int .u64 0, .string ⟨#[]⟩] 32)) := b6.alloc b6.size _
  have HB6 := hide bA
  have HBS := hide (basep_nil (w6.alloc (.cells #[.int .u64 0, .slice ya 0 yc, .int .u64 0, .int .u64 0, .string ⟨#[]⟩] 32)) (ia := 1) (ib := 2) (by omega) (by omega))
  unfold BsP at HBS
  simp only at HBS
  clear b6 bA HG1
  go_wp2_with fail
  refine HBS.out.mono ?_
  rintro e w7 ⟨rfl, b7⟩
  have HB7 := hide (HB6.out.trans (b7.mono HB6.out.size))
  have HAD := hide (addp_nil w7 x)
  unfold aggC at HAD
  have kx7 := HKX.out w7 (HB5.out.trans (HB7.out.mono HB5.out.size))
  have x0 := kx7.cell 0
  have x1 := kx7.cell 1
  have x2 := kx7.cell 2
  have x3 := kx7.cell 3
  have x4 := kx7.cell 4
  simp only [List.getElem?_cons_zero, List.getElem?_cons_succ] at x0 x1 x2 x3 x4
  clear b7 HBS kx7 HB6
  go_wp2_with fail
  refine HAD.out.mono ?_
  rintro e w8 ⟨rfl, b8⟩
  have HB8 := hide (HB7.out.trans (b8.mono HB7.out.size))
  have HID := hide (lids_any (HG.out w8 HB8.out).gv)
  clear b8 HAD x0 x1 x2 x3 x4 HB7
  go_wp2_with fail
  refine HID.out.mono ?_
  rintro e w9 ⟨ta, tn, tc, rfl, htn, t4, b9⟩
  have HB9 := hide (HB8.out.trans (b9.mono HB8.out.size))
  have HRS : Hid (∀ W, Below w9.heap.size w9 W → Rd .u64 W ta (lids l')) := hide (fun W hW => (Rd.own t4.1).1.below hW)
  have HTN := hide htn
  have HXI := hide (HXD.out w9 HB9.out)
  clear b9 t4 htn HID HB8
  go_wp2_with fail
  refine HXI.out.mono ?_
  rintro e w10 ⟨ua, un, uc, rfl, hun, u4, b10⟩
  have HB10 := hide (HB9.out.trans (b10.mono HB9.out.size))
  have HSM : Hid (Calls Try.prog 15 #[.slice ta tn tc, .slice ua un uc] w10 fun e w' => e = .returned (.bool true) ∧ Below w10.heap.size w10 w') := hide (by
    rw [HTN.out, hun]
    refine (samen_any ta ua tc uc (lids l') (lids l') w10 (HRS.out w10 b10) (Rd.own u4.1).1 (by have := HLE.out; omega)).mono ?_
    rintro e w' ⟨rfl, hb⟩
    exact ⟨by simp, hb⟩)
  clear b10 u4 hun HXI HTN HB9
  go_wp2_with fail
  refine HSM.out.mono ?_
  rintro e w11 ⟨rfl, b11⟩
  have HB11 := hide (HB10.out.trans (b11.mono HB10.out.size))
  have HI1 := hide (is_nil w11)
  clear b11 HSM HB10
  go_wp2_with fail
  refine HI1.out.mono ?_
  rintro e w12 ⟨rfl, b12⟩
  have HB12 := hide (HB11.out.trans (b12.mono HB11.out.size))
  have HLN := hide (log_nil w12)
  clear b12 HI1 HB11
  go_wp2_with fail
  refine HLN.out.mono ?_
  rintro e w13 ⟨va, vc, rfl, b13⟩
  have HB13 := hide (HB12.out.trans (b13.mono HB12.out.size))
  have HRN := hide (reach_nil w13)
  clear b13 HLN HB12
  go_wp2_with fail
  refine HRN.out.mono ?_
  rintro e w14 ⟨va2, vc2, rfl, b14⟩
  have HB14 := hide (HB13.out.trans (b14.mono HB13.out.size))
  have HKN := hide (keep_nil w14 (.slice sa ns sc))
  clear b14 HRN HB13
  go_wp2_with fail
  refine HKN.out.mono ?_
  rintro e w15 ⟨rfl, rfl⟩
  have HIN := hide (lids_any (gv_nil w14))
  clear HKN
  go_wp2_with fail
  refine HIN.out.mono ?_
  rintro e w16 ⟨xa, xn, xc, rfl, hxn, _, b16⟩
  have hx0 : xn = 0 := by rw [hxn]; rfl
  subst hx0
  have HF := hide (HB0.out.trans ((HB5.out.trans ((HB14.out.trans (b16.mono HB14.out.size)).mono HB5.out.size)).mono HB0.out.size))
  clear b16 hxn HIN
  go_wp2
  go_ret
  exact ⟨rfl, HF.out⟩
end Go.Proofs.Ytmkafoidfgaokaa
