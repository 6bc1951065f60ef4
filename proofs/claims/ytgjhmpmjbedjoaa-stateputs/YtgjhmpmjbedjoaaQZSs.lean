/- state's reader: (state.reader).state. Over the translation. (Written by tools/genzss.py.) -/
import Derived.Test.YtgjhmpmjbedjoaaQZSt
namespace Go.Proofs.Ytgjhmpmjbedjoaa
open Go.RowKit Apo
set_option maxRecDepth 100000 in
set_option maxHeartbeats 16000000 in
theorem state_p (p g : Nat) (b : List Int) (w : World) (h : Rr w p 99 g (some b)) (hg : g < w.heap.size) (hb : b.length ≤ 1000000) :
    Calls Try.prog 42 #[.agg #[.pointer (some ⟨p, 0, none⟩)]] w fun e w' => ∃ x : SvA, e = .returned (.tuple #[.agg (cSv x).toArray, .int .i64 (rawV b).2.1]) ∧ x.s = (rawV b).1 ∧ SvR w' x ∧ (∀ ad : Addr, (x.ra = some ad ∨ x.ma = some ad ∨ x.ca = some ad) → w.heap.size ≤ ad.block) ∧ Rr w' p 99 g (rawV b).2.2 ∧ w.grownBy w' (some p) := by
  have hp := h.lt
  obtain ⟨w1, hw1⟩ : ∃ w1, w1 = (w.alloc (.cells #[.pointer (some ⟨p, 0, none⟩)] 79)).alloc (.cells #[.string ⟨#[]⟩, .int .u64 0, .int .u64 0, .int .u64 0, .slice none 0 0, .slice none 0 0, .slice none 0 0] 27) := ⟨_, rfl⟩
  have b0 : Below w.heap.size w w1 := by rw [hw1]; exact ((Below.refl _ w).alloc (Nat.le_refl _) _).alloc (by simp) _
  have s1 : w1.heap.size = w.heap.size + 2 := by rw [hw1]; simp
  have kb1 : Ob w1 w.heap.size 79 [.pointer (some ⟨p, 0, none⟩)] := by rw [hw1]; exact (Ob.new w [.pointer (some ⟨p, 0, none⟩)] 79).alloc _
  have zo1 : Ob w1 (w.heap.size + 1) 27 (cSv zeroA17) := by
    have := Ob.new (w.alloc (.cells #[.pointer (some ⟨p, 0, none⟩)] 79)) [.string ⟨#[]⟩, .int .u64 0, .int .u64 0, .int .u64 0, .slice none 0 0, .slice none 0 0, .slice none 0 0] 27
    rw [World.size_alloc] at this
    rw [hw1]
    exact this
  have HC1 := hide (rdtext_any p g (some b) 20 w1 (h.old b0) (by omega))
  have d0 := kb1.cell 0
  simp only [List.getElem?_cons_zero] at d0
  rw [hw1] at HC1 d0
  have HKB := hide kb1
  have HZO := hide zo1
  have HB0 := hide b0
  obtain ⟨a1, ha1⟩ : ∃ a1, a1 = rtext (some b) 20 := ⟨_, rfl⟩
  have HA1 := hide ha1
  have HL1 := hide (lt6_text (st := some b) (fun l e => by injection e with e; rw [← e]; exact hb) 20)
  rw [← ha1] at HC1 HL1
  clear h b0 kb1 zo1 ha1
  go_enter Try.func42, Try.ntmps42
  go_wp2_with fail
  refine HC1.out.mono ?_
  rintro e w2 ⟨rfl, r2, g2⟩
  rw [← hw1] at g2
  obtain ⟨hd, hhd⟩ : ∃ hd, hd = strOfNums a1.1 := ⟨_, rfl⟩
  obtain ⟨st1, hst1⟩ : ∃ st, st = a1.2 := ⟨_, rfl⟩
  have HHD := hide hhd
  have HST1 := hide hst1
  rw [← hst1] at r2 HL1
  rw [← hhd]
  obtain ⟨W3, hW3⟩ : ∃ W3, W3 = w2.alloc (.cells #[.string hd, .int .u64 0, .int .u64 0, .int .u64 0, .slice none 0 0, .slice none 0 0, .slice none 0 0] 27) := ⟨_, rfl⟩
  have b3 : Below w2.heap.size w2 W3.drew := by rw [hW3]; exact ((Below.refl _ w2).alloc (Nat.le_refl _) _).drew
  have s3 : W3.heap.size = w2.heap.size + 1 := by rw [hW3]; simp
  have z2 := g2.size
  have k3 : Ob W3.drew w2.heap.size 27 [.string hd, .int .u64 0, .int .u64 0, .int .u64 0, .slice none 0 0, .slice none 0 0, .slice none 0 0] := by rw [hW3]; exact Ob.new w2 [.string hd, .int .u64 0, .int .u64 0, .int .u64 0, .slice none 0 0, .slice none 0 0, .slice none 0 0] 27
  have i3 : StI w W3.drew p g w2.heap.size st1 (bareA ⟨hd, 0, 0, 0, [], [], []⟩) :=
    ⟨r2.old b3, (HKB.out.kept g2 (by intro e; have e2 := Option.some.inj e; omega)).old b3, (HZO.out.kept g2 (by intro e; have e2 := Option.some.inj e; omega)).old b3, k3, Row.nil _ _ _ _, Row.nil _ _ _ _, grew_trans (grew_trans (grew_below (some p) HB0.out) g2) (grew_below (some p) b3), hp, hg, by omega, by show w2.heap.size < W3.heap.size; omega⟩
  obtain ⟨q, hq⟩ : ∃ q, q = w2.heap.size := ⟨_, rfl⟩
  rw [← hq] at i3
  have HI3 := hide i3
  have HC3 := hide i3.nums3
  have y0 : W3.cell? ⟨w.heap.size, 0, none⟩ = some (.pointer (some ⟨p, 0, none⟩)) := i3.kb.cell 0
  clear HC1 r2 g2 hhd hst1 b3 k3 i3 d0 HKB HZO HB0 hw1 s1 s3 z2
  go_wp2_with fail
  rw [← hW3, ← hq]
  clear hW3 hq
  obtain ⟨wk, hwk⟩ : ∃ z, z = (rnum st1 fullS).1 := ⟨_, rfl⟩
  obtain ⟨st2, hst2⟩ : ∃ st, st = (rnum st1 fullS).2 := ⟨_, rfl⟩
  rw [← hwk, ← hst2] at HC3
  obtain ⟨nx, hnx⟩ : ∃ z, z = (rnum st2 fullS).1 := ⟨_, rfl⟩
  obtain ⟨st3, hst3⟩ : ∃ st, st = (rnum st2 fullS).2 := ⟨_, rfl⟩
  rw [← hnx, ← hst3] at HC3
  obtain ⟨pd, hpd⟩ : ∃ z, z = (rnum st3 fullS).1 := ⟨_, rfl⟩
  obtain ⟨st4, hst4⟩ : ∃ st, st = (rnum st3 fullS).2 := ⟨_, rfl⟩
  rw [← hpd, ← hst4] at HC3
  have HWK := hide hwk
  have HST2 := hide hst2
  have HNX := hide hnx
  have HST3 := hide hst3
  have HPD := hide hpd
  have HST4 := hide hst4
  have HL4 : Hid (Lt6 st4) := hide (by rw [hst4, hst3, hst2]; exact lt6_num (lt6_num (lt6_num HL1.out _) _) _)
  have n1 : ¬ q = w.heap.size := by have := HI3.out.lt; omega
  have n2 : ¬ w.heap.size = q := by have := HI3.out.lt; omega
  clear hwk hst2 hnx hst3 hpd hst4
  go_region_held3 (fun W' => W'.cell? ⟨w.heap.size, 0, none⟩ = some (.pointer (some ⟨p, 0, none⟩))) (go_keep) (first
    | (go_at_call 59; (with_reducible refine HC3.out.mono ?_); rintro e w3 ⟨rfl, x0, HC4⟩)
    | (go_at_call 59; (with_reducible refine HC4.out.mono ?_); rintro e w4 ⟨rfl, x1, HC5⟩)
    | (go_at_call 59; (with_reducible refine HC5.out.mono ?_); rintro e w5 ⟨rfl, x2, HF5⟩; have k5 := HF5.out.ob; have y1 := k5.cell 1; have y2 := k5.cell 2; have y3 := k5.cell 3; have f1 := k5.frozen 1; have f2 := k5.frozen 2; have f3 := k5.frozen 3; simp only [cSv, bareA, List.length_nil, List.getElem?_cons_zero, List.getElem?_cons_succ] at y1 y2 y3; clear k5))
  obtain ⟨W6, hW6⟩ : ∃ W6, W6 = ((w5.setCell ⟨q, 1, none⟩ (.int .u64 wk)).setCell ⟨q, 2, none⟩ (.int .u64 nx)).setCell ⟨q, 3, none⟩ (.int .u64 pd) := ⟨_, rfl⟩
  rw [← hW6]
  have i6 : StI w W6 p g q st4 (bareA ⟨hd, wk, nx, pd, [], [], []⟩) := by
    rw [hW6]
    have j1 : StI w (w5.setCell ⟨q, 1, none⟩ (.int .u64 wk)) p g q st4 (bareA ⟨hd, wk, 0, 0, [], [], []⟩) := HF5.out.set 1 _ rfl (Row.nil _ _ _ _) (Row.nil _ _ _ _)
    have j2 : StI w ((w5.setCell ⟨q, 1, none⟩ (.int .u64 wk)).setCell ⟨q, 2, none⟩ (.int .u64 nx)) p g q st4 (bareA ⟨hd, wk, nx, 0, [], [], []⟩) := j1.set 2 _ rfl (Row.nil _ _ _ _) (Row.nil _ _ _ _)
    exact j2.set 3 _ rfl (Row.nil _ _ _ _) (Row.nil _ _ _ _)
  have i7 : StI w W6.drew p g q st4 (bareA ⟨hd, wk, nx, pd, [], [], []⟩) := i6.old (Below.refl _ _).drew
  have hct := rnum_bdS st4 (most := 40) (by omega)
  obtain ⟨CT, hCT⟩ : ∃ CT : Nat, (CT : Int) = (rnum st4 40).1 := ⟨(rnum st4 40).1.toNat, by omega⟩
  rw [← hCT] at hct
  have HCT := hide hCT
  have HD3 := hide (i7.refs2 CT hCT)
  have u0 : W6.cell? ⟨w.heap.size, 0, none⟩ = some (.pointer (some ⟨p, 0, none⟩)) := i6.kb.cell 0
  obtain ⟨st5, hst5⟩ : ∃ st, st = (rnum st4 40).2 := ⟨_, rfl⟩
  rw [← hst5] at HD3
  have HST5 := hide hst5
  have HL5 : Hid (Lt6 st5) := hide (by rw [hst5]; exact lt6_num HL4.out _)
  have hlk := eachK_len rfS st5 CT
  obtain ⟨rs, hrs⟩ : ∃ rs, rs = (eachK rfS st5 CT).1 := ⟨_, rfl⟩
  obtain ⟨st6, hst6⟩ : ∃ st, st = (eachK rfS st5 CT).2 := ⟨_, rfl⟩
  rw [← hrs, ← hst6] at HD3
  rw [← hrs] at hlk
  have HRS := hide hrs
  have HST6 := hide hst6
  have HL6 : Hid (Lt6 st6) := hide (by rw [hst6]; exact lt6_each (fun _ => lt6_rf) HL5.out _)
  clear HC3 HC4 HC5 HF5 HI3 i6 i7 hW6 y0 y1 y2 y3 f1 f2 f3 x0 x1 x2 hCT hst5 hrs hst6
  go_wp2_with fail
  go_cut [] from 20 (fun wx => ∃ va vc, Hid (StI w wx p g q st6 ⟨⟨hd, wk, nx, pd, rs, [], []⟩, va, vc, none, 0, none, 0⟩))
  case first =>
    go_region_held3 (fun W' => W'.cell? ⟨w.heap.size, 0, none⟩ = some (.pointer (some ⟨p, 0, none⟩))) (go_keep) (first
      | (go_at_call 61; (with_reducible refine HD3.out.mono ?_); rintro e w7 ⟨rfl, x0, HD4⟩)
      | (go_at_call 60; (with_reducible refine HD4.out.mono ?_); rintro e w8 ⟨va, n, vc, rfl, x1, HF8⟩; have k8 := HF8.out.2.2.ob; have y4 := k8.cell 4; have f4 := k8.frozen 4; simp only [cSv, bareA, List.length_nil, List.getElem?_cons_zero, List.getElem?_cons_succ] at y4; clear k8))
    all_goals
      go_wp2_with fail
      go_meet
      exact ⟨va, vc, hide (by obtain ⟨hn, hr, hi⟩ := HF8.out; subst hn; exact hi.set 4 _ rfl hr (Row.nil _ _ _ _))⟩
  case rest =>
  obtain ⟨va, vc, HI9⟩ := hcut
  have i9 := HI9.out
  obtain ⟨W9, hW9⟩ : ∃ W9, W9 = wc := ⟨_, rfl⟩
  rw [← hW9] at i9 ⊢
  clear hW9 HI9
  have i10 := i9.old (W' := W9.drew) (Below.refl _ _).drew
  have hcm := rnum_bdS st6 (most := 200) (by omega)
  obtain ⟨CM, hCM⟩ : ∃ CM : Nat, (CM : Int) = (rnum st6 200).1 := ⟨(rnum st6 200).1.toNat, by omega⟩
  rw [← hCM] at hcm
  have HCM := hide hCM
  have HE3 := hide (i10.mades2 CM hCM)
  have u1 : W9.cell? ⟨w.heap.size, 0, none⟩ = some (.pointer (some ⟨p, 0, none⟩)) := i9.kb.cell 0
  obtain ⟨st7, hst7⟩ : ∃ st, st = (rnum st6 200).2 := ⟨_, rfl⟩
  rw [← hst7] at HE3
  have HST7 := hide hst7
  have HL7 : Hid (Lt6 st7) := hide (by rw [hst7]; exact lt6_num HL6.out _)
  have hlm := eachK_len mdS st7 CM
  obtain ⟨ms, hms⟩ : ∃ ms, ms = (eachK mdS st7 CM).1 := ⟨_, rfl⟩
  obtain ⟨st8, hst8⟩ : ∃ st, st = (eachK mdS st7 CM).2 := ⟨_, rfl⟩
  rw [← hms, ← hst8] at HE3
  rw [← hms] at hlm
  have HMS := hide hms
  have HST8 := hide hst8
  have HL8 : Hid (Lt6 st8) := hide (by rw [hst8]; exact lt6_each (fun _ => lt6_md) HL7.out _)
  clear HD3 i9 i10 u0 hCM hst7 hms hst8
  go_wp2_with fail
  go_cut [] from 27 (fun wx => ∃ vb vd, Hid (StI w wx p g q st8 ⟨⟨hd, wk, nx, pd, rs, ms, []⟩, va, vc, vb, vd, none, 0⟩))
  case first =>
    go_region_held3 (fun W' => W'.cell? ⟨w.heap.size, 0, none⟩ = some (.pointer (some ⟨p, 0, none⟩))) (go_keep) (first
      | (go_at_call 61; (with_reducible refine HE3.out.mono ?_); rintro e w10 ⟨rfl, x0, HE4⟩)
      | (go_at_call 63; (with_reducible refine HE4.out.mono ?_); rintro e w11 ⟨vb, n', vd, rfl, x1, HF11⟩; have k8 := HF11.out.2.2.ob; have y5 := k8.cell 5; have f5 := k8.frozen 5; simp only [cSv, List.length_nil, List.getElem?_cons_zero, List.getElem?_cons_succ] at y5; clear k8))
    all_goals
      go_wp2_with fail
      go_meet
      exact ⟨vb, vd, hide (by obtain ⟨hn, hr, hi⟩ := HF11.out; subst hn; exact hi.set 5 _ rfl hi.ro hr)⟩
  case rest =>
  obtain ⟨vb, vd, HI11⟩ := hcut
  have i12 := HI11.out
  obtain ⟨W12, hW12⟩ : ∃ W12, W12 = wc := ⟨_, rfl⟩
  rw [← hW12] at i12 ⊢
  clear hW12 HI11
  have HI12 := hide i12
  have u2 : W12.cell? ⟨w.heap.size, 0, none⟩ = some (.pointer (some ⟨p, 0, none⟩)) := i12.kb.cell 0
  have HC13 := hide (i12.text 9223372036854775807 (by omega))
  rw [text_big HL8.out] at HC13
  clear HE3 i12 u1
  go_wp2_with fail
  refine HC13.out.mono ?_
  rintro e w13 ⟨rfl, i13⟩
  obtain ⟨T, hT⟩ : ∃ T, T = strOfNums (rtext st8 1048576).1 := ⟨_, rfl⟩
  obtain ⟨st9, hst9⟩ : ∃ st, st = (rtext st8 1048576).2 := ⟨_, rfl⟩
  have hTl : T.size ≤ 1048576 := by
    have := rtext_le st8 1048576 (by omega)
    rw [hT, strOfNums_size]
    omega
  rw [← hst9] at i13
  rw [← hT]
  have HT := hide hT
  have HST9 := hide hst9
  obtain ⟨tc, W14, Rc, rd14, htc, b14⟩ := conv_bytes T w13
  have hnl := nums_length T
  have HI14 := hide (i13.old b14)
  have HCZ := hide (ofC_sz (nums T))
  have HCC : Hid (Calls Try.prog 65 #[.slice (some ⟨w13.heap.size, 0, none⟩) T.size tc] W14 (OcP W14 (nums T))) := hide (by
    have := of_cls W14 (some ⟨w13.heap.size, 0, none⟩) tc (nums T) rd14 (fun e => by cases e) (nums_byte T) (by omega)
    rw [hnl] at this
    exact this)
  clear i13 hT hst9 rd14 b14 HC13 hnl HI12 u2
  go_wp2_with fail
  refine HCC.out.mono ?_
  rintro e w15 ⟨v15, rfl, r15, b15⟩
  obtain ⟨C, hC⟩ : ∃ C, C = ofC (nums T) := ⟨_, rfl⟩
  have HC := hide hC
  rw [← hC] at r15 HCZ ⊢
  obtain ⟨cl, ce⟩ := C
  simp only at r15 HCZ ⊢
  obtain ⟨ca, cc, hv, rdc, hcl, hcm2, _, hcat⟩ := rd_gcells (c := cCl) (k := 7) cCl_len r15
  subst hv
  have i15 := HI14.out.old b15
  obtain ⟨l1, l2, l3, l4⟩ := i15.lt
  have c15 := i15.ob.cell 6
  have f15 := i15.ob.frozen 6
  simp only [cSv, List.length_nil, List.getElem?_cons_succ, List.getElem?_cons_zero] at c15
  obtain ⟨cn, hcn⟩ : ∃ cn, cn = cl.length := ⟨_, rfl⟩
  obtain ⟨W16, hW16⟩ : ∃ W16, W16 = w15.setCell ⟨q, 6, none⟩ (.slice ca cn cc) := ⟨_, rfl⟩
  obtain ⟨y, hy⟩ : ∃ y : SvA, y = ⟨⟨hd, wk, nx, pd, rs, ms, cl⟩, va, vc, vb, vd, ca, cc⟩ := ⟨_, rfl⟩
  have i16 : StI w W16 p g q st9 y := by
    rw [hW16, hy, hcn]
    exact i15.set 6 _ rfl i15.ro i15.mo
  have o16 : Onl (fun i => i = q) w15 W16 := by rw [hW16]; exact (Onl.refl (fun i => i = q) w15).set (p := q) (.inl rfl) _
  have hq14 : q < W14.heap.size := by have := HI14.out.lt; omega
  have rdc16 : RdG cCl 7 W16 ca cl := rdc.onl o16 (fun ad e z => by obtain ⟨g2, rfl, hg2⟩ := hcat ad e; simp only at z; omega)
  have hbounds : u64B wk ∧ u64B nx ∧ u64B pd := by
    have h1 := rnum_bdS st1 (most := fullS) (by decide)
    have h2 := rnum_bdS st2 (most := fullS) (by decide)
    have h3 := rnum_bdS st3 (most := fullS) (by decide)
    rw [← HWK.out] at h1
    rw [← HNX.out] at h2
    rw [← HPD.out] at h3
    exact ⟨⟨h1.1, h1.2⟩, ⟨h2.1, h2.2⟩, ⟨h3.1, h3.2⟩⟩
  have hhs : hd.size ≤ 20 := by
    have := rtext_le (some b) 20 (by omega)
    rw [← HA1.out] at this
    rw [HHD.out, strOfNums_size]
    omega
  have hrall : ∀ r : Rf, r ∈ rs → r.n.size ≤ 20 ∧ u64B r.i := by rw [HRS.out]; exact eachK_all (P := fun r : Rf => r.n.size ≤ 20 ∧ u64B r.i) rfS_size st5 CT
  have hmall : ∀ m : Mk, m ∈ ms → u64B m.id ∧ u64B m.ch := by rw [HMS.out]; exact eachK_all (P := fun m : Mk => u64B m.id ∧ u64B m.ch) mdS_size st7 CM
  have hfin : SvR W16 y ∧ ∀ ad : Addr, (va = some ad ∨ vb = some ad ∨ ca = some ad) → w.heap.size + 1 < ad.block := by
    have h1 := i16.ro
    have h2 := i16.mo
    rw [hy] at h1 h2 ⊢
    simp only at h1 h2
    obtain ⟨a1', c1', e1, rd1, hl1, hm1, _, hat1⟩ := rd_gcells (c := cRf) (k := 3) cRf_len h1
    obtain ⟨a2', c2', e2, rd2, hl2, hm2, _, hat2⟩ := rd_gcells (c := cMk) (k := 2) cMk_len h2
    injection e1 with e11 _ e13
    injection e2 with e21 _ e23
    subst e11 e13 e21 e23
    refine ⟨⟨rd1, rd2, rdc16, by show hd.size ≤ maxLen; unfold maxLen; omega, fun r hr => by have := (hrall r hr).1; unfold maxLen; omega, HCZ.out.1, hbounds, fun r hr => (hrall r hr).2, hmall, ⟨hl1, hm1⟩, ⟨hl2, hm2⟩, ⟨hcl, hcm2⟩⟩, ?_⟩
    intro ad had
    rcases had with e | e | e
    · obtain ⟨g2, rfl, hg2⟩ := hat1 ad e; simp only; omega
    · obtain ⟨g2, rfl, hg2⟩ := hat2 ad e; simp only; omega
    · obtain ⟨g2, rfl, hg2⟩ := hcat ad e; simp only; omega
  have HFIN := hide hfin
  have HRW : Hid (rawV b = (y.s, ce, st9)) := hide (by
    unfold rawV
    dsimp only
    rw [← HA1.out, ← HHD.out, ← HST1.out, ← HWK.out, ← HST2.out, ← HNX.out, ← HST3.out, ← HPD.out, ← HST4.out, ← HCT.out, ← HST5.out, Int.toNat_natCast, ← HRS.out, ← HST6.out, ← HCM.out, ← HST7.out, Int.toNat_natCast, ← HMS.out, ← HST8.out, ← HT.out, ← HST9.out, ← HC.out, hy])
  have HI16 := hide i16
  have HYQ : Hid (cSv y = [.string hd, .int .u64 wk, .int .u64 nx, .int .u64 pd, .slice va rs.length vc, .slice vb ms.length vd, .slice ca cn cc]) := hide (by rw [hy, hcn]; rfl)
  have HYA : Hid (y.ra = va ∧ y.ma = vb ∧ y.ca = ca) := hide (by rw [hy]; exact ⟨rfl, rfl, rfl⟩)
  rw [← hcn]
  have c16 : ∀ j v, [Value.string hd, .int .u64 wk, .int .u64 nx, .int .u64 pd, .slice va rs.length vc, .slice vb ms.length vd, .slice ca cn cc][j]? = some v → W16.cell? ⟨q, j, none⟩ = some v := fun j v h => by rw [HI16.out.ob.cell, HYQ.out]; exact h
  have d0 := c16 0 _ rfl
  have d1 := c16 1 _ rfl
  have d2 := c16 2 _ rfl
  have d3 := c16 3 _ rfl
  have d4 := c16 4 _ rfl
  have d5 := c16 5 _ rfl
  have d6 := c16 6 _ rfl
  have e0 := HI16.out.zo.cell 0
  have e1 := HI16.out.zo.cell 1
  have e2 := HI16.out.zo.cell 2
  have e3 := HI16.out.zo.cell 3
  have e4 := HI16.out.zo.cell 4
  have e5 := HI16.out.zo.cell 5
  have e6 := HI16.out.zo.cell 6
  have z0 := HI16.out.zo.frozen 0
  have z1 := HI16.out.zo.frozen 1
  have z2 := HI16.out.zo.frozen 2
  have z3 := HI16.out.zo.frozen 3
  have z4 := HI16.out.zo.frozen 4
  have z5 := HI16.out.zo.frozen 5
  have z6 := HI16.out.zo.frozen 6
  simp only [cSv, zeroA17, zeroSv, List.length_nil, List.getElem?_cons_succ, List.getElem?_cons_zero] at e0 e1 e2 e3 e4 e5 e6
  rw [hW16] at d0 d1 d2 d3 d4 d5 d6 e0 e1 e2 e3 e4 e5 e6 z0 z1 z2 z3 z4 z5 z6
  have HZO : Hid (Ob (w15.setCell ⟨q, 6, none⟩ (.slice ca cn cc)) (w.heap.size + 1) 27 [.string ⟨#[]⟩, .int .u64 0, .int .u64 0, .int .u64 0, .slice none 0 0, .slice none 0 0, .slice none 0 0]) := hide (by rw [← hW16]; exact HI16.out.zo)
  have HW16 := hide hW16
  clear hfin r15 hC rdc hcl hcm2 hcat i15 o16 rdc16 hbounds hhs hrall hmall i16 hy hcn b15 HCC HI14 HCZ c16 hW16
  go_wp2
  obtain ⟨WF, hWF⟩ : ∃ WF, WF = (((((((w15.setCell ⟨q, 6, none⟩ (.slice ca cn cc)).setCell ⟨w.heap.size + 1, 0, none⟩ (.string hd)).setCell ⟨w.heap.size + 1, 1, none⟩ (.int .u64 wk)).setCell ⟨w.heap.size + 1, 2, none⟩ (.int .u64 nx)).setCell ⟨w.heap.size + 1, 3, none⟩ (.int .u64 pd)).setCell ⟨w.heap.size + 1, 4, none⟩ (.slice va CT vc)).setCell ⟨w.heap.size + 1, 5, none⟩ (.slice vb CM vd)).setCell ⟨w.heap.size + 1, 6, none⟩ (.slice ca cn cc) := ⟨_, rfl⟩
  obtain ⟨kF, oF⟩ := ob_store7 HZO.out hWF
  rw [← hWF]
  rw [← HW16.out] at oF
  refine fin_Rs (er := .int .i64 ce) kF rfl rfl ?_
  have hyq := HYQ.out
  rw [hlk, hlm] at hyq
  have hsv := HFIN.out.1
  have hya := HYA.out
  have had := HFIN.out.2
  rw [HRW.out]
  refine ⟨y, by rw [hyq], rfl, { hsv with rr := hsv.rr.onl oF (fun ad e z => ?_), mr := hsv.mr.onl oF (fun ad e z => ?_), cr := hsv.cr.onl oF (fun ad e z => ?_) }, ?_, HI16.out.rr.onl oF (by omega) (by omega), grew_onl HI16.out.gr oF (fun i z => by omega)⟩
  · have := had ad (.inl (by rw [← hya.1]; exact e)); omega
  · have := had ad (.inr (.inl (by rw [← hya.2.1]; exact e))); omega
  · have := had ad (.inr (.inr (by rw [← hya.2.2]; exact e))); omega
  · rw [hya.1, hya.2.1, hya.2.2]
    intro ad e
    have := had ad e
    omega
end Go.Proofs.Ytgjhmpmjbedjoaa
