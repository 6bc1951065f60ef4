/- The document's StateOf. Over the translation. -/
import Derived.Test.YtgjhmpmjbedjoaaQSIv
namespace Go.Proofs.Ytgjhmpmjbedjoaa
open Go.RowKit Apo
set_option maxRecDepth 100000 in
theorem size_State : (Try.prog.info? 27).map (·.size) = some 7 := by kernel_rfl
set_option maxRecDepth 100000 in
theorem fin_So {W : World} {g : Nat} {c0 c1 c2 c3 c4 c5 c6 er : Value} {tmps : Array Value} {Q : Ending → World → Prop} (k : Ob W g 27 [c0, c1, c2, c3, c4, c5, c6]) (h2 : tmps.getD 2 undef = .pointer (some ⟨g, 0, none⟩)) (h3 : tmps.getD 3 undef = er) (hq : Q (.returned (.tuple #[.agg #[c0, c1, c2, c3, c4, c5, c6], er])) W) :
    bodyPost Try.prog Try.f17 Q Exit.ret { tmps := tmps, defers := [] } W := by
  have hl := run_loadVar_row (P := Try.prog) W g 27 27 #[c0, c1, c2, c3, c4, c5, c6] (0, 0) _ k Try.underlying27 rfl (by rw [size_State]; rfl)
  have h2' : tmps[2]?.getD undef = .pointer (some ⟨g, 0, none⟩) := by simpa using h2
  have h3' : tmps[3]?.getD undef = er := by simpa using h3
  refine bodyPost_ret (v := .tuple #[.agg #[c0, c1, c2, c3, c4, c5, c6], er]) ?_ rfl hq
  simp [results, Try.results17, asAddr, h2', h3', hl]
/-- what the document's StateOf answers -/
def OsP (w : World) (b : List Int) (e : Ending) (w' : World) : Prop := ∃ x : SvA, e = .returned (.tuple #[.agg (cSv x).toArray, .int .i64 (ofS b).2]) ∧ x.s = (ofS b).1 ∧ SvR w' x ∧ Below w.heap.size w w'
theorem sv_zero (w : World) : SvR w zeroA17 := by
  refine ⟨RdG.nil _ _, RdG.nil _ _, RdG.nil _ _, Nat.zero_le _, by simp [zeroA17, zeroSv], fun f hf => by simp [zeroA17, zeroSv] at hf, ?_, by simp [zeroA17, zeroSv], by simp [zeroA17, zeroSv], ?_, ?_, ?_⟩
  · simp [zeroA17, zeroSv, u64B]
  all_goals exact ⟨Nat.le_refl _, Nat.zero_le _⟩
theorem ob_store7 {W WF : World} {g : Nat} {t : TypeId} {d0 d1 d2 d3 d4 d5 d6 c0 c1 c2 c3 c4 c5 c6 : Value} (k : Ob W g t [d0, d1, d2, d3, d4, d5, d6]) (hW : WF = ((((((W.setCell ⟨g, 0, none⟩ c0).setCell ⟨g, 1, none⟩ c1).setCell ⟨g, 2, none⟩ c2).setCell ⟨g, 3, none⟩ c3).setCell ⟨g, 4, none⟩ c4).setCell ⟨g, 5, none⟩ c5).setCell ⟨g, 6, none⟩ c6) :
    Ob WF g t [c0, c1, c2, c3, c4, c5, c6] ∧ Onl (fun i => i = g) W WF := by
  subst hW
  exact ⟨((((((k.set 0 c0).set 1 c1).set 2 c2).set 3 c3).set 4 c4).set 5 c5).set 6 c6, (((((((Onl.refl (fun i => i = g) W).set (p := g) (.inl rfl) _).set (p := g) (.inl rfl) _).set (p := g) (.inl rfl) _).set (p := g) (.inl rfl) _).set (p := g) (.inl rfl) _).set (p := g) (.inl rfl) _).set (p := g) (.inl rfl) _⟩
theorem osP_bad {w w' : World} {b : List Int} (h : ofS b = (zeroSv, 20)) (bw : Below w.heap.size w w') : OsP w b (.returned (.tuple #[.agg #[.string ⟨#[]⟩, .int .u64 0, .int .u64 0, .int .u64 0, .slice none 0 0, .slice none 0 0, .slice none 0 0], .int .i64 20])) w' := by
  unfold OsP
  rw [h]
  exact ⟨zeroA17, rfl, rfl, sv_zero _, bw⟩
/-- where it lies so far: nothing -/
def bareA (s : Sv) : SvA := ⟨s, none, 0, none, 0, none, 0⟩
attribute [local go_sem ↓] Apo.app_exec
set_option maxRecDepth 100000 in
set_option maxHeartbeats 32000000 in
theorem rof_state (a : Option Addr) (cap : Nat) (b : List Int) (w : World) (hr : Rd .u8 w a b) (hcap : b.length ≤ cap) (hn : a = none → cap = 0) (hb : InB b) (hbl : b.length ≤ 1000000) :
    Calls Try.prog 17 #[.slice a b.length cap] w (OsP w b) := by
  have b0 := (Below.refl w.heap.size w).alloc (Nat.le_refl _) (.cells #[.string ⟨#[]⟩, .int .u64 0, .int .u64 0, .int .u64 0, .slice none 0 0, .slice none 0 0, .slice none 0 0] 27)
  have k0 := Ob.new w [.string ⟨#[]⟩, .int .u64 0, .int .u64 0, .int .u64 0, .slice none 0 0, .slice none 0 0, .slice none 0 0] 27
  have hrl : ∀ x : Addr, a = some x → 0 < b.length → x.block < w.heap.size := fun x hx h0 => by subst hx; exact hr.lt h0
  have r1 := rr_new (cap := cap) 83 (hr.below b0) hcap hn hb (by omega)
  have hg0 : blockOf a b (w.heap.size + 1) ≤ w.heap.size + 1 ∧ blockOf a b (w.heap.size + 1) ≠ w.heap.size := by
    cases a with
    | none => exact ⟨Nat.le_refl _, by show w.heap.size + 1 ≠ _; omega⟩
    | some x =>
      cases b with
      | nil => exact ⟨Nat.le_refl _, by show w.heap.size + 1 ≠ _; omega⟩
      | cons z l => have := hrl x rfl (by simp); exact ⟨by show x.block ≤ _; omega, by show x.block ≠ _; omega⟩
  simp only [World.size_alloc] at r1
  obtain ⟨bn, hbn⟩ : ∃ bn, bn = b.length := ⟨_, rfl⟩
  rw [← hbn] at r1 ⊢
  obtain ⟨w1, hw1⟩ : ∃ w1, w1 = (w.alloc (.cells #[.string ⟨#[]⟩, .int .u64 0, .int .u64 0, .int .u64 0, .slice none 0 0, .slice none 0 0, .slice none 0 0] 27)).alloc (.cells #[.slice a bn cap, .bool false] 83) := ⟨_, rfl⟩
  rw [← hw1] at r1
  have s1 : w1.heap.size = w.heap.size + 2 := by rw [hw1]; simp
  have HB1 : Hid (Below w.heap.size w w1) := hide (by rw [hw1]; exact b0.alloc (by simp) _)
  have HK1 : Hid (Ob w1 w.heap.size 27 (cSv zeroA17)) := hide (by rw [hw1]; exact k0.alloc _)
  obtain ⟨g, hgd⟩ : ∃ g, g = blockOf a b (w.heap.size + 1) := ⟨_, rfl⟩
  rw [← hgd] at r1 hg0
  have HC1 := hide (xtext_any (w.heap.size + 1) g (some b) 20 w1 r1 (by omega))
  rw [hw1] at HC1
  have hg1 : g < w1.heap.size := by omega
  have hgw := hg0.2
  obtain ⟨a1, ha1⟩ : ∃ a1, a1 = rtext (some b) 20 := ⟨_, rfl⟩
  have HA1 := hide ha1
  rw [← ha1] at HC1
  clear hr hn hbn b0 k0 hrl r1 hgd hcap ha1 hb hg0
  go_enter Try.func17, Try.ntmps17
  go_wp2_with fail
  refine HC1.out.mono ?_
  rintro e w2 ⟨rfl, r2, g2⟩
  rw [← hw1] at g2
  have o2 := grown_onl g2
  have z2 := g2.size
  obtain ⟨hd, hhd⟩ : ∃ hd, hd = strOfNums a1.1 := ⟨_, rfl⟩
  have HHD := hide hhd
  obtain ⟨st1, hst1⟩ : ∃ st, st = a1.2 := ⟨_, rfl⟩
  rw [← hst1] at r2
  rw [← hhd]
  have HST1 := hide hst1
  obtain ⟨W3, hW3⟩ : ∃ W3, W3 = w2.alloc (.cells #[.string hd, .int .u64 0, .int .u64 0, .int .u64 0, .slice none 0 0, .slice none 0 0, .slice none 0 0] 27) := ⟨_, rfl⟩
  have b3 : Below w2.heap.size w2 W3 := by rw [hW3]; exact (Below.refl _ _).alloc (Nat.le_refl _) _
  have s3 : W3.heap.size = w2.heap.size + 1 := by rw [hW3]; simp
  obtain ⟨p, hp⟩ : ∃ p, p = w.heap.size + 1 := ⟨_, rfl⟩
  obtain ⟨q, hq⟩ : ∃ q, q = w2.heap.size := ⟨_, rfl⟩
  have HI3 : Hid (SoI w W3 p g q W3.heap.size W3.heap.size st1 (bareA ⟨hd, 0, 0, 0, [], [], []⟩)) := hide (by
    rw [hp, hq]
    refine ⟨r2.old b3, ?_, Row.nil _ _ _ _, Row.nil _ _ _ _, (HK1.out.onl o2 (by omega)).old b3, ?_, ⟨by omega, by omega, by omega, hgw, by omega, Nat.le_refl _, Nat.le_refl _⟩⟩
    · rw [hW3]; exact Ob.new w2 [.string hd, .int .u64 0, .int .u64 0, .int .u64 0, .slice none 0 0, .slice none 0 0, .slice none 0 0] _
    · exact (Below.onl HB1.out o2 (fun i z => by omega) (Nat.le_refl _)).trans (b3.mono (by omega)))
  have HC3 := hide (HI3.out.num fullS)
  obtain ⟨mq, hmq⟩ : ∃ mq, mq = W3.heap.size := ⟨_, rfl⟩
  rw [← hmq] at HC3 HI3
  rw [hW3] at HC3
  rw [← hp]
  clear r2 g2 o2 hhd hst1 b3 HC1 HB1 HK1 hw1 z2 s1 hg1 HI3 hW3 hmq s3 hp
  go_wp2_with fail
  refine HC3.out.mono ?_
  rintro e w4 ⟨rfl, i4, _⟩
  obtain ⟨wk, hwk⟩ : ∃ z, z = (rnum st1 fullS).1 := ⟨_, rfl⟩
  obtain ⟨st2, hst2⟩ : ∃ st, st = (rnum st1 fullS).2 := ⟨_, rfl⟩
  rw [← hst2] at i4
  rw [← hwk]
  have HWK := hide hwk
  have HST2 := hide hst2
  rw [← hq]
  have c4 := i4.ob.cell 1
  have f4 := i4.ob.frozen 1
  simp only [cSv, bareA, List.length_nil, List.getElem?_cons_succ, List.getElem?_cons_zero] at c4
  have HI4 : Hid (SoI w (w4.setCell ⟨q, 1, none⟩ (.int .u64 wk)) p g q mq mq st2 (bareA ⟨hd, wk, 0, 0, [], [], []⟩)) := hide (i4.set 1 _ rfl ⟨rfl, rfl, rfl⟩ ⟨rfl, rfl, rfl⟩)
  have HC5 := hide (HI4.out.num fullS)
  clear i4 hwk hst2 HC3 HI4 hq
  go_wp2_with fail
  refine HC5.out.mono ?_
  rintro e w5 ⟨rfl, i5, _⟩
  obtain ⟨nx, hnx⟩ : ∃ z, z = (rnum st2 fullS).1 := ⟨_, rfl⟩
  obtain ⟨st3, hst3⟩ : ∃ st, st = (rnum st2 fullS).2 := ⟨_, rfl⟩
  rw [← hst3] at i5
  rw [← hnx]
  have HNX := hide hnx
  have HST3 := hide hst3
  have c5 := i5.ob.cell 2
  have f5 := i5.ob.frozen 2
  simp only [cSv, bareA, List.length_nil, List.getElem?_cons_succ, List.getElem?_cons_zero] at c5
  have HI5 : Hid (SoI w (w5.setCell ⟨q, 2, none⟩ (.int .u64 nx)) p g q mq mq st3 (bareA ⟨hd, wk, nx, 0, [], [], []⟩)) := hide (i5.set 2 _ rfl ⟨rfl, rfl, rfl⟩ ⟨rfl, rfl, rfl⟩)
  have HC6 := hide (HI5.out.num fullS)
  clear i5 hnx hst3 HC5 HI5 c4 f4
  go_wp2_with fail
  refine HC6.out.mono ?_
  rintro e w6 ⟨rfl, i6, _⟩
  obtain ⟨pd, hpd⟩ : ∃ z, z = (rnum st3 fullS).1 := ⟨_, rfl⟩
  obtain ⟨st4, hst4⟩ : ∃ st, st = (rnum st3 fullS).2 := ⟨_, rfl⟩
  rw [← hst4] at i6
  rw [← hpd]
  have HPD := hide hpd
  have HST4 := hide hst4
  have c6 := i6.ob.cell 3
  have f6 := i6.ob.frozen 3
  simp only [cSv, bareA, List.length_nil, List.getElem?_cons_succ, List.getElem?_cons_zero] at c6
  have HI6 : Hid (SoI w (w6.setCell ⟨q, 3, none⟩ (.int .u64 pd)) p g q mq mq st4 (bareA ⟨hd, wk, nx, pd, [], [], []⟩)) := hide (i6.set 3 _ rfl ⟨rfl, rfl, rfl⟩ ⟨rfl, rfl, rfl⟩)
  have HC7 := hide (HI6.out.num 40)
  clear i6 hpd hst4 HC6 HI6 c5 f5
  go_wp2_with fail
  refine HC7.out.mono ?_
  rintro e w7 ⟨rfl, i7, _⟩
  have hct := rnum_bdS st4 (most := 40) (by omega)
  obtain ⟨CT, hCT⟩ : ∃ CT : Nat, (CT : Int) = (rnum st4 40).1 := ⟨(rnum st4 40).1.toNat, by omega⟩
  rw [← hCT] at hct ⊢
  obtain ⟨st5, hst5⟩ : ∃ st, st = (rnum st4 40).2 := ⟨_, rfl⟩
  rw [← hst5] at i7
  have HCT := hide hCT
  have HST5 := hide hst5
  have HI7 := hide i7
  clear i7 hCT hst5 HC7 c6 f6
  go_wp2
  go_loopw [7] (fun i wr => ∃ (k rB : Nat) (x : SvA), k ≤ CT ∧ i = .int .u64 k ∧ Hid (SoI w wr p g q rB rB (eachK rfS st5 k).2 x) ∧ Hid (x.s = ⟨hd, wk, nx, pd, (eachK rfS st5 k).1, [], []⟩ ∧ x.ma = none ∧ x.mc = 0 ∧ x.ca = none ∧ x.cc = 0)) (fun i _ => CT - (intOf i).toNat)
  case atStart => exact ⟨0, mq, _, Nat.zero_le _, rfl, HI7, hide ⟨rfl, rfl, rfl, rfl, rfl⟩⟩
  case round =>
    clear HI7
    obtain ⟨k, rB, x, hk, rfl, HI, HXS⟩ := hrel
    have hlk := eachK_len rfS st5 k
    by_cases hlt : k < CT
    · have t1 : decide ((k : Int) < (CT : Int)) = true := by simp; omega
      have t2 : decide (k < CT) = true := by simp; omega
      have HS1 : Hid (eachK rfS st5 (k + 1) = ((eachK rfS st5 k).1 ++ [(rfS (eachK rfS st5 k).2).1], (rfS (eachK rfS st5 k).2).2)) := hide rfl
      generalize eachK rfS st5 k = EK at HS1 HI HXS hlk
      obtain ⟨rs, st6⟩ := EK
      simp only at HS1 HI HXS hlk
      have hxs := HXS.out
      have hrl : x.s.rf.length ≤ 1000 := by rw [hxs.1]; show rs.length ≤ 1000; omega
      have hxm : x.s.md = [] ∧ x.ma = none ∧ x.mc = 0 := ⟨by rw [hxs.1], hxs.2.1, hxs.2.2.1⟩
      have HXM := hide hxm
      have HC8 := hide (HI.out.text 20 (by omega))
      clear hxs hxm HI
      go_wp2_with fail
      refine HC8.out.mono ?_
      rintro e w8 ⟨rfl, i8, _⟩
      obtain ⟨n, hn⟩ : ∃ n, n = strOfNums (rtext st6 20).1 := ⟨_, rfl⟩
      obtain ⟨st7, hst7⟩ : ∃ st, st = (rtext st6 20).2 := ⟨_, rfl⟩
      rw [← hst7] at i8
      rw [← hn]
      have HN := hide hn
      have HST7 := hide hst7
      have bX : Below w8.heap.size w8 (w8.alloc (.cells #[.string n, .bool false, .int .u64 0] 57)) := (Below.refl _ _).alloc (Nat.le_refl _) _
      have HKX := hide (Ob.new w8 [.string n, .bool false, .int .u64 0] 57)
      have i8' := i8.old bX
      have hm8 : rB ≤ w8.heap.size := i8.lt.2.2.2.2.2.2
      have hp8 : p < w8.heap.size := by have := i8.lt; omega
      have hq8 : q < w8.heap.size := by have := i8.lt; omega
      have HC9 := hide i8'.flag
      clear i8 i8' hn hst7 bX HC8
      go_wp2_with fail
      refine HC9.out.mono ?_
      rintro e w9 ⟨rfl, i9, g9⟩
      obtain ⟨fl, hfl⟩ : ∃ z, z = (rflag st7).1 := ⟨_, rfl⟩
      obtain ⟨st8, hst8⟩ : ∃ st, st = (rflag st7).2 := ⟨_, rfl⟩
      rw [← hst8] at i9
      rw [← hfl]
      have HFL := hide hfl
      have HST8 := hide hst8
      have k9 := HKX.out.onl (grown_onl g9) (by omega)
      have c9 := k9.cell 1
      have f9 := k9.frozen 1
      simp only [List.getElem?_cons_succ, List.getElem?_cons_zero] at c9
      have o10 : Onl (fun i => i = w8.heap.size) w9 (w9.setCell ⟨w8.heap.size, 1, none⟩ (.bool fl)) := (Onl.refl (fun i => i = w8.heap.size) w9).set (p := w8.heap.size) (.inl rfl) _
      have i10 := i9.up o10 (fun i z => by omega)
      have HK10 : Hid (Ob (w9.setCell ⟨w8.heap.size, 1, none⟩ (.bool fl)) w8.heap.size 57 [.string n, .bool fl, .int .u64 0]) := hide (k9.set 1 _)
      have HC11 := hide (i10.num fullS)
      clear i9 g9 hfl hst8 k9 o10 i10 HC9 HKX
      go_wp2_with fail
      refine HC11.out.mono ?_
      rintro e w11 ⟨rfl, i11, g11⟩
      obtain ⟨id, hid⟩ : ∃ z, z = (rnum st8 fullS).1 := ⟨_, rfl⟩
      obtain ⟨st9, hst9⟩ : ∃ st, st = (rnum st8 fullS).2 := ⟨_, rfl⟩
      rw [← hst9] at i11
      rw [← hid]
      have HID := hide hid
      have HST9 := hide hst9
      have k11 := HK10.out.onl (grown_onl g11) (by omega)
      have c11 := k11.cell 2
      have f11 := k11.frozen 2
      simp only [List.getElem?_cons_succ, List.getElem?_cons_zero] at c11
      obtain ⟨W12, hW12⟩ : ∃ W12, W12 = w11.setCell ⟨w8.heap.size, 2, none⟩ (.int .u64 id) := ⟨_, rfl⟩
      have o12 : Onl (fun i => i = w8.heap.size) w11 W12 := by rw [hW12]; exact (Onl.refl (fun i => i = w8.heap.size) w11).set (p := w8.heap.size) (.inl rfl) _
      have i12 := i11.up o12 (fun i z => by omega)
      have k12 : Ob W12 w8.heap.size 57 [.string n, .bool fl, .int .u64 id] := by rw [hW12]; exact k11.set 2 _
      have u0 := k12.cell 0
      have u1 := k12.cell 1
      have u2 := k12.cell 2
      have c12 := i12.ob.cell 4
      simp only [cSv, List.getElem?_cons_succ, List.getElem?_cons_zero] at u0 u1 u2 c12
      obtain ⟨va, vn, vc, W2, R, ⟨c13, f13⟩, y, hy1, hy2, hy3, hy4, hy5, iy⟩ := i12.addR HXM.out hrl ⟨n, fl, id⟩
      have HR : Hid (rfS st6 = (⟨n, fl, id⟩, st9)) := hide (by
        unfold rfS
        rw [← HST7.out, ← HN.out, ← HFL.out, ← HST8.out, ← HID.out, ← HST9.out])
      have HYS : Hid (y.s = ⟨hd, wk, nx, pd, (eachK rfS st5 (k + 1)).1, [], []⟩ ∧ y.ma = none ∧ y.mc = 0 ∧ y.ca = none ∧ y.cc = 0) := hide (by
        have hx := HXS.out
        rw [HS1.out, HR.out]
        exact ⟨by rw [hy1, hx.1], by rw [hy2, hx.2.1], by rw [hy3, hx.2.2.1], by rw [hy4, hx.2.2.2.1], by rw [hy5, hx.2.2.2.2]⟩)
      have HIY : Hid (SoI w (W2.setCell ⟨q, 4, none⟩ (.slice va vn vc)) p g q W2.heap.size W2.heap.size (eachK rfS st5 (k + 1)).2 y) := hide (by rw [HS1.out, HR.out]; exact iy)
      have hz12 : W12.heap.size = w11.heap.size := by rw [hW12]; simp [World.setCell]
      rw [hz12] at R
      rw [hW12] at u0 u1 u2 c12 R
      simp only at R
      generalize x.s.rf.length = nr at c12 R c13
      obtain ⟨q1, q2, q3⟩ := app_runs R
      clear i11 g11 hid hst9 k11 o12 i12 k12 iy hy1 hy2 hy3 hy4 hy5 R HC11 HK10 hW12 HXS HS1 hz12
      go_wp2
      go_roundw
      case rel => exact ⟨k + 1, W2.heap.size, y, by omega, by simp, HIY, HYS⟩
      case measure => simp [intOf]; omega
    · obtain rfl : k = CT := by omega
      have t1 : decide ((k : Int) < (k : Int)) = false := by simp
      have t2 : decide (k < k) = false := by simp
      obtain ⟨rs, hrs⟩ : ∃ rs, rs = (eachK rfS st5 k).1 := ⟨_, rfl⟩
      obtain ⟨st10, hst10⟩ : ∃ st, st = (eachK rfS st5 k).2 := ⟨_, rfl⟩
      rw [← hrs] at HXS hlk
      rw [← hst10] at HI
      have HRS := hide hrs
      have HST10 := hide hst10
      have HC12 := hide (HI.out.num 200)
      clear hrs hst10 HI
      go_wp2_with fail
      refine HC12.out.mono ?_
      rintro e w12 ⟨rfl, i12, _⟩
      have hct2 := rnum_bdS st10 (most := 200) (by omega)
      obtain ⟨CM, hCM⟩ : ∃ CM : Nat, (CM : Int) = (rnum st10 200).1 := ⟨(rnum st10 200).1.toNat, by omega⟩
      rw [← hCM] at hct2 ⊢
      obtain ⟨st11, hst11⟩ : ∃ st, st = (rnum st10 200).2 := ⟨_, rfl⟩
      rw [← hst11] at i12
      have HCM := hide hCM
      have HST11 := hide hst11
      have HI12 := hide i12
      have HXS2 : Hid (x.s = ⟨hd, wk, nx, pd, rs, [], []⟩ ∧ x.ca = none ∧ x.cc = 0) := hide (by have := HXS.out; exact ⟨this.1, this.2.2.2.1, this.2.2.2.2⟩)
      clear i12 hCM hst11 HC12 HXS
      go_wp2
      go_loopw [9] (fun i wr => ∃ (k2 mB : Nat) (x : SvA), k2 ≤ CM ∧ i = .int .u64 k2 ∧ Hid (SoI w wr p g q rB mB (eachK mdS st11 k2).2 x) ∧ Hid (x.s = ⟨hd, wk, nx, pd, rs, (eachK mdS st11 k2).1, []⟩ ∧ x.ca = none ∧ x.cc = 0)) (fun i _ => CM - (intOf i).toNat)
      case atStart => exact ⟨0, rB, x, Nat.zero_le _, rfl, HI12, HXS2⟩
      case round =>
        clear HI12 HXS2
        obtain ⟨k2, mB, x, hk2, rfl, HI, HXS⟩ := hrel
        have hlm := eachK_len mdS st11 k2
        by_cases hlt2 : k2 < CM
        · have t3 : decide ((k2 : Int) < (CM : Int)) = true := by simp; omega
          have t4 : decide (k2 < CM) = true := by simp; omega
          have HS1 : Hid (eachK mdS st11 (k2 + 1) = ((eachK mdS st11 k2).1 ++ [(mdS (eachK mdS st11 k2).2).1], (mdS (eachK mdS st11 k2).2).2)) := hide rfl
          generalize eachK mdS st11 k2 = EK at HS1 HI HXS hlm
          obtain ⟨ms, st6⟩ := EK
          simp only at HS1 HI HXS hlm
          have hml : x.s.md.length ≤ 1000 := by rw [HXS.out.1]; show ms.length ≤ 1000; omega
          have HC8 := hide (HI.out.num fullS)
          clear HI
          go_wp2_with fail
          refine HC8.out.mono ?_
          rintro e w8 ⟨rfl, i8, _⟩
          obtain ⟨n, hn⟩ : ∃ n, n = (rnum st6 fullS).1 := ⟨_, rfl⟩
          obtain ⟨st7, hst7⟩ : ∃ st, st = (rnum st6 fullS).2 := ⟨_, rfl⟩
          rw [← hst7] at i8
          rw [← hn]
          have HN := hide hn
          have HST7 := hide hst7
          have bX : Below w8.heap.size w8 (w8.alloc (.cells #[.int .u64 n, .int .u64 0] 60)) := (Below.refl _ _).alloc (Nat.le_refl _) _
          have HKX := hide (Ob.new w8 [.int .u64 n, .int .u64 0] 60)
          have i8' := i8.old bX
          have hm8 : mB ≤ w8.heap.size := i8.lt.2.2.2.2.2.2
          have hp8 : p < w8.heap.size := by have := i8.lt; omega
          have hq8 : q < w8.heap.size := by have := i8.lt; omega
          have HC11 := hide (i8'.num fullS)
          clear i8 i8' hn hst7 bX HC8
          go_wp2_with fail
          refine HC11.out.mono ?_
          rintro e w11 ⟨rfl, i11, g11⟩
          obtain ⟨id, hid⟩ : ∃ z, z = (rnum st7 fullS).1 := ⟨_, rfl⟩
          obtain ⟨st9, hst9⟩ : ∃ st, st = (rnum st7 fullS).2 := ⟨_, rfl⟩
          rw [← hst9] at i11
          rw [← hid]
          have HID := hide hid
          have HST9 := hide hst9
          have k11 := HKX.out.onl (grown_onl g11) (by omega)
          have c11 := k11.cell 1
          have f11 := k11.frozen 1
          simp only [List.getElem?_cons_succ, List.getElem?_cons_zero] at c11
          obtain ⟨W12, hW12⟩ : ∃ W12, W12 = w11.setCell ⟨w8.heap.size, 1, none⟩ (.int .u64 id) := ⟨_, rfl⟩
          have o12 : Onl (fun i => i = w8.heap.size) w11 W12 := by rw [hW12]; exact (Onl.refl (fun i => i = w8.heap.size) w11).set (p := w8.heap.size) (.inl rfl) _
          have i12 := i11.up o12 (fun i z => by omega)
          have k12 : Ob W12 w8.heap.size 60 [.int .u64 n, .int .u64 id] := by rw [hW12]; exact k11.set 1 _
          have u0 := k12.cell 0
          have u1 := k12.cell 1
          have c12 := i12.ob.cell 5
          simp only [cSv, List.getElem?_cons_succ, List.getElem?_cons_zero] at u0 u1 c12
          obtain ⟨va, vn, vc, W2, R, ⟨c13, f13⟩, y, hy1, hy2, hy3, hy4, hy5, iy⟩ := i12.addM hml ⟨n, id⟩
          have HR : Hid (mdS st6 = (⟨n, id⟩, st9)) := hide (by
            unfold mdS
            rw [← HST7.out, ← HN.out, ← HID.out, ← HST9.out])
          have HYS : Hid (y.s = ⟨hd, wk, nx, pd, rs, (eachK mdS st11 (k2 + 1)).1, []⟩ ∧ y.ca = none ∧ y.cc = 0) := hide (by
            have hx := HXS.out
            rw [HS1.out, HR.out]
            exact ⟨by rw [hy1, hx.1], by rw [hy4, hx.2.1], by rw [hy5, hx.2.2]⟩)
          have HIY : Hid (SoI w (W2.setCell ⟨q, 5, none⟩ (.slice va vn vc)) p g q rB W2.heap.size (eachK mdS st11 (k2 + 1)).2 y) := hide (by rw [HS1.out, HR.out]; exact iy)
          have hz12 : W12.heap.size = w11.heap.size := by rw [hW12]; simp [World.setCell]
          rw [hz12] at R
          rw [hW12] at u0 u1 c12 R
          simp only at R
          generalize x.s.md.length = nr at c12 R c13
          obtain ⟨q1, q2, q3⟩ := app_runs R
          clear i11 g11 hid hst9 k11 o12 i12 k12 iy hy1 hy2 hy3 hy4 hy5 R HC11 HKX hW12 HXS HS1 hz12
          go_wp2
          go_roundw
          case rel => exact ⟨k2 + 1, W2.heap.size, y, by omega, by simp, HIY, HYS⟩
          case measure => simp [intOf]; omega
        · obtain rfl : k2 = CM := by omega
          have t3 : decide ((k2 : Int) < (k2 : Int)) = false := by simp
          have t4 : decide (k2 < k2) = false := by simp
          obtain ⟨ms, hms⟩ : ∃ ms, ms = (eachK mdS st11 k2).1 := ⟨_, rfl⟩
          obtain ⟨st12, hst12⟩ : ∃ st, st = (eachK mdS st11 k2).2 := ⟨_, rfl⟩
          rw [← hms] at HXS hlm
          rw [← hst12] at HI
          have HMS := hide hms
          have HST12 := hide hst12
          have HC13 := hide (HI.out.text 1048576 (by omega))
          clear hms hst12 HI
          go_wp2_with fail
          refine HC13.out.mono ?_
          rintro e w13 ⟨rfl, i13, _⟩
          obtain ⟨T, hT⟩ : ∃ T, T = strOfNums (rtext st12 1048576).1 := ⟨_, rfl⟩
          obtain ⟨st13, hst13⟩ : ∃ st, st = (rtext st12 1048576).2 := ⟨_, rfl⟩
          have hTl : T.size ≤ 1048576 := by
            have := rtext_le st12 1048576 (by omega)
            rw [hT, strOfNums_size]
            omega
          rw [← hst13] at i13
          rw [← hT]
          have HT := hide hT
          have HST13 := hide hst13
          obtain ⟨tc, W14, Rc, rd14, htc, b14⟩ := conv_bytes T w13
          have hnl := nums_length T
          have HI14 := hide (i13.old b14)
          have hcz := ofC_sz (nums T)
          have HCZ := hide hcz
          have HCC : Hid (Calls Try.prog 47 #[.slice (some ⟨w13.heap.size, 0, none⟩) T.size tc] W14 (OcP W14 (nums T))) := hide (by
            have := rof_cls W14 (some ⟨w13.heap.size, 0, none⟩) tc (nums T) rd14 (by omega) (fun e => by cases e) (nums_byte T) (by omega)
            rw [hnl] at this
            exact this)
          clear i13 hT hst13 rd14 b14 hcz HC13 hnl
          go_wp2_with fail
          refine HCC.out.mono ?_
          rintro e w15 ⟨v15, rfl, r15, b15⟩
          obtain ⟨xs, ra, rc, ma, mc, ca0, cc0⟩ := x
          have hx := HXS.out
          simp only at hx
          obtain ⟨rfl, rfl, rfl⟩ := hx
          obtain ⟨C, hC⟩ : ∃ C, C = ofC (nums T) := ⟨_, rfl⟩
          have HC := hide hC
          rw [← hC] at r15 HCZ ⊢
          obtain ⟨cl, ce⟩ := C
          simp only at r15 HCZ ⊢
          obtain ⟨ca, cc, hv, rdc, hcl, hcm, _, hcat⟩ := rd_gcells (c := cCl) (k := 7) cCl_len r15
          subst hv
          have i15 := HI14.out.old b15
          obtain ⟨l1, l2, l3, l4, l5, l6, l7⟩ := i15.lt
          have c15 := i15.ob.cell 6
          have f15 := i15.ob.frozen 6
          simp only [cSv, List.getElem?_cons_succ, List.getElem?_cons_zero] at c15
          obtain ⟨cn, hcn⟩ : ∃ cn, cn = cl.length := ⟨_, rfl⟩
          obtain ⟨W16, hW16⟩ : ∃ W16, W16 = w15.setCell ⟨q, 6, none⟩ (.slice ca cn cc) := ⟨_, rfl⟩
          obtain ⟨y, hy⟩ : ∃ y : SvA, y = ⟨⟨hd, wk, nx, pd, rs, ms, cl⟩, ra, rc, ma, mc, ca, cc⟩ := ⟨_, rfl⟩
          have i16 : SoI w W16 p g q rB mB st13 y := by
            rw [hW16, hy, hcn]
            exact i15.set 6 _ rfl ⟨rfl, rfl, rfl⟩ ⟨rfl, rfl, rfl⟩
          have o16 : Onl (fun i => i = q) w15 W16 := by rw [hW16]; exact (Onl.refl (fun i => i = q) w15).set (p := q) (.inl rfl) _
          have hq14 : q < W14.heap.size := by have := HI14.out.lt; omega
          have rdc16 : RdG cCl 7 W16 ca cl := rdc.onl o16 (fun ad e z => by obtain ⟨g2, rfl, hg2⟩ := hcat ad e; simp only at z; omega)
          have hbounds : u64B wk ∧ u64B nx ∧ u64B pd := by
            have h1 := rnum_bdS st1 (most := fullS) (by decide)
            have h2 := rnum_bdS st2 (most := fullS) (by decide)
            have h3 := rnum_bdS st3 (most := fullS) (by decide)
            rw [← HWK.out] at h1
            rw [← HNX.out] at h2
            rw [← HPD.out] at h3
            exact ⟨⟨h1.1, h1.2⟩, ⟨h2.1, h2.2⟩, ⟨h3.1, h3.2⟩⟩
          have hhs : hd.size ≤ 20 := by
            have := rtext_le (some b) 20 (by omega)
            rw [← HA1.out] at this
            rw [HHD.out, strOfNums_size]
            omega
          have hrall : ∀ r : Rf, r ∈ rs → r.n.size ≤ 20 ∧ u64B r.i := by rw [HRS.out]; exact eachK_all (P := fun r : Rf => r.n.size ≤ 20 ∧ u64B r.i) rfS_size st5 k
          have hmall : ∀ m : Mk, m ∈ ms → u64B m.id ∧ u64B m.ch := by rw [HMS.out]; exact eachK_all (P := fun m : Mk => u64B m.id ∧ u64B m.ch) mdS_size st11 k2
          have sv16 : SvR W16 y := by
            have h1 := i16.ro
            have h2 := i16.mo
            rw [hy] at h1 h2 ⊢
            simp only at h1 h2
            obtain ⟨a1', c1', e1, rd1, hl1, hm1, _⟩ := rd_gcells (c := cRf) (k := 3) cRf_len h1
            obtain ⟨a2', c2', e2, rd2, hl2, hm2, _⟩ := rd_gcells (c := cMk) (k := 2) cMk_len h2
            injection e1 with e11 _ e13
            injection e2 with e21 _ e23
            subst e11 e13 e21 e23
            exact ⟨rd1, rd2, rdc16, by show hd.size ≤ maxLen; unfold maxLen; omega, fun r hr => by have := (hrall r hr).1; unfold maxLen; omega, HCZ.out.1, hbounds, fun r hr => (hrall r hr).2, hmall, ⟨hl1, hm1⟩, ⟨hl2, hm2⟩, ⟨hcl, hcm⟩⟩
          have hadr : ∀ ad : Addr, (ra = some ad ∨ ma = some ad ∨ ca = some ad) → ad.block ≠ w.heap.size := by
            have h1 := i16.ro
            have h2 := i16.mo
            rw [hy] at h1 h2
            simp only at h1 h2
            obtain ⟨a1', c1', e1, _, _, _, _, hat1⟩ := rd_gcells (c := cRf) (k := 3) cRf_len h1
            obtain ⟨a2', c2', e2, _, _, _, _, hat2⟩ := rd_gcells (c := cMk) (k := 2) cMk_len h2
            injection e1 with e11 _ e13
            injection e2 with e21 _ e23
            subst e11 e21
            intro ad had
            rcases had with e | e | e
            · obtain ⟨g2, rfl, hg2⟩ := hat1 ad e; simp only; omega
            · obtain ⟨g2, rfl, hg2⟩ := hat2 ad e; simp only; omega
            · obtain ⟨g2, rfl, hg2⟩ := hcat ad e; simp only; omega
          have HADR := hide hadr
          have HOF : Hid (ofS b = finS y.s ce st13) := hide (by
            unfold ofS
            dsimp only
            rw [← HA1.out, ← HHD.out, ← HST1.out, ← HWK.out, ← HST2.out, ← HNX.out, ← HST3.out, ← HPD.out, ← HST4.out, ← HCT.out, ← HST5.out, Int.toNat_natCast, ← HRS.out, ← HST10.out, ← HCM.out, ← HST11.out, Int.toNat_natCast, ← HMS.out, ← HST12.out, ← HT.out, ← HST13.out, ← HC.out, hy])
          have HSV := hide sv16
          have HI16 := hide i16
          have HYL : Hid (y.s.cl.length ≤ 1000000) := hide (by rw [hy]; have := HCZ.out.2; simp only at this ⊢; omega)
          have HYQ : Hid (cSv y = [.string hd, .int .u64 wk, .int .u64 nx, .int .u64 pd, .slice ra rs.length rc, .slice ma ms.length mc, .slice ca cn cc]) := hide (by rw [hy, hcn]; rfl)
          have HYA : Hid (y.ra = ra ∧ y.ma = ma ∧ y.ca = ca) := hide (by rw [hy]; exact ⟨rfl, rfl, rfl⟩)
          rw [← hcn]
          clear hadr r15 hC rdc hcl hcm hcat i15 o16 rdc16 hbounds hhs hrall hmall sv16 i16 hy hcn b15 HCC HI14  HCZ HXS
          have HDN := hide (xdone_any p g st13 W16 HI16.out.rr)
          rw [hW16] at HDN
          have c16 : ∀ j v, [Value.string hd, .int .u64 wk, .int .u64 nx, .int .u64 pd, .slice ra rs.length rc, .slice ma ms.length mc, .slice ca cn cc][j]? = some v → W16.cell? ⟨q, j, none⟩ = some v := fun j v h => by rw [HI16.out.ob.cell, HYQ.out]; exact h
          have d0 := c16 0 _ rfl
          have d1 := c16 1 _ rfl
          have d2 := c16 2 _ rfl
          have d3 := c16 3 _ rfl
          have d4 := c16 4 _ rfl
          have d5 := c16 5 _ rfl
          have d6 := c16 6 _ rfl
          rw [hW16] at d0 d1 d2 d3 d4 d5 d6
          have e0 := HI16.out.zo.cell 0
          have e1 := HI16.out.zo.cell 1
          have e2 := HI16.out.zo.cell 2
          have e3 := HI16.out.zo.cell 3
          have e4 := HI16.out.zo.cell 4
          have e5 := HI16.out.zo.cell 5
          have e6 := HI16.out.zo.cell 6
          have z0 := HI16.out.zo.frozen 0
          have z1 := HI16.out.zo.frozen 1
          have z2 := HI16.out.zo.frozen 2
          have z3 := HI16.out.zo.frozen 3
          have z4 := HI16.out.zo.frozen 4
          have z5 := HI16.out.zo.frozen 5
          have z6 := HI16.out.zo.frozen 6
          simp only [cSv, zeroA17, zeroSv, List.length_nil, List.getElem?_cons_succ, List.getElem?_cons_zero] at e0 e1 e2 e3 e4 e5 e6
          rw [hW16] at e0 e1 e2 e3 e4 e5 e6 z0 z1 z2 z3 z4 z5 z6
          have HZO : Hid (Ob (w15.setCell ⟨q, 6, none⟩ (.slice ca cn cc)) w.heap.size 27 [.string ⟨#[]⟩, .int .u64 0, .int .u64 0, .int .u64 0, .slice none 0 0, .slice none 0 0, .slice none 0 0]) := hide (by rw [← hW16]; exact HI16.out.zo)
          have HBW : Hid (Below w.heap.size w (w15.setCell ⟨q, 6, none⟩ (.slice ca cn cc))) := hide (by rw [← hW16]; exact HI16.out.bel)
          clear c16
          by_cases hce : ce = 0
          rotate_left
          · have dce : (ce != 0) = true := by simpa using hce
            have HB := hide (by rw [HOF.out]; exact finS_bad (fun z => hce z.1) : ofS b = (zeroSv, 20))
            clear hce
            go_wp2
            obtain ⟨WF, hWF⟩ : ∃ WF, WF = (((((((w15.setCell ⟨q, 6, none⟩ (.slice ca cn cc)).setCell ⟨w.heap.size, 0, none⟩ (.string ⟨#[]⟩)).setCell ⟨w.heap.size, 1, none⟩ (.int .u64 0)).setCell ⟨w.heap.size, 2, none⟩ (.int .u64 0)).setCell ⟨w.heap.size, 3, none⟩ (.int .u64 0)).setCell ⟨w.heap.size, 4, none⟩ (.slice none 0 0)).setCell ⟨w.heap.size, 5, none⟩ (.slice none 0 0)).setCell ⟨w.heap.size, 6, none⟩ (.slice none 0 0) := ⟨_, rfl⟩
            obtain ⟨kF, oF⟩ := ob_store7 HZO.out hWF
            rw [← hWF]
            exact fin_So kF rfl rfl (osP_bad HB.out (Below.onl HBW.out oF (fun i z => by omega) (Nat.le_refl _)))
          have dce : (ce != 0) = false := by simpa using hce
          have HCE := hide hce
          clear hce
          by_cases hdn : st13 = some []
          rotate_left
          · have ddn : decide (st13 = some []) = false := by simpa using hdn
            rw [ddn] at HDN
            have HB := hide (by rw [HOF.out]; exact finS_bad (fun z => hdn z.2.1) : ofS b = (zeroSv, 20))
            clear hdn ddn
            go_wp2_with fail
            refine HDN.out.mono ?_
            rintro e w17 ⟨rfl, rfl⟩
            go_wp2
            obtain ⟨WF, hWF⟩ : ∃ WF, WF = (((((((w15.setCell ⟨q, 6, none⟩ (.slice ca cn cc)).setCell ⟨w.heap.size, 0, none⟩ (.string ⟨#[]⟩)).setCell ⟨w.heap.size, 1, none⟩ (.int .u64 0)).setCell ⟨w.heap.size, 2, none⟩ (.int .u64 0)).setCell ⟨w.heap.size, 3, none⟩ (.int .u64 0)).setCell ⟨w.heap.size, 4, none⟩ (.slice none 0 0)).setCell ⟨w.heap.size, 5, none⟩ (.slice none 0 0)).setCell ⟨w.heap.size, 6, none⟩ (.slice none 0 0) := ⟨_, rfl⟩
            obtain ⟨kF, oF⟩ := ob_store7 HZO.out hWF
            rw [← hWF]
            exact fin_So kF rfl rfl (osP_bad HB.out (Below.onl HBW.out oF (fun i z => by omega) (Nat.le_refl _)))
          have ddn : decide (st13 = some []) = true := by simpa using hdn
          rw [ddn] at HDN
          have HDE := hide hdn
          clear hdn ddn
          obtain ⟨E, hE⟩ : ∃ E, E = stateE y.s := ⟨_, rfl⟩
          have HST : Hid (Calls Try.prog 13 #[.agg #[.string hd, .int .u64 wk, .int .u64 nx, .int .u64 pd, .slice ra rs.length rc, .slice ma ms.length mc, .slice ca cn cc]] W16 fun e w' => e = .returned (.int .i64 E) ∧ Below W16.heap.size W16 w') := hide (by
            have := rstate_any y W16 HSV.out HYL.out
            rw [HYQ.out, ← hE] at this
            exact this)
          have HE := hide hE
          clear hE
          go_wp2_with fail
          refine HDN.out.mono ?_
          rintro e w17 ⟨rfl, rfl⟩
          rw [← hW16]
          have HW16 := hide hW16
          clear hW16
          have q16 : Ob W16 q 27 [.string hd, .int .u64 wk, .int .u64 nx, .int .u64 pd, .slice ra rs.length rc, .slice ma ms.length mc, .slice ca cn cc] := by have := HI16.out.ob; rw [HYQ.out] at this; exact this
          clear d0 d1 d2 d3 d4 d5 d6 e0 e1 e2 e3 e4 e5 e6 z0 z1 z2 z3 z4 z5 z6
          have d0 := q16.cell 0
          have d1 := q16.cell 1
          have d2 := q16.cell 2
          have d3 := q16.cell 3
          have d4 := q16.cell 4
          have d5 := q16.cell 5
          have d6 := q16.cell 6
          simp only [List.getElem?_cons_succ, List.getElem?_cons_zero] at d0 d1 d2 d3 d4 d5 d6
          rw [hlk] at d4 HYQ HST
          rw [hlm] at d5 HYQ HST
          clear q16
          go_wp2_with fail
          refine HST.out.mono ?_
          rintro e w18 ⟨rfl, b18⟩
          have HZ18 : Hid (Ob w18 w.heap.size 27 [.string ⟨#[]⟩, .int .u64 0, .int .u64 0, .int .u64 0, .slice none 0 0, .slice none 0 0, .slice none 0 0]) := hide (by have := HZO.out; rw [← HW16.out] at this; exact this.old b18)
          have HB18 : Hid (Below w.heap.size w w18) := hide (by have := HBW.out; rw [← HW16.out] at this; exact this.trans (b18.mono this.size))
          have q18 : Ob w18 q 27 [.string hd, .int .u64 wk, .int .u64 nx, .int .u64 pd, .slice ra k rc, .slice ma k2 mc, .slice ca cn cc] := by have := HI16.out.ob; rw [HYQ.out] at this; exact this.old b18
          have HSV18 := hide (HSV.out.below b18)
          clear d0 d1 d2 d3 d4 d5 d6
          have d0 := q18.cell 0
          have d1 := q18.cell 1
          have d2 := q18.cell 2
          have d3 := q18.cell 3
          have d4 := q18.cell 4
          have d5 := q18.cell 5
          have d6 := q18.cell 6
          have e0 := HZ18.out.cell 0
          have e1 := HZ18.out.cell 1
          have e2 := HZ18.out.cell 2
          have e3 := HZ18.out.cell 3
          have e4 := HZ18.out.cell 4
          have e5 := HZ18.out.cell 5
          have e6 := HZ18.out.cell 6
          have z0 := HZ18.out.frozen 0
          have z1 := HZ18.out.frozen 1
          have z2 := HZ18.out.frozen 2
          have z3 := HZ18.out.frozen 3
          have z4 := HZ18.out.frozen 4
          have z5 := HZ18.out.frozen 5
          have z6 := HZ18.out.frozen 6
          simp only [List.getElem?_cons_succ, List.getElem?_cons_zero] at d0 d1 d2 d3 d4 d5 d6 e0 e1 e2 e3 e4 e5 e6
          clear b18 q18
          by_cases hE0 : E = 0
          rotate_left
          · have dE : (E != 0) = true := by simpa using hE0
            have HB := hide (by rw [HOF.out]; exact finS_bad (fun z => hE0 (by rw [HE.out]; exact z.2.2)) : ofS b = (zeroSv, 20))
            clear hE0
            go_wp2
            obtain ⟨WF, hWF⟩ : ∃ WF, WF = (((((((w18).setCell ⟨w.heap.size, 0, none⟩ (.string ⟨#[]⟩)).setCell ⟨w.heap.size, 1, none⟩ (.int .u64 0)).setCell ⟨w.heap.size, 2, none⟩ (.int .u64 0)).setCell ⟨w.heap.size, 3, none⟩ (.int .u64 0)).setCell ⟨w.heap.size, 4, none⟩ (.slice none 0 0)).setCell ⟨w.heap.size, 5, none⟩ (.slice none 0 0)).setCell ⟨w.heap.size, 6, none⟩ (.slice none 0 0) := ⟨_, rfl⟩
            obtain ⟨kF, oF⟩ := ob_store7 HZ18.out hWF
            rw [← hWF]
            exact fin_So kF rfl rfl (osP_bad HB.out (Below.onl HB18.out oF (fun i z => by omega) (Nat.le_refl _)))
          have dE : (E != 0) = false := by simpa using hE0
          have HB := hide (by rw [HOF.out]; exact finS_ok HCE.out HDE.out (by rw [← HE.out]; exact hE0) : ofS b = (y.s, 0))
          clear hE0
          go_wp2
          obtain ⟨WF, hWF⟩ : ∃ WF, WF = (((((((w18).setCell ⟨w.heap.size, 0, none⟩ (.string hd)).setCell ⟨w.heap.size, 1, none⟩ (.int .u64 wk)).setCell ⟨w.heap.size, 2, none⟩ (.int .u64 nx)).setCell ⟨w.heap.size, 3, none⟩ (.int .u64 pd)).setCell ⟨w.heap.size, 4, none⟩ (.slice ra k rc)).setCell ⟨w.heap.size, 5, none⟩ (.slice ma k2 mc)).setCell ⟨w.heap.size, 6, none⟩ (.slice ca cn cc) := ⟨_, rfl⟩
          obtain ⟨kF, oF⟩ := ob_store7 HZ18.out hWF
          rw [← hWF]
          refine fin_So (er := .int .i64 0) kF rfl rfl ?_
          unfold OsP
          rw [HB.out]
          have hyq := HYQ.out
          have hsv := HSV18.out
          have hya := HYA.out
          refine ⟨y, by rw [hyq], rfl, { hsv with rr := hsv.rr.onl oF (fun ad e => HADR.out ad (.inl (by rw [← hya.1]; exact e))), mr := hsv.mr.onl oF (fun ad e => HADR.out ad (.inr (.inl (by rw [← hya.2.1]; exact e)))), cr := hsv.cr.onl oF (fun ad e => HADR.out ad (.inr (.inr (by rw [← hya.2.2]; exact e)))) }, Below.onl HB18.out oF (fun i z => by omega) (Nat.le_refl _)⟩
end Go.Proofs.Ytgjhmpmjbedjoaa
