/- PagerKeeps' walk. Over the translation. -/
import Derived.Test.YtcmblfhghebjjaaPKe
import Derived.Test.YtcmblfhghebjjaaGDf
namespace Go.Proofs.Ytcmblfhghebjjaa
open Go.RowKit Apo
attribute [local go_sem ↓] Apo.app_exec

def sk : Sd := (newSd 400).format.2
def ck : Cg := ⟨1, ⟨0, 0⟩, freeOf sk, freeOf sk, ((freeOf sk).give ⟨0, 0⟩).2, false⟩

theorem save_C (st : Sd) (s : Sup) : (st.save s).2.C.length ≤ st.C.length + 1 := by
  have hf : ∀ r : Sd, r.flushed.2.C.length ≤ r.C.length := fun r => by
    unfold Sd.flushed
    split
    · simp
    · rw [acted_C]; exact Nat.le_refl _
  unfold Sd.save
  split
  · split
    · have := hf (st.flushed.2.wrote ((s.e : Int) % 2) (superB s)).2
      have := wrote_C st.flushed.2 ((s.e : Int) % 2) (superB s)
      have := hf st
      omega
    · have := wrote_C st.flushed.2 ((s.e : Int) % 2) (superB s)
      have := hf st
      omega
  · have := hf st
    omega
theorem keeps_start {a : List Int} (hb : ∀ z ∈ a, 0 ≤ z ∧ z ≤ 255) (hl : a.length ≤ 500) : ∃ r sS, ck.commit sk a = r ∧ r.1 = 0 ∧ Tx r.2.2 sS r.2.1 (1 + needP a.length) 100 [] ∧ rootText r.2.2.S sS = a ∧ r.2.2.C.length = 0 ∧ r.2.2.S.length = 400 ∧ sS.st ≠ 0 ∧ sS.e = 2 ∧ r.2.1.e = 2 := by
  obtain ⟨nd1, nd2⟩ := need_small hl
  have h8 : 8 ≤ lenOf 400 := by decide
  have hr : 1 + needP a.length ≤ lenOf 400 / 4 := by show 1 + needP a.length ≤ 100; omega
  obtain ⟨s1, s2, s3, s4⟩ := second_tx (b := a) (n := 400) h8 hb nd1 hr ck rfl
  obtain ⟨_, _, _, _, _, d6, _⟩ := (first_tx h8).done (b := a) (by decide) (alive_format h8) hb nd1 hr
  refine ⟨_, nextS ⟨1, 0, 0, 0⟩ 1 a, rfl, s1, s2, s3, by show (ck.commit sk a).2.2.C.length = 0; rw [show (ck.commit sk a).2.2.C = [] from s4]; rfl, d6.trans (format_du h8).2.2.2, by show 1 ≠ 0; decide, rfl, s2.e⟩
set_option maxRecDepth 100000 in
set_option maxHeartbeats 16000000 in
theorem pkeeps_any (w : World) (la : Option Addr) (lc : Nat) (l : List Tb) (hl : RdBs w la l) (hlm : l.length ≤ maxLen) (a b : Tb) (ha : OkB w a) (hb : OkB w b) (arm : Int) (harm : arm ≤ 9223372036854775807) (f : Fat) (hf : OkT w f) :
    Calls Try.prog 3 #[.slice la l.length lc, .slice a.a a.b.length a.c, .slice b.a b.b.length b.c, .int .i64 arm, f.val] w fun e w' => e = .returned (.bool true) ∧ Below w.heap.size w w' := by
  have hab := ha.big
  have hbb := hb.big
  have hfk := hf.len
  unfold maxLen at hlm hab hbb hfk
  have b0 := (Below.refl _ w).alloc (Nat.le_refl _) (.cells #[.slice f.ka f.keep.length f.kc, .int .i64 f.torn, .int .i64 f.bytes] 26)
  have k0 := Ob.new w [.slice f.ka f.keep.length f.kc, .int .i64 f.torn, .int .i64 f.bytes] 26
  have HLL := hide (hl.below b0)
  have HAA := hide (ha.below b0)
  have HBB := hide (hb.below b0)
  have HFF := hide (hf.below b0)
  have HK0 := hide k0
  have HB0 := hide b0
  clear hl ha hb hf k0 b0
  unfold Fat.val Fat.cells
  go_enter Try.func3, Try.ntmps3
  go_wp2_with fail
  generalize w.alloc (.cells #[.slice f.ka f.keep.length f.kc, .int .i64 f.torn, .int .i64 f.bytes] 26) = w0 at HLL HAA HBB HFF HK0 HB0 ⊢
  refine (awake_any _).mono ?_
  rintro e w1 ⟨rfl, b1⟩
  have k1 := HK0.out.old b1
  have x0 := k1.cell 0
  simp only [List.getElem?_cons_zero] at x0
  have HB1 := hide b1
  clear b1 k1
  by_cases g1 : 4 < l.length
  · have HBE := hide (HB0.out.trans (HB1.out.mono HB0.out.size))
    go_wp2
    go_ret
    exact ⟨rfl, HBE.out⟩
  have g1' : l.length ≤ 4 := by omega
  by_cases g2 : 500 < a.b.length
  · have HBE := hide (HB0.out.trans (HB1.out.mono HB0.out.size))
    go_wp2
    go_ret
    exact ⟨rfl, HBE.out⟩
  have g2' : a.b.length ≤ 500 := by omega
  by_cases g3 : 500 < b.b.length
  · have HBE := hide (HB0.out.trans (HB1.out.mono HB0.out.size))
    go_wp2
    go_ret
    exact ⟨rfl, HBE.out⟩
  have g3' : b.b.length ≤ 500 := by omega
  by_cases g4 : 80 < f.keep.length
  · have HBE := hide (HB0.out.trans (HB1.out.mono HB0.out.size))
    go_wp2
    go_ret
    exact ⟨rfl, HBE.out⟩
  have g4' : f.keep.length ≤ 80 := by omega
  clear g1 g2 g3 g4
  have hC0 : (newSd 400).C.length = 0 := rfl
  obtain ⟨f1, f2, f3, f4⟩ := format_du (n := 400) (by decide)
  have hld : sk.load = (⟨1, 0, 0, 0⟩, 0) := f2.load f3
  have hC1 : sk.C.length = 0 := by rw [show sk.C = [] from f3.2.1]; rfl
  have HF1 := hide f1
  have HLD := hide hld
  clear f1 f2 f3 f4 hld
  go_wp2_with fail
  refine (cnew_any 400 w1).mono ?_
  rintro e w2 ⟨d, rfl, k2, b2⟩
  have L2 : LwD w0 w2 d (newSd 400) (Fresh w1 w2) := ⟨k2, fun i q => Nat.le_trans HB1.out.size q.1, fun i q => q.2, HB1.out.trans (b2.mono HB1.out.size)⟩
  have HL2 := hide L2
  clear k2 b2 L2 HB1 x0
  generalize Fresh w1 w2 = O2 at HL2
  go_wp2_with fail
  refine (cformat_any HL2.out.c HL2.out.hi (by rw [hC0]; decide)).mono ?_
  rintro e w3 ⟨rfl, k3, o3⟩
  have L3 : LwD w0 w3 d sk _ := HL2.out.turn k3 o3
  have HL3 := hide L3
  rw [HF1.out]
  clear k3 o3 L3 HL2
  generalize Gro O2 w2 w3 = O3 at HL3
  have HC4 := hide (copen_none HL3.out.c HL3.out.hi (by omega) 1 HLD.out)
  go_wp2_with fail
  refine HC4.out.mono ?_
  rintro e w4 ⟨p, v4, rfl, t4, k4, b4⟩
  obtain ⟨a4, c4, hv4⟩ := t4.form
  subst hv4
  have L4 : LwP w0 w4 p d ck sk _ := HL3.out.opened k4 b4
  have HL4 := hide L4
  clear t4 k4 b4 L4 HL3 HC4
  generalize Gro O3 w3 w4 = U4 at HL4
  obtain ⟨PT, sS, ePT, s1, s2, s3, hC5, hS5, hst, hse, hce⟩ := keeps_start HAA.out.byt g2'
  have hnd := (need_small g2').2
  have hto : ∀ y, a.a = some y → 0 < a.b.length → ¬ U4 y.block := fun y hy hyl q => by
    have h1 := HL4.out.lo _ q
    have h4 := HAA.out.rd
    rw [hy] at h4
    have := Rd.lt h4 hyl
    omega
  have okA := HAA.out.below HL4.out.bel
  have C5 := ccommit_any HL4.out.c (by decide) (by omega) a.a a.c a.b okA.rd okA.nil okA.len hto okA.byt
  rw [ePT, s1] at C5
  obtain ⟨E5, c5, st5⟩ := PT
  simp only at C5 s2 s3 hC5 hS5 hce
  have HC5 := hide C5
  have HS2 := hide s2
  have HS3 := hide s3
  have HST := hide hst
  have HSE := hide hse
  clear C5 s1 s2 s3 hto okA hst hse ePT
  go_wp2_with fail
  refine HC5.out.mono ?_
  rintro e w5 ⟨rfl, k5, o5⟩
  have HL5 := hide (HL4.out.turn k5 o5)
  clear k5 o5 HL4 HC5
  generalize Gro U4 w4 w5 = U5 at HL5
  obtain ⟨Od, L6, back⟩ := HL5.out.dev
  have HC6 := hide (carm_any L6.c arm harm)
  have HBK := hide back
  clear L6 back
  go_wp2_with fail
  refine HC6.out.mono ?_
  rintro e w6 ⟨rfl, k6, o6⟩
  have HL6 := hide (HBK.out w6 _ k6 o6)
  clear k6 o6 HC6 HBK HL5
  have hM : Mid (st5.armed arm) sS c5 a.b [] [] := ⟨HS3.out, HS2.out.du.armed harm, HS2.out.e, hS5, .inl ⟨_, [], HS2.out.armed harm, rfl, rfl, by simp; omega⟩⟩
  have HM := hide hM
  have hCa : (st5.armed arm).C.length = 0 := hC5
  clear hM hC5 HS2 HS3
  generalize st5.armed arm = st6 at HM HL6 hCa
  have HR6 : Hid (LwR w0 w6 p d c5 st6 U5 (.slice none 0 0) []) := hide ⟨HL6.out, World.ownsRow_nil _ _ _ _, by simp [Value.ownBlock]⟩
  clear HL6
  go_wp2
  go_loopw [15, 72] (fun vs v wr => ∃ (j J : Nat) (c : Cg) (st : Sd) (U : Nat → Prop) (R : List (Nat × Nat)), j ≤ l.length ∧ v = .int .i64 j ∧ Hid (J = R.length) ∧ (∃ a' c', vs = .slice a' J c') ∧ Hid (R.length = j) ∧ Hid (Mid st sS c a.b ((l.take j).map (fun x => x.b)) R) ∧ Hid (st.C.length ≤ 4232 * j) ∧ Hid (LwR w0 wr p d c st U vs R)) (fun _ v _ => l.length - (intOf v).toNat)
  case atStart => exact ⟨0, 0, c5, st6, U5, [], Nat.zero_le _, rfl, hide rfl, ⟨none, 0, rfl⟩, hide rfl, HM, hide (by omega), HR6⟩
  case round =>
    obtain ⟨j, J, c, st, U, R, hj, rfl, HJ, ⟨va, vc, rfl⟩, HRJ, HMM, HCC, HLR⟩ := hrel
    by_cases hlt : j < l.length
    · have hx0 : l[j]? = some l[j] := List.getElem?_eq_getElem hlt
      have htk : (l.take (j + 1)).map (fun x => x.b) = (l.take j).map (fun x => x.b) ++ [l[j].b] := by rw [List.take_succ_eq_append_getElem hlt, List.map_append]; rfl
      obtain ⟨bb, off, hla, hcell, okx⟩ := (HLL.out.below HLR.out.l.bel) j _ hx0
      subst hla
      generalize l[j] = x at hcell okx hx0 htk
      have hxl := okx.big
      unfold maxLen at hxl
      have HOK := hide okx
      have HX0 := hide hx0
      have HTK := hide htk
      clear okx hx0 htk
      by_cases g5 : 500 < x.b.length
      · have HBE := hide (HB0.out.trans (HLR.out.l.bel.mono HB0.out.size))
        go_wp2
        go_ret
        exact ⟨rfl, HBE.out⟩
      · have g5' : x.b.length ≤ 500 := by omega
        have hxo : ∀ y, x.a = some y → 0 < x.b.length → ¬ U y.block := fun y hy hyl q => by
          have h1 := HLR.out.l.lo _ q
          have h2 := HLL.out j x HX0.out
          obtain ⟨b3, o3, _, _, ok3⟩ := h2
          have h4 := ok3.rd
          rw [hy] at h4
          have := Rd.lt h4 hyl
          omega
        have C7 := cput_any HLR.out.l.c (by have := HCC.out; omega) x.a x.c x.b HOK.out.rd HOK.out.nil HOK.out.len hxo HOK.out.byt
        have hCp := put_C c st x.b
        obtain ⟨y, q1, q2⟩ := HMM.out.put HOK.out.byt g5' (by rw [List.length_map, List.length_take]; omega)
        rw [q1] at C7
        generalize c.put st x.b = PT at C7 q2 hCp
        obtain ⟨⟨PS, PE⟩, c7, st7⟩ := PT
        simp only at C7 q2 hCp
        rw [← HTK.out] at q2
        have HC7 := hide C7
        have HQ2 := hide q2
        have HCP := hide hCp
        clear C7 q2 hCp q1 hxo g5
        go_wp2_with fail
        refine HC7.out.mono ?_
        rintro e w7 ⟨rfl, k7, o7⟩
        have L7 := (HLR.out.turn k7 o7).below ((Below.refl _ w7).alloc (Nat.le_refl _) (.cells #[.int .i64 y.1, .int .i64 y.2] 39))
        have hz7 : (w7.alloc (.cells #[.int .i64 y.1, .int .i64 y.2] 39)).heap.size = w7.heap.size + 1 := by simp
        have L7' : LwR w0 (w7.alloc (.cells #[.int .i64 y.1, .int .i64 y.2] 39)) p d c7 st7 (Gro U wr w7) (.slice va R.length vc) R := by rw [← HJ.out]; exact L7
        obtain ⟨a8, c8, w8, RR, L8⟩ := L7'.more y (by rw [HRJ.out]; omega)
        rw [hz7, ← HJ.out] at RR
        have hL2 : (R ++ [y]).length = j + 1 := by rw [List.length_append, HRJ.out]; rfl
        obtain ⟨J2, hJ2⟩ : ∃ J2, J2 = (R ++ [y]).length := ⟨_, rfl⟩
        rw [← hJ2] at RR L8
        obtain ⟨r1, r2, r3⟩ := app_runs RR
        have HL8 := hide L8
        have HJ2 := hide hJ2
        have HL2 := hide hL2
        clear k7 o7 L7 L7' RR L8 hJ2 hL2 hz7
        go_wp2
        go_roundw
        case rel => exact ⟨j + 1, J2, c7, st7, _, R ++ [y], by omega, by simp, HJ2, ⟨a8, c8, rfl⟩, HL2, HQ2, hide (by have := HCC.out; have := HCP.out; omega), HL8⟩
        case measure => simp [intOf]; omega
    · obtain rfl : j = l.length := by omega
      rw [List.take_length] at HMM
      have hxo : ∀ y, b.a = some y → 0 < b.b.length → ¬ U y.block := fun y hy hyl q => by
        have h1 := HLR.out.l.lo _ q
        have h4 := HBB.out.rd
        rw [hy] at h4
        have := Rd.lt h4 hyl
        omega
      have okB := HBB.out.below HLR.out.l.bel
      have hce2 : c.e < 18446744073709551615 := by have h1 := HMM.out.2.2.1; have h2 := HSE.out; omega
      have C7 := ccommit_any HLR.out.l.c hce2 (by have := HCC.out; omega) b.a b.c b.b okB.rd okB.nil okB.len hxo okB.byt
      obtain ⟨sX, tX, hfin⟩ := HMM.out.fin HSE.out HST.out HBB.out.byt g3' (by rw [List.length_map]; exact g1') f
      have hCm : (c.commit st b.b).2.2.C.length ≤ 1048576 := by
        have h1 := put_C c st b.b
        have h2 := HCC.out
        have h3 : ∀ s, ((c.put st b.b).2.2.save s).2.C.length ≤ (c.put st b.b).2.2.C.length + 1 := fun s => save_C _ s
        unfold Cg.commit
        split
        · show (c.put st b.b).2.2.C.length ≤ _
          omega
        · split
          · have := h3 ⟨c.e + 1, (c.put st b.b).1.1.a.toNat, (c.put st b.b).1.1.k.toNat, b.b.length⟩
            simp only
            omega
          · have := h3 ⟨c.e + 1, (c.put st b.b).1.1.a.toNat, (c.put st b.b).1.1.k.toNat, b.b.length⟩
            simp only
            omega
      generalize c.commit st b.b = PT at C7 hfin hCm
      obtain ⟨E7, c7, st7⟩ := PT
      simp only at C7 hfin hCm
      have HC7 := hide C7
      have HFN := hide hfin
      clear C7 hfin hxo okB hce2
      go_wp2_with fail
      refine HC7.out.mono ?_
      rintro e w7 ⟨rfl, k7, o7⟩
      have L7 := HLR.out.turn k7 o7
      have k8 := HK0.out.old L7.l.bel
      have x0 := k8.cell 0
      have x1 := k8.cell 1
      have x2 := k8.cell 2
      simp only [List.getElem?_cons_zero, List.getElem?_cons_succ] at x0 x1 x2
      obtain ⟨Od, L8, hOd⟩ := L7.dev
      have hko : ∀ x, f.ka = some x → 0 < f.keep.length → ¬ Od x.block := fun x hx hxl q => by
        have h1 := L8.lo _ q
        obtain ⟨b3, o3, h2, h3⟩ := HFF.out.rd 0 hxl
        rw [hx] at h2
        cases h2
        have h5 : b3 < w0.heap.size := World.block_lt_of_cell? _ _ h3
        have h6 : w0.heap.size ≤ b3 := h1
        omega
      have C8 := ccrash_any L8.c L8.hi (by omega) f (HFF.out.below L7.l.bel) hko
      unfold Fat.val Fat.cells at C8
      have HC8 := hide C8
      have HL7 := hide L7
      have HL8 := hide L8
      have HR7 := hide (L7.r)
      have HOD := hide hOd
      clear k7 o7 L7 k8 L8 hko C8 HC7 hOd
      go_wp2_with fail
      refine HC8.out.mono ?_
      rintro e w9 ⟨rfl, k9, o9⟩
      have L9 := HL8.out.turn' k9 o9
      have R9 := own_onl HR7.out o9 HOD.out
      have hbd := HL8.out.c.ok
      obtain ⟨F1, F2, F3, F4⟩ := HFN.out
      have hrst : Apo.Rest (st7.crashed f) := ⟨rfl, rfl, F1.bad⟩
      obtain ⟨p1, p2, p3, p4, p5⟩ := open_is F1 hrst F2
      rw [F3] at p2 p3
      have sok := F1.sok
      have hC9 : (st7.crashed f).C.length = 0 := rfl
      generalize st7.crashed f = stc at *
      have hfol := fun xs hx => opened_fol (xs := xs) F1 F2 hx
      have hokc := F1.ok
      have hrt := F1.root
      obtain ⟨eX, S0, P0, Z0⟩ := sX
      simp only at p1 p2 p3 p4 F2 F4 hfol hrt
      have HC10 := hide (copen_some L9.c L9.hi (by omega) eX S0 P0 Z0 p1 sok F2 tX p2 p3 p4)
      have HL9 := hide L9
      have HR9 := hide R9
      have HF4 := hide F4
      have HFO := hide hfol
      have HRS := hide hrst
      have HOKC := hide hokc
      have HRT := hide hrt
      clear k9 o9 L9 R9 hbd F1 F3 F4 p1 p2 p3 p4 p5 sok hfol hrst hokc hrt HC8 HFN x0 x1 x2 HR7 HL7 HL8
      go_wp2_with fail
      refine HC10.out.mono ?_
      rintro e w10 ⟨q, v10, rfl, t10, k10, b10⟩
      obtain ⟨a10, c10, hv10⟩ := t10.form
      subst hv10
      have cv10 := conv_tld t10
      have L10 := HL9.out.opened k10 b10
      have R10 := own_old8 HR9.out b10
      have A10 : ∀ g, (Value.slice va J vc).ownBlock = some g → ¬ Gro Od w9 w10 g := fun g q z => z.elim (HOD.out g q) (fun z => by have := (HR9.out.lt g q).2; omega)
      have T10 : LwR w0 w10 q d _ stc _ (.slice va J vc) R := ⟨L10, R10, A10⟩
      have cva := (HAA.out.below L10.bel).rd.conv (P := Try.prog) 23 5 9 Try.underlying23 Try.underlying5 Try.underlying9 a.c
      have cvb := (HBB.out.below L10.bel).rd.conv (P := Try.prog) 23 5 9 Try.underlying23 Try.underlying5 Try.underlying9 b.c
      have HC11 := hide (cepoch_any L10.c)
      have HT10 := hide T10
      clear t10 k10 b10 L10 R10 A10 T10 HC10 HL9 HR9 HOD
      generalize Gro Od w9 w10 = U10 at HT10
      rcases HF4.out with ⟨rfl, hE, rfl⟩ | ⟨rfl, rfl, xs, e1, e2, hap, htx⟩
      · have hEb : (E7 != 0) = true := by simpa using hE
        have hEc : (E7 == 0) = false := by simpa using hE
        have HBE := hide (HB0.out.trans (HT10.out.l.bel.mono HB0.out.size))
        clear HF4 HFO HT10 hE
        go_wp2_with fail
        refine HC11.out.mono ?_
        rintro e wx ⟨rfl, rfl⟩
        go_wp2
        go_ret
        exact ⟨by simp, HBE.out⟩
      · have hfo := HFO.out xs htx
        have HFL := hide hfo
        have HE1 := hide e1
        have HE2 := hide e2
        have HAP := hide hap
        have HTX := hide htx
        clear HF4 HFO hfo e1 e2 hap htx
        go_wp2_with fail
        refine HC11.out.mono ?_
        rintro e wx ⟨rfl, rfl⟩
        go_wp2_with fail
        refine HC11.out.mono ?_
        rintro e wx ⟨rfl, rfl⟩
        have hxl : l.length ≤ xs.length := by have := congrArg List.length HE1.out; simp at this; omega
        have hmS : S0 ≤ stc.S.length / 4 := by
          rcases HRT.out with ⟨r1, _⟩ | ⟨_, _, _, r4, _⟩
          · exact absurd r1 F2
          · have r4' : S0 + P0 ≤ stc.S.length / 4 := r4
            omega
        clear HC11
        go_wp2
        clear cv10 cva cvb
        go_loopw [128] (fun v wr => ∃ (i : Nat) (c : Cg) (U : Nat → Prop), i ≤ l.length ∧ v = .int .i64 i ∧ Hid (Fol c (xs.drop i)) ∧ Hid (LwR w0 wr q d c stc U (.slice va J vc) R)) (fun v _ => l.length - (intOf v).toNat)
        case atStart => exact ⟨0, _, U10, Nat.zero_le _, rfl, HFL, HT10⟩
        case round =>
          obtain ⟨i, c, U, hi, rfl, HFI, HLI⟩ := hrel
          by_cases hlt : i < l.length
          · have hx0 : l[i]? = some l[i] := List.getElem?_eq_getElem hlt
            have hix : i < xs.length := by omega
            have hy0 : xs[i]? = some xs[i] := List.getElem?_eq_getElem hix
            have ey : xs[i].2 = l[i].b := by
              have h1 : (xs.map (fun y => y.2))[i]? = (l.map (fun x => x.b))[i]? := by rw [HE1.out]
              rw [List.getElem?_map, List.getElem?_map, hy0, hx0] at h1
              simpa using h1
            have hiR : i < R.length := by rw [HRJ.out]; exact hlt
            have hr0 : R[i]? = some R[i] := List.getElem?_eq_getElem hiR
            have es : xs[i].1 = ⟨(R[i].1 : Int), (R[i].2 : Int)⟩ := by
              have h1 : (xs.map (fun y => y.1))[i]? = (R.map (fun x => (⟨(x.1 : Int), (x.2 : Int)⟩ : Spn)))[i]? := by rw [HE2.out]
              rw [List.getElem?_map, List.getElem?_map, hy0, hr0] at h1
              simpa using h1
            have hdr : xs.drop i = xs[i] :: xs.drop (i + 1) := List.drop_eq_getElem_cons hix
            have hmem : xs[i] ∈ xs := List.getElem_mem hix
            obtain ⟨t1, t2, t3⟩ := text_told HOKC.out HRS.out (HTX.out _ hmem) hmS
            have hbd : xs[i].1.a ≤ 16384 ∧ xs[i].1.k ≤ 16384 := by
              obtain ⟨A, n, g1, _, _, _, _, g6, _⟩ := HTX.out _ hmem
              have h9 := HOKC.out.size
              rw [g1]
              simp only
              omega
            have hfi := HFI.out
            have hpi : (xs.drop i).Pairwise (fun y z => y.1.a + y.1.k ≤ z.1.a) := HAP.out.sublist (List.drop_sublist i xs)
            rw [hdr] at hfi hpi
            generalize xs[i] = y at ey es hfi hpi t1 t2 t3 hbd
            obtain ⟨ya, yb⟩ := y
            simp only at ey es t1 t2 t3 hbd
            subst ey
            subst es
            obtain ⟨f1, f2, f3, f4⟩ := hfi.claim hpi (by simp only; omega) (by simp only; omega)
            simp only at f1 f2 f3 f4 t1 t2 hbd
            obtain ⟨bb, off, hla, hcell, okx⟩ := (HLL.out.below HLI.out.l.bel) i _ hx0
            subst hla
            obtain ⟨g, vc2, hv, hg1, hg2, hg3, _⟩ := own_shape2 HLI.out.r (by omega)
            simp only [Value.slice.injEq] at hv
            have hva := hv.1
            clear hv
            subst hva
            have hrc := rcells_at hr0
            have hcA : ∀ j, j < R.length * 2 → wr.cell? ⟨g, j, none⟩ = (rcells R)[j]? := by
              intro j hj
              have hr9 := HLI.out.r
              rw [HJ.out] at hr9
              exact hr9.cellAt j hj
            have s0 : wr.cell? ⟨g, i * 2, none⟩ = some (.int .i64 (R[i].1 : Int)) := (hcA (i * 2) (by omega)).trans hrc.1
            have s1 : wr.cell? ⟨g, i * 2 + 1, none⟩ = some (.int .i64 (R[i].2 : Int)) := (hcA (i * 2 + 1) (by omega)).trans hrc.2
            generalize R[i] = y at s0 s1 f1 f2 f3 f4 t1 t2 hr0 hbd
            generalize l[i] = x at hcell okx t1 t2 hx0
            have hxb := okx.big
            unfold maxLen at hxb
            have hiJ : i < J := by rw [HJ.out, HRJ.out]; exact hlt
            have C12 := cget_any HLI.out.l.c hfi.1 (by omega) (y.1 : Int) (x.b.length : Int) x.b t1
            rw [← t2] at C12
            have HC12 := hide C12
            have HF4 := hide f4
            have HF1 := hide f1
            have HF2 := hide f2
            have HF3 := hide f3
            have HFE := hide hfi.1
            have HOX := hide okx
            clear C12 f1 f2 f3 f4 hfi hpi t1 t2 t3 okx hx0 hr0 hy0 hdr hmem hrc hix hiR hcA
            obtain ⟨hbd1, hbd2⟩ := hbd
            go_wp2_with fail
            refine HC12.out.mono ?_
            rintro e w12 ⟨v12, rfl, t12, b12⟩
            obtain ⟨a12, c12, hv12⟩ := t12.form
            subst hv12
            have cvt := conv_tld t12
            have cvx := (HOX.out.below b12).rd.conv (P := Try.prog) 23 5 9 Try.underlying23 Try.underlying5 Try.underlying9 x.c
            have L12 := HLI.out.below b12
            have s0' := (b12.cell (p := ⟨g, i * 2, none⟩) (World.block_lt_of_cell? _ _ s0)).trans s0
            have s1' := (b12.cell (p := ⟨g, i * 2 + 1, none⟩) (World.block_lt_of_cell? _ _ s1)).trans s1
            have HC13 := hide (cpclaim_any L12.l.c HFE.out ⟨(y.1 : Int), (y.2 : Int)⟩ ⟨by show -9223372036854775808 ≤ (y.1 : Int); omega, by show (y.1 : Int) ≤ 9223372036854775807; omega, by show -9223372036854775808 ≤ (y.2 : Int); omega, by show (y.2 : Int) ≤ 9223372036854775807; omega⟩ HF1.out HF2.out HF3.out)
            have HL12 := hide L12
            clear t12 b12 L12 s0 s1 HC12
            go_wp2_with fail
            refine HC13.out.mono ?_
            rintro e w13 ⟨rfl, k13, o13⟩
            have HL13 := hide (HL12.out.turn k13 o13)
            clear k13 o13 cvt cvx s0' s1' HC13
            go_wp2
            go_roundw
            case rel => exact ⟨i + 1, _, _, by omega, by simp, HF4, HL13⟩
            case measure => simp [intOf]; omega
          · obtain rfl : i = l.length := by omega
            have HBE := hide (HB0.out.trans (HLI.out.l.bel.mono HB0.out.size))
            go_wp2
            go_ret
            exact ⟨rfl, HBE.out⟩
end Go.Proofs.Ytcmblfhghebjjaa
