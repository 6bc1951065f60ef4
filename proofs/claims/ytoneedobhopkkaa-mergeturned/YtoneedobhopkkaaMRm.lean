/- The document's Merge, over the translation. -/
import Derived.Test.YtoneedobhopkkaaMCl
import Derived.Test.YtoneedobhopkkaaDKf
import Derived.Test.YtoneedobhopkkaaMPk
namespace Go.Proofs.Ytoneedobhopkkaa
open Go.RowKit Apo
attribute [local go_sem ↓] app_exec
/-- what a merge tells -/
def MgP (la lb lc : List En) (w : World) (e : Ending) (w' : World) : Prop := ∃ (ks : List ByteArray) (va : Option Addr) (vc : Nat) (ua : Option Addr) (uc : Nat), e = .returned (.tuple #[.slice va (mL la lb lc ks).length vc, .slice ua (cL la lb lc ks).length uc]) ∧ KsS ks (allK la lb lc) ∧ TwR w.heap.size w' (mL la lb lc ks) (cL la lb lc ks) va vc ua uc ∧ Below w.heap.size w w'
theorem TwR.lower {B B' : Nat} {W : World} {es : List En} {cs : List Cl} {va ua : Option Addr} {vc uc : Nat} (h : TwR B W es cs va vc ua uc) (hB : B' ≤ B) : TwR B' W es cs va vc ua uc := ⟨h.re.mono (fun _ q => Nat.le_trans hB q), h.rc.mono (fun _ q => Nat.le_trans hB q)⟩
set_option maxRecDepth 100000 in
set_option maxHeartbeats 16000000 in
theorem rmerge_any (w : World) (a b c : Option Addr) (ca cb cc : Nat) (la lb lc : List En) (ha : RdEn w a la) (hb : RdEn w b lb) (hc : RdEn w c lc) (hla : la.length ≤ 100000) (hlb : lb.length ≤ 100000) (hlc : lc.length ≤ 100000) (hra : RiseE la) (hrb : RiseE lb) (hrc : RiseE lc) :
    Calls Try.prog 13 #[.slice a la.length ca, .slice b lb.length cb, .slice c lc.length cc] w (MgP la lb lc w) := by
  have CG1 : ∀ W key, Below w.heap.size w W → Calls Try.prog 16 #[.slice a la.length ca, .string key] W (RgP la key W) := fun W key hW => rget_any W a ca la key (ha.below hW) (by omega)
  have CG2 : ∀ W key, Below w.heap.size w W → Calls Try.prog 16 #[.slice b lb.length cb, .string key] W (RgP lb key W) := fun W key hW => rget_any W b cb lb key (hb.below hW) (by omega)
  have CG3 : ∀ W key, Below w.heap.size w W → Calls Try.prog 16 #[.slice c lc.length cc, .string key] W (RgP lc key W) := fun W key hW => rget_any W c cc lc key (hc.below hW) (by omega)
  obtain ⟨W0, hW0⟩ : ∃ W0, W0 = w.alloc (.cells #[.slice a la.length ca, .slice b lb.length cb, .slice c lc.length cc] 28) := ⟨_, rfl⟩
  have b0 : Below w.heap.size w W0 := by rw [hW0]; exact (Below.refl _ w).alloc (Nat.le_refl _) _
  have k0 : Ob W0 w.heap.size 28 [.slice a la.length ca, .slice b lb.length cb, .slice c lc.length cc] := by rw [hW0]; exact Ob.new w [.slice a la.length ca, .slice b lb.length cb, .slice c lc.length cc] 28
  have hM : RdM W0 (some ⟨w.heap.size, 0, none⟩) [(a, ca, la), (b, cb, lb), (c, cc, lc)] := by
    intro i m hm
    match i with
    | 0 => simp at hm; subst hm; exact ⟨⟨_, _, rfl, by simpa using k0.cell 0⟩, ha.below b0⟩
    | 1 => simp at hm; subst hm; exact ⟨⟨_, _, rfl, by simpa using k0.cell 1⟩, hb.below b0⟩
    | 2 => simp at hm; subst hm; exact ⟨⟨_, _, rfl, by simpa using k0.cell 2⟩, hc.below b0⟩
    | i + 3 => simp at hm
  have CK := rkeys_any W0 _ 3 [(a, ca, la), (b, cb, lb), (c, cc, lc)] hM (by simp) (by simp; omega)
  have hkl : ([(a, ca, la), (b, cb, lb), (c, cc, lc)].flatMap (fun m => m.2.2)).map En.k = allK la lb lc := by simp [allK]
  rw [hkl, show [(a, ca, la), (b, cb, lb), (c, cc, lc)].length = 3 from rfl] at CK
  obtain ⟨n1, hn1⟩ : ∃ n, n = la.length := ⟨_, rfl⟩
  obtain ⟨n2, hn2⟩ : ∃ n, n = lb.length := ⟨_, rfl⟩
  obtain ⟨n3, hn3⟩ : ∃ n, n = lc.length := ⟨_, rfl⟩
  rw [← hn1] at CG1 hW0 ⊢
  rw [← hn2] at CG2 hW0 ⊢
  rw [← hn3] at CG3 hW0 ⊢
  have HCK := hide CK
  have HG1 := hide CG1
  have HG2 := hide CG2
  have HG3 := hide CG3
  have HRR := hide (And.intro hra (And.intro hrb hrc))
  have HLL := hide (And.intro hla (And.intro hlb hlc))
  have HB0 := hide b0
  clear CK CG1 CG2 CG3 hM k0 b0 ha hb hc hn1 hn2 hn3 hra hrb hrc hla hlb hlc hkl
  go_enter Try.func13, Try.ntmps13
  go_wp2_with fail
  rw [← hW0]
  clear hW0
  refine HCK.out.mono ?_
  rintro e' w1 ⟨ks, ka, kc, rfl, hks, krow, kb⟩
  obtain ⟨ln, hln⟩ : ∃ ln, ln = ks.length := ⟨_, rfl⟩
  rw [← hln]
  have hlk : ln ≤ 1000000 := by have h1 := hks.len; have h2 := HLL.out; simp [allK] at h1; omega
  have b1w : Below w.heap.size w w1 := HB0.out.trans (kb.mono HB0.out.size)
  have HKS := hide hks
  have HLN := hide hln
  obtain ⟨a', cp', hv', rd', _⟩ := rd_gcells cTx_len krow
  injection hv' with e1 e2 e3
  subst e1 e3
  have HRD := hide rd'
  have HB1 := hide b1w
  clear hks hln krow kb rd' b1w e2 HCK HB0
  go_wp2
  go_loopw [8, 9, 23] (fun v u i wr => ∃ (j : Nat) (va : Option Addr) (vc nv : Nat) (ua : Option Addr) (uc nu : Nat), j ≤ ln ∧ i = .int .i64 j ∧ v = .slice va nv vc ∧ u = .slice ua nu uc ∧ Hid (nv = (mL la lb lc (ks.take j)).length) ∧ Hid (nu = (cL la lb lc (ks.take j)).length) ∧ Hid (TwR w1.heap.size wr (mL la lb lc (ks.take j)) (cL la lb lc (ks.take j)) va vc ua uc) ∧ Hid (Below w1.heap.size w1 wr)) (fun _ _ i _ => ln - (intOf i).toNat)
  case atStart => exact ⟨0, none, 0, 0, none, 0, 0, Nat.zero_le _, rfl, rfl, rfl, hide rfl, hide rfl, hide (TwR.nil _ _), hide (Below.refl _ _)⟩
  case round =>
    obtain ⟨j, va, vc, nv, ua, uc, nu, hj, rfl, rfl, rfl, HNV, HNU, HT, HBr⟩ := hrel
    by_cases hjn : j < ln
    · obtain ⟨key, hx⟩ : ∃ x, ks[j]? = some x := ⟨ks[j]'(by have := HLN.out; omega), List.getElem?_eq_getElem _⟩
      obtain ⟨g, o, rfl, c0⟩ := (HRD.out.below HBr.out).tx hx
      have HTK : Hid (ks.take (j + 1) = ks.take j ++ [key]) := hide (by rw [List.take_add_one, hx]; rfl)
      have HLE : Hid ((mL la lb lc (ks.take j)).length + 1 ≤ 100000000 ∧ (cL la lb lc (ks.take j)).length + 1 ≤ 100000000) := hide (by
        have h1 := mL_len la lb lc (ks.take j)
        have h2 := cL_len la lb lc (ks.take j)
        have h3 := HLN.out
        rw [List.length_take] at h1 h2
        omega)
      have hB2 := HB1.out.trans (HBr.out.mono HB1.out.size)
      have HB2 := hide hB2
      have HC1 := hide (HG1.out wr key hB2)
      clear hB2 hx
      go_wp2_with fail
      refine HC1.out.mono ?_
      rintro e' y1 ⟨v1, d1, rfl, g1, u1⟩
      have HC2 := hide (HG2.out y1 key (HB2.out.trans (u1.mono HB2.out.size)))
      have HGE1 := hide (gS_of HRR.out.1 g1)
      have HU1 := hide u1
      clear g1 u1 HC1
      go_wp2_with fail
      refine HC2.out.mono ?_
      rintro e' y2 ⟨v2, d2, rfl, g2, u2⟩
      have HU2 := hide (HU1.out.trans (u2.mono HU1.out.size))
      have HC3 := hide (HG3.out y2 key (HB2.out.trans (HU2.out.mono HB2.out.size)))
      have HGE2 := hide (gS_of HRR.out.2.1 g2)
      clear g2 u2 HC2 HU1
      go_wp2_with fail
      refine HC3.out.mono ?_
      rintro e' y3 ⟨v3, d3, rfl, g3, u3⟩
      have HGE3 := hide (gS_of HRR.out.2.2 g3)
      have hU3 := HU2.out.trans (u3.mono HU2.out.size)
      obtain ⟨W4, hW4⟩ : ∃ W4, W4 = ((y3.alloc (.cells #[.bool d1, .string v1] 23)).alloc (.cells #[.bool d2, .string v2] 23)).alloc (.cells #[.bool d3, .string v3] 23) := ⟨_, rfl⟩
      have u4 : Below y3.heap.size y3 W4 := by rw [hW4]; exact (((Below.refl _ y3).alloc (Nat.le_refl _) _).alloc (by simp) _).alloc (by simp; omega) _
      have ka : Ob W4 y3.heap.size 23 [.bool d1, .string v1] := by rw [hW4]; exact ((Ob.new y3 [.bool d1, .string v1] 23).alloc _).alloc _
      have kb : Ob W4 (y3.heap.size + 1) 23 [.bool d2, .string v2] := by rw [hW4]; exact Ob.alloc (ob_push (cs := [.bool d2, .string v2]) (by simp)) _
      have kc : Ob W4 (y3.heap.size + 1 + 1) 23 [.bool d3, .string v3] := by rw [hW4]; exact ob_push (cs := [.bool d3, .string v3]) (by simp)
      obtain ⟨⟨⟨sb, sv⟩, is⟩, hpk⟩ : ∃ p, pk la lb lc key = p := ⟨_, rfl⟩
      have CY := pick_any ⟨d1, v1⟩ ⟨d2, v2⟩ ⟨d3, v3⟩ W4
      have hps : pickS ⟨d1, v1⟩ ⟨d2, v2⟩ ⟨d3, v3⟩ = (⟨sb, sv⟩, is) := by rw [← HGE1.out, ← HGE2.out, ← HGE3.out, pk_is, hpk]
      unfold KyP at CY
      rw [hps] at CY
      simp only at CY
      have HCY := hide CY
      have HKA := hide ka
      have HKB := hide kb
      have HKC := hide kc
      have HPK := hide hpk
      have HU1 := hide (hU3.trans (u4.mono hU3.size))
      clear CY ka kb kc hpk hps u3 u4 hU3 g3 HC3 HU2
      go_wp2_with fail
      rw [← hW4]
      clear hW4
      refine HCY.out.mono ?_
      rintro e' w5 ⟨rfl, u5⟩
      have hb5 : Below wr.heap.size wr w5 := HU1.out.trans (u5.mono HU1.out.size)
      have k5a := HKA.out.old u5
      have k5b := HKB.out.old u5
      have k5c := HKC.out.old u5
      clear HCY
      obtain ⟨W6, hW6⟩ : ∃ W6, W6 = w5.alloc (.cells #[.bool sb, .string sv] 23) := ⟨_, rfl⟩
      have u6 : Below w5.heap.size w5 W6 := by rw [hW6]; exact (Below.refl _ w5).alloc (Nat.le_refl _) _
      have hb6 : Below wr.heap.size wr W6 := hb5.trans (u6.mono hb5.size)
      have T6 := HT.out.below hb6
      have B6 := HBr.out.trans (hb6.mono HBr.out.size)
      have KS : Ob W6 w5.heap.size 23 [.bool sb, .string sv] := by rw [hW6]; exact Ob.new w5 [.bool sb, .string sv] 23
      have KA := k5a.old u6
      have KB := k5b.old u6
      have KC := k5c.old u6
      have ka' := KA
      have kb' := KB
      have kc' := KC
      rw [hW6] at ka' kb' kc'
      have z0 := ka'.cell 0
      have z1 := ka'.cell 1
      have z2 := kb'.cell 0
      have z3 := kb'.cell 1
      have z4 := kc'.cell 0
      have z5 := kc'.cell 1
      simp only [List.getElem?_cons_zero, List.getElem?_cons_succ] at z0 z1 z2 z3 z4 z5
      clear u5 hb5 k5a k5b k5c u6 hb6 ka' kb' kc' HU1 HKA HKB HKC
      cases is with
      | true =>
        cases sb with
        | true =>
          have hpm : mF la lb lc key = some ⟨key, sv⟩ := mF_some (v := sv) (by rw [HPK.out])
          have hpc : cF la lb lc key = none := cF_none (by rw [HPK.out])
          have hM := mL_snoc la lb lc (ks.take j) key
          have hC := cL_snoc la lb lc (ks.take j) key
          rw [hpm, ← HTK.out] at hM
          rw [hpc, ← HTK.out] at hC
          simp only [Option.toList] at hM hC
          rw [List.append_nil] at hC
          obtain ⟨va7, vc7, W7, R7, T7, B7, O7⟩ := T6.en B6.size (by have := HLE.out; omega) ⟨key, sv⟩
          rw [← hM] at T7 R7
          obtain ⟨nv7, hn7⟩ : ∃ n, n = (mL la lb lc (ks.take (j + 1))).length := ⟨_, rfl⟩
          rw [← hn7, ← HNV.out] at R7
          have HN7 := hide hn7
          have B7a := B6.trans B7
          rw [hW6] at R7
          simp only [World.size_alloc] at R7
          obtain ⟨r7a, r7b, r7c⟩ := app_runs R7
          have HNU2 : Hid (nu = (cL la lb lc (ks.take (j + 1))).length) := hide (by rw [hC]; exact HNU.out)
          have TF := T7
          rw [← hC] at TF
          have HTF := hide TF
          have HBF := hide B7a
          clear hpm hpc R7 O7 hn7 hM hC TF T6 T7 B7 B7a B6 HLE
          clear hW6
          clear KS KA KB KC
          go_wp2
          go_roundw
          case rel => exact ⟨j + 1, va7, vc7, nv7, ua, uc, nu, by omega, by simp, rfl, rfl, HN7, HNU2, HTF, HBF⟩
          case measure => simp [intOf]; omega
        | false =>
          have hpm : mF la lb lc key = none := mF_none (v := sv) (by rw [HPK.out])
          have hpc : cF la lb lc key = none := cF_none (by rw [HPK.out])
          have hM := mL_snoc la lb lc (ks.take j) key
          have hC := cL_snoc la lb lc (ks.take j) key
          rw [hpm, ← HTK.out] at hM
          rw [hpc, ← HTK.out] at hC
          simp only [Option.toList] at hM hC
          rw [List.append_nil] at hM
          rw [List.append_nil] at hC
          have HNV2 : Hid (nv = (mL la lb lc (ks.take (j + 1))).length) := hide (by rw [hM]; exact HNV.out)
          have HNU2 : Hid (nu = (cL la lb lc (ks.take (j + 1))).length) := hide (by rw [hC]; exact HNU.out)
          have TF := T6
          rw [← hM, ← hC] at TF
          have HTF := hide TF
          have HBF := hide B6
          clear hpm hpc hM hC TF T6 B6 HLE
          rw [hW6] at HTF HBF
          clear hW6
          clear KS KA KB KC
          go_wp2
          go_roundw
          case rel => exact ⟨j + 1, va, vc, nv, ua, uc, nu, by omega, by simp, rfl, rfl, HNV2, HNU2, HTF, HBF⟩
          case measure => simp [intOf]; omega
      | false =>
        cases sb with
        | true =>
          have hpm : mF la lb lc key = some ⟨key, sv⟩ := mF_some (v := sv) (by rw [HPK.out])
          have hpc := cF_some (a := la) (b := lb) (c := lc) (k := key) (by rw [HPK.out])
          rw [HGE1.out, HGE2.out, HGE3.out] at hpc
          have hM := mL_snoc la lb lc (ks.take j) key
          have hC := cL_snoc la lb lc (ks.take j) key
          rw [hpm, ← HTK.out] at hM
          rw [hpc, ← HTK.out] at hC
          simp only [Option.toList] at hM hC
          obtain ⟨va7, vc7, W7, R7, T7, B7, O7⟩ := T6.en B6.size (by have := HLE.out; omega) ⟨key, sv⟩
          rw [← hM] at T7 R7
          obtain ⟨nv7, hn7⟩ : ∃ n, n = (mL la lb lc (ks.take (j + 1))).length := ⟨_, rfl⟩
          rw [← hn7, ← HNV.out] at R7
          have HN7 := hide hn7
          have B7a := B6.trans B7
          have x70 := O7 _ _ _ KA (by decide)
          have xa70 := x70.cell 0
          have xb70 := x70.cell 1
          simp only [List.getElem?_cons_zero, List.getElem?_cons_succ] at xa70 xb70
          have x71 := O7 _ _ _ KB (by decide)
          have xa71 := x71.cell 0
          have xb71 := x71.cell 1
          simp only [List.getElem?_cons_zero, List.getElem?_cons_succ] at xa71 xb71
          have x72 := O7 _ _ _ KC (by decide)
          have xa72 := x72.cell 0
          have xb72 := x72.cell 1
          simp only [List.getElem?_cons_zero, List.getElem?_cons_succ] at xa72 xb72
          rw [hW6] at R7
          simp only [World.size_alloc] at R7
          obtain ⟨r7a, r7b, r7c⟩ := app_runs R7
          obtain ⟨ua8, uc8, W8, R8, T8, B8, O8⟩ := T7.cl B7a.size (by have := HLE.out; omega) ⟨key, ⟨d1, v1⟩, ⟨d2, v2⟩, ⟨d3, v3⟩⟩
          rw [← hC] at T8 R8
          obtain ⟨nu8, hn8⟩ : ∃ n, n = (cL la lb lc (ks.take (j + 1))).length := ⟨_, rfl⟩
          rw [← hn8, ← HNU.out] at R8
          have HN8 := hide hn8
          have B8a := B7a.trans B8
          simp only at R8
          obtain ⟨r8a, r8b, r8c⟩ := app_runs R8
          have TF := T8
          have HTF := hide TF
          have HBF := hide B8a
          clear hpm hpc x70 x71 x72 R7 O7 hn7 R8 O8 hn8 T7 hM hC TF T6 T8 B7 B7a B8 B8a B6 HLE
          clear hW6
          clear KS KA KB KC
          go_wp2
          go_roundw
          case rel => exact ⟨j + 1, va7, vc7, nv7, ua8, uc8, nu8, by omega, by simp, rfl, rfl, HN7, HN8, HTF, HBF⟩
          case measure => simp [intOf]; omega
        | false =>
          have hpm : mF la lb lc key = none := mF_none (v := sv) (by rw [HPK.out])
          have hpc := cF_some (a := la) (b := lb) (c := lc) (k := key) (by rw [HPK.out])
          rw [HGE1.out, HGE2.out, HGE3.out] at hpc
          have hM := mL_snoc la lb lc (ks.take j) key
          have hC := cL_snoc la lb lc (ks.take j) key
          rw [hpm, ← HTK.out] at hM
          rw [hpc, ← HTK.out] at hC
          simp only [Option.toList] at hM hC
          rw [List.append_nil] at hM
          obtain ⟨ua7, uc7, W7, R7, T7, B7, O7⟩ := T6.cl B6.size (by have := HLE.out; omega) ⟨key, ⟨d1, v1⟩, ⟨d2, v2⟩, ⟨d3, v3⟩⟩
          rw [← hC] at T7 R7
          obtain ⟨nu7, hn7⟩ : ∃ n, n = (cL la lb lc (ks.take (j + 1))).length := ⟨_, rfl⟩
          rw [← hn7, ← HNU.out] at R7
          have HN7 := hide hn7
          have B7a := B6.trans B7
          rw [hW6] at R7
          simp only [World.size_alloc] at R7
          obtain ⟨r7a, r7b, r7c⟩ := app_runs R7
          have HNV2 : Hid (nv = (mL la lb lc (ks.take (j + 1))).length) := hide (by rw [hM]; exact HNV.out)
          have TF := T7
          rw [← hM] at TF
          have HTF := hide TF
          have HBF := hide B7a
          clear hpm hpc R7 O7 hn7 hM hC TF T6 T7 B7 B7a B6 HLE
          clear hW6
          clear KS KA KB KC
          go_wp2
          go_roundw
          case rel => exact ⟨j + 1, va, vc, nv, ua7, uc7, nu7, by omega, by simp, rfl, rfl, HNV2, HN7, HTF, HBF⟩
          case measure => simp [intOf]; omega
    · have HF : Hid (MgP la lb lc w (.returned (.tuple #[.slice va nv vc, .slice ua nu uc])) wr) := by
        have hT := HT.out
        have h1 := HNV.out
        have h2 := HNU.out
        rw [List.take_of_length_le (by have := HLN.out; omega)] at hT h1 h2
        exact hide ⟨ks, va, vc, ua, uc, by rw [h1, h2], HKS.out, hT.lower HB1.out.size, HB1.out.trans (HBr.out.mono HB1.out.size)⟩
      clear HT
      go_wp2
      exact bodyPost_ret (by simp [results, Try.results13]) rfl HF.out
end Go.Proofs.Ytoneedobhopkkaa
