/- merge.Of, over the translation. -/
import Derived.Test.YtoneedobhopkkaaMCl
import Derived.Test.YtoneedobhopkkaaMKs
import Derived.Test.YtoneedobhopkkaaMKy
import Derived.Test.YtoneedobhopkkaaMRm
namespace Go.Proofs.Ytoneedobhopkkaa
open Go.RowKit Apo
attribute [local go_sem ↓] app_exec
set_option maxRecDepth 100000 in
set_option maxHeartbeats 16000000 in
theorem mof_any (w : World) (a b c : Option Addr) (ca cb cc : Nat) (la lb lc : List En) (ha : RdEn w a la) (hb : RdEn w b lb) (hc : RdEn w c lc) (hla : la.length ≤ 100000) (hlb : lb.length ≤ 100000) (hlc : lc.length ≤ 100000) (hra : RiseE la) (hrb : RiseE lb) (hrc : RiseE lc) (hsa : ∀ e ∈ la, e.k.size ≤ maxLen) (hsb : ∀ e ∈ lb, e.k.size ≤ maxLen) (hsc : ∀ e ∈ lc, e.k.size ≤ maxLen) :
    Calls Try.prog 12 #[.slice a la.length ca, .slice b lb.length cb, .slice c lc.length cc] w (MgP la lb lc w) := by
  have CV1 := values_any w a ca la ha hla hsa
  have CV2 : ∀ W, Below w.heap.size w W → Calls Try.prog 21 #[.slice b lb.length cb] W (MvP lb W) := fun W u => values_any W b cb lb (hb.below u) hlb hsb
  have CV3 : ∀ W, Below w.heap.size w W → Calls Try.prog 21 #[.slice c lc.length cc] W (MvP lc W) := fun W u => values_any W c cc lc (hc.below u) hlc hsc
  have hsk : ∀ m ∈ ([(0, la), (0, lb), (0, lc)] : List (Nat × List En)), ∀ e ∈ m.2, e.k.size ≤ maxLen := by
    intro m hm
    simp only [List.mem_cons, List.mem_nil_iff, or_false] at hm
    rcases hm with rfl | rfl | rfl
    · exact hsa
    · exact hsb
    · exact hsc
  have hz : ∀ W, (zeroValue 23).run Try.prog W = .ok (.agg #[.bool false, .string ⟨#[]⟩]) W := fun W => by go_simp
  obtain ⟨n1, hn1⟩ : ∃ n, n = la.length := ⟨_, rfl⟩
  obtain ⟨n2, hn2⟩ : ∃ n, n = lb.length := ⟨_, rfl⟩
  obtain ⟨n3, hn3⟩ : ∃ n, n = lc.length := ⟨_, rfl⟩
  rw [← hn1] at CV1 ⊢
  rw [← hn2] at CV2 ⊢
  rw [← hn3] at CV3 ⊢
  have HV1 := hide CV1
  have HV2 := hide CV2
  have HV3 := hide CV3
  have HRR := hide (And.intro hra (And.intro hrb hrc))
  have HLL := hide (And.intro hla (And.intro hlb hlc))
  have HSZ := hide (And.intro hsa (And.intro hsb hsc))
  have HZ := hide hz
  clear CV1 CV2 CV3 hsk ha hb hc hn1 hn2 hn3 hra hrb hrc hla hlb hlc hsa hsb hsc hz
  go_enter Try.func12, Try.ntmps12
  go_wp2_with fail
  refine HV1.out.mono ?_
  rintro e' v1 ⟨b1, rfl, m1, u1⟩
  have HC2 := hide (HV2.out v1 u1)
  have HM1 := hide m1
  have HU1 := hide u1
  clear m1 u1 HV1 HV2
  go_wp2_with fail
  refine HC2.out.mono ?_
  rintro e' v2 ⟨b2, rfl, m2, u2⟩
  have HU2 := hide (HU1.out.trans (u2.mono HU1.out.size))
  have HC3 := hide (HV3.out v2 HU2.out)
  have HM1b := hide (HM1.out.below u2)
  have HM2 := hide m2
  clear m2 u2 HC2 HV3 HU1 HM1
  go_wp2_with fail
  refine HC3.out.mono ?_
  rintro e' v3 ⟨b3, rfl, m3, u3⟩
  have hu3 := HU2.out.trans (u3.mono HU2.out.size)
  have hm1 := HM1b.out.below u3
  have hm2 := HM2.out.below u3
  obtain ⟨W0, hW0⟩ : ∃ W0, W0 = v3.alloc (.cells #[.map (some b1), .map (some b2), .map (some b3)] 42) := ⟨_, rfl⟩
  have b0 : Below v3.heap.size v3 W0 := by rw [hW0]; exact (Below.refl _ v3).alloc (Nat.le_refl _) _
  have k0 : Ob W0 v3.heap.size 42 [.map (some b1), .map (some b2), .map (some b3)] := by rw [hW0]; exact Ob.new v3 [.map (some b1), .map (some b2), .map (some b3)] 42
  have hM : RdB W0 (some ⟨v3.heap.size, 0, none⟩) [(b1, la), (b2, lb), (b3, lc)] := by
    intro i m hm
    match i with
    | 0 => simp at hm; subst hm; exact ⟨⟨_, _, rfl, by simpa using k0.cell 0⟩, hm1.below b0⟩
    | 1 => simp at hm; subst hm; exact ⟨⟨_, _, rfl, by simpa using k0.cell 1⟩, hm2.below b0⟩
    | 2 => simp at hm; subst hm; exact ⟨⟨_, _, rfl, by simpa using k0.cell 2⟩, m3.below b0⟩
    | i + 3 => simp at hm
  have hkl : keysL [(b1, la), (b2, lb), (b3, lc)] = allK la lb lc := by simp [keysL, allK]
  have CK := keys_any W0 _ 3 [(b1, la), (b2, lb), (b3, lc)] hM (by simp) (by rw [hkl]; have := HLL.out; simp [allK]; omega) (by
    intro m hm
    simp only [List.mem_cons, List.mem_nil_iff, or_false] at hm
    rcases hm with rfl | rfl | rfl
    · exact HSZ.out.1
    · exact HSZ.out.2.1
    · exact HSZ.out.2.2)
  rw [hkl, show [(b1, la), (b2, lb), (b3, lc)].length = 3 from rfl] at CK
  have HCK := hide CK
  have HB0 := hide (hu3.trans (b0.mono hu3.size))
  have HM1c := hide (hm1.below b0)
  have HM2c := hide (hm2.below b0)
  have HM3c := hide (m3.below b0)
  clear CK hM k0 b0 hm1 hm2 m3 u3 hu3 HM1b HM2 HU2 HC3 hkl
  go_wp2_with fail
  rw [← hW0]
  clear hW0
  refine HCK.out.mono ?_
  rintro e' w1 ⟨ks, ka, kc, rfl, hks, krow, kb⟩
  have HM1 := hide (HM1c.out.below kb)
  have HM2 := hide (HM2c.out.below kb)
  have HM3 := hide (HM3c.out.below kb)
  clear HM1c HM2c HM3c
  obtain ⟨ln, hln⟩ : ∃ ln, ln = ks.length := ⟨_, rfl⟩
  rw [← hln]
  have hlk : ln ≤ 1000000 := by have h1 := hks.len; have h2 := HLL.out; simp [allK] at h1; omega
  have b1w : Below w.heap.size w w1 := HB0.out.trans (kb.mono HB0.out.size)
  have HKS := hide hks
  have HLN := hide hln
  obtain ⟨a', cp', hv', rd', _⟩ := rd_gcells cTx_len krow
  injection hv' with e1 e2 e3
  subst e1 e3
  have HRD := hide rd'
  have HB1 := hide b1w
  clear hks hln krow kb rd' b1w e2 HCK HB0
  go_wp2
  go_loopw [11, 12, 30] (fun v u i wr => ∃ (j : Nat) (va : Option Addr) (vc nv : Nat) (ua : Option Addr) (uc nu : Nat), j ≤ ln ∧ i = .int .i64 j ∧ v = .slice va nv vc ∧ u = .slice ua nu uc ∧ Hid (nv = (mL la lb lc (ks.take j)).length) ∧ Hid (nu = (cL la lb lc (ks.take j)).length) ∧ Hid (TwR w1.heap.size wr (mL la lb lc (ks.take j)) (cL la lb lc (ks.take j)) va vc ua uc) ∧ Hid (Below w1.heap.size w1 wr)) (fun _ _ i _ => ln - (intOf i).toNat)
  case atStart => exact ⟨0, none, 0, 0, none, 0, 0, Nat.zero_le _, rfl, rfl, rfl, hide rfl, hide rfl, hide (TwR.nil _ _), hide (Below.refl _ _)⟩
  case round =>
    obtain ⟨j, va, vc, nv, ua, uc, nu, hj, rfl, rfl, rfl, HNV, HNU, HT, HBr⟩ := hrel
    by_cases hjn : j < ln
    · obtain ⟨key, hx⟩ : ∃ x, ks[j]? = some x := ⟨ks[j]'(by have := HLN.out; omega), List.getElem?_eq_getElem _⟩
      obtain ⟨g, o, rfl, c0⟩ := (HRD.out.below HBr.out).tx hx
      have HTK : Hid (ks.take (j + 1) = ks.take j ++ [key]) := hide (by rw [List.take_add_one, hx]; rfl)
      have HLE : Hid ((mL la lb lc (ks.take j)).length + 1 ≤ 100000000 ∧ (cL la lb lc (ks.take j)).length + 1 ≤ 100000000) := hide (by
        have h1 := mL_len la lb lc (ks.take j)
        have h2 := cL_len la lb lc (ks.take j)
        have h3 := HLN.out
        rw [List.length_take] at h1 h2
        omega)
      have hks : key.size ≤ maxLen := by
        have := (HKS.out.mem key).1 (List.mem_of_getElem? hx)
        unfold allK at this
        obtain ⟨e, he, rfl⟩ := List.mem_map.1 this
        rw [List.mem_append, List.mem_append] at he
        rcases he with q | q | q
        · exact HSZ.out.1 e q
        · exact HSZ.out.2.1 e q
        · exact HSZ.out.2.2 e q
      have hkt : Try.prog.underlying 9 = some .string := by rfl
      have L1 := (HM1.out.below HBr.out).look (t := 42) hkt (by rfl) HZ.out hks
      have L2 := (HM2.out.below HBr.out).look (t := 42) hkt (by rfl) HZ.out hks
      have L3 := (HM3.out.below HBr.out).look (t := 42) hkt (by rfl) HZ.out hks
      rw [vM_is HRR.out.1] at L1
      rw [vM_is HRR.out.2.1] at L2
      rw [vM_is HRR.out.2.2] at L3
      obtain ⟨sa, hsa⟩ : ∃ s, s = gS la key := ⟨_, rfl⟩
      obtain ⟨sb', hsb⟩ : ∃ s, s = gS lb key := ⟨_, rfl⟩
      obtain ⟨sc, hsc⟩ : ∃ s, s = gS lc key := ⟨_, rfl⟩
      obtain ⟨W1, hW1⟩ : ∃ W1, W1 = wr.alloc (.cells #[.string key, .bool sa.b, .string sa.v, .bool sb'.b, .string sb'.v, .bool sc.b, .string sc.v] 37) := ⟨_, rfl⟩
      have u1 : Below wr.heap.size wr W1 := by rw [hW1]; exact (Below.refl _ wr).alloc (Nat.le_refl _) _
      have k1 : Ob W1 wr.heap.size 37 [.string key, .bool sa.b, .string sa.v, .bool sb'.b, .string sb'.v, .bool sc.b, .string sc.v] := by rw [hW1]; exact Ob.new wr [.string key, .bool sa.b, .string sa.v, .bool sb'.b, .string sb'.v, .bool sc.b, .string sc.v] 37
      obtain ⟨⟨⟨sb, sv⟩, is⟩, hpk⟩ : ∃ p, pk la lb lc key = p := ⟨_, rfl⟩
      have CY := key_any sa sb' sc W1
      have hps : pickS sa sb' sc = (⟨sb, sv⟩, is) := by rw [hsa, hsb, hsc, pk_is, hpk]
      unfold KyP at CY
      rw [hps] at CY
      rw [← hsa] at L1
      rw [← hsb] at L2
      rw [← hsc] at L3
      have HCY := hide CY
      have HK1 := hide k1
      have HPK := hide hpk
      have HSA := hide hsa
      have HSB := hide hsb
      have HSC := hide hsc
      have HU1 := hide u1
      clear CY k1 hpk hps hsa hsb hsc u1 hx hks
      go_wp2_with fail
      rw [← hW1]
      clear hW1
      refine HCY.out.mono ?_
      rintro e' w5 ⟨rfl, u5⟩
      have hb5 : Below wr.heap.size wr w5 := HU1.out.trans (u5.mono HU1.out.size)
      have k5 := HK1.out.old u5
      clear HCY L1 L2 L3
      obtain ⟨W6, hW6⟩ : ∃ W6, W6 = w5.alloc (.cells #[.bool sb, .string sv] 23) := ⟨_, rfl⟩
      have u6 : Below w5.heap.size w5 W6 := by rw [hW6]; exact (Below.refl _ w5).alloc (Nat.le_refl _) _
      have hb6 : Below wr.heap.size wr W6 := hb5.trans (u6.mono hb5.size)
      have T6 := HT.out.below hb6
      have B6 := HBr.out.trans (hb6.mono HBr.out.size)
      have KS : Ob W6 w5.heap.size 23 [.bool sb, .string sv] := by rw [hW6]; exact Ob.new w5 [.bool sb, .string sv] 23
      have k6 := k5.old u6
      rw [hW6] at k6
      have z0 := k6.cell 0
      have z1 := k6.cell 1
      have z2 := k6.cell 2
      have z3 := k6.cell 3
      have z4 := k6.cell 4
      have z5 := k6.cell 5
      have z6 := k6.cell 6
      simp only [List.getElem?_cons_zero, List.getElem?_cons_succ] at z0 z1 z2 z3 z4 z5 z6
      clear u5 hb5 k5 u6 hb6 k6 HU1 HK1
      cases is with
      | true =>
        cases sb with
        | true =>
          have hpm : mF la lb lc key = some ⟨key, sv⟩ := mF_some (v := sv) (by rw [HPK.out])
          have hpc : cF la lb lc key = none := cF_none (by rw [HPK.out])
          have hM := mL_snoc la lb lc (ks.take j) key
          have hC := cL_snoc la lb lc (ks.take j) key
          rw [hpm, ← HTK.out] at hM
          rw [hpc, ← HTK.out] at hC
          simp only [Option.toList] at hM hC
          rw [List.append_nil] at hC
          obtain ⟨va7, vc7, W7, R7, T7, B7, O7⟩ := T6.en B6.size (by have := HLE.out; omega) ⟨key, sv⟩
          rw [← hM] at T7 R7
          obtain ⟨nv7, hn7⟩ : ∃ n, n = (mL la lb lc (ks.take (j + 1))).length := ⟨_, rfl⟩
          rw [← hn7, ← HNV.out] at R7
          have HN7 := hide hn7
          have B7a := B6.trans B7
          rw [hW6] at R7
          simp only [World.size_alloc] at R7
          obtain ⟨r7a, r7b, r7c⟩ := app_runs R7
          have HNU2 : Hid (nu = (cL la lb lc (ks.take (j + 1))).length) := hide (by rw [hC]; exact HNU.out)
          have TF := T7
          rw [← hC] at TF
          have HTF := hide TF
          have HBF := hide B7a
          clear hpm hpc R7 O7 hn7 hM hC TF T6 T7 B7 B7a B6 HLE
          clear hW6
          clear KS
          go_wp2
          go_roundw
          case rel => exact ⟨j + 1, va7, vc7, nv7, ua, uc, nu, by omega, by simp, rfl, rfl, HN7, HNU2, HTF, HBF⟩
          case measure => simp [intOf]; omega
        | false =>
          have hpm : mF la lb lc key = none := mF_none (v := sv) (by rw [HPK.out])
          have hpc : cF la lb lc key = none := cF_none (by rw [HPK.out])
          have hM := mL_snoc la lb lc (ks.take j) key
          have hC := cL_snoc la lb lc (ks.take j) key
          rw [hpm, ← HTK.out] at hM
          rw [hpc, ← HTK.out] at hC
          simp only [Option.toList] at hM hC
          rw [List.append_nil] at hM
          rw [List.append_nil] at hC
          have HNV2 : Hid (nv = (mL la lb lc (ks.take (j + 1))).length) := hide (by rw [hM]; exact HNV.out)
          have HNU2 : Hid (nu = (cL la lb lc (ks.take (j + 1))).length) := hide (by rw [hC]; exact HNU.out)
          have TF := T6
          rw [← hM, ← hC] at TF
          have HTF := hide TF
          have HBF := hide B6
          clear hpm hpc hM hC TF T6 B6 HLE
          rw [hW6] at HTF HBF
          clear hW6
          clear KS
          go_wp2
          go_roundw
          case rel => exact ⟨j + 1, va, vc, nv, ua, uc, nu, by omega, by simp, rfl, rfl, HNV2, HNU2, HTF, HBF⟩
          case measure => simp [intOf]; omega
      | false =>
        cases sb with
        | true =>
          have hpm : mF la lb lc key = some ⟨key, sv⟩ := mF_some (v := sv) (by rw [HPK.out])
          have hpc := cF_some (a := la) (b := lb) (c := lc) (k := key) (by rw [HPK.out])
          rw [← HSA.out, ← HSB.out, ← HSC.out] at hpc
          have hM := mL_snoc la lb lc (ks.take j) key
          have hC := cL_snoc la lb lc (ks.take j) key
          rw [hpm, ← HTK.out] at hM
          rw [hpc, ← HTK.out] at hC
          simp only [Option.toList] at hM hC
          obtain ⟨ua7, uc7, W7, R7, T7, B7, O7⟩ := T6.cl B6.size (by have := HLE.out; omega) ⟨key, sa, sb', sc⟩
          rw [← hC] at T7 R7
          obtain ⟨nu7, hn7⟩ : ∃ n, n = (cL la lb lc (ks.take (j + 1))).length := ⟨_, rfl⟩
          rw [← hn7, ← HNU.out] at R7
          have HN7 := hide hn7
          have B7a := B6.trans B7
          have x7 := O7 _ _ _ KS (by decide)
          have xa7 := x7.cell 0
          have xb7 := x7.cell 1
          simp only [List.getElem?_cons_zero, List.getElem?_cons_succ] at xa7 xb7
          rw [hW6] at R7
          simp only [World.size_alloc] at R7
          obtain ⟨r7a, r7b, r7c⟩ := app_runs R7
          obtain ⟨va8, vc8, W8, R8, T8, B8, O8⟩ := T7.en B7a.size (by have := HLE.out; omega) ⟨key, sv⟩
          rw [← hM] at T8 R8
          obtain ⟨nv8, hn8⟩ : ∃ n, n = (mL la lb lc (ks.take (j + 1))).length := ⟨_, rfl⟩
          rw [← hn8, ← HNV.out] at R8
          have HN8 := hide hn8
          have B8a := B7a.trans B8
          obtain ⟨r8a, r8b, r8c⟩ := app_runs R8
          have TF := T8
          have HTF := hide TF
          have HBF := hide B8a
          clear hpm hpc x7 R7 O7 hn7 R8 O8 hn8 T7 hM hC TF T6 T8 B7 B7a B8 B8a B6 HLE
          clear hW6
          clear KS
          go_wp2
          go_roundw
          case rel => exact ⟨j + 1, va8, vc8, nv8, ua7, uc7, nu7, by omega, by simp, rfl, rfl, HN8, HN7, HTF, HBF⟩
          case measure => simp [intOf]; omega
        | false =>
          have hpm : mF la lb lc key = none := mF_none (v := sv) (by rw [HPK.out])
          have hpc := cF_some (a := la) (b := lb) (c := lc) (k := key) (by rw [HPK.out])
          rw [← HSA.out, ← HSB.out, ← HSC.out] at hpc
          have hM := mL_snoc la lb lc (ks.take j) key
          have hC := cL_snoc la lb lc (ks.take j) key
          rw [hpm, ← HTK.out] at hM
          rw [hpc, ← HTK.out] at hC
          simp only [Option.toList] at hM hC
          rw [List.append_nil] at hM
          obtain ⟨ua7, uc7, W7, R7, T7, B7, O7⟩ := T6.cl B6.size (by have := HLE.out; omega) ⟨key, sa, sb', sc⟩
          rw [← hC] at T7 R7
          obtain ⟨nu7, hn7⟩ : ∃ n, n = (cL la lb lc (ks.take (j + 1))).length := ⟨_, rfl⟩
          rw [← hn7, ← HNU.out] at R7
          have HN7 := hide hn7
          have B7a := B6.trans B7
          have x7 := O7 _ _ _ KS (by decide)
          have xa7 := x7.cell 0
          have xb7 := x7.cell 1
          simp only [List.getElem?_cons_zero, List.getElem?_cons_succ] at xa7 xb7
          rw [hW6] at R7
          simp only [World.size_alloc] at R7
          obtain ⟨r7a, r7b, r7c⟩ := app_runs R7
          have HNV2 : Hid (nv = (mL la lb lc (ks.take (j + 1))).length) := hide (by rw [hM]; exact HNV.out)
          have TF := T7
          rw [← hM] at TF
          have HTF := hide TF
          have HBF := hide B7a
          clear hpm hpc x7 R7 O7 hn7 hM hC TF T6 T7 B7 B7a B6 HLE
          clear hW6
          clear KS
          go_wp2
          go_roundw
          case rel => exact ⟨j + 1, va, vc, nv, ua7, uc7, nu7, by omega, by simp, rfl, rfl, HNV2, HN7, HTF, HBF⟩
          case measure => simp [intOf]; omega
    · have HF : Hid (MgP la lb lc w (.returned (.tuple #[.slice va nv vc, .slice ua nu uc])) wr) := by
        have hT := HT.out
        have h1 := HNV.out
        have h2 := HNU.out
        rw [List.take_of_length_le (by have := HLN.out; omega)] at hT h1 h2
        exact hide ⟨ks, va, vc, ua, uc, by rw [h1, h2], HKS.out, hT.lower HB1.out.size, HB1.out.trans (HBr.out.mono HB1.out.size)⟩
      clear HT
      go_wp2
      exact bodyPost_ret (by simp [results, Try.results12]) rfl HF.out
end Go.Proofs.Ytoneedobhopkkaa
