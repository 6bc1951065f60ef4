/- The document's Bases. Over the translation. The document's Base. Over the translation. -/
import Derived.Deep.RegionHeld3
import Derived.Deep.RegionLaw
import Derived.Test.YtmkafoidfgaokaaQGIi
import Derived.Test.YtmkafoidfgaokaaQA7
namespace Go.Proofs.Ytmkafoidfgaokaa
open Go.RowKit Apo
attribute [local go_sem ↓] Apo.app_exec
set_option maxRecDepth 100000 in
set_option maxHeartbeats 8000000 in
theorem bases_any {w0 w : World} {p : Nat} {L : List CmA} (h : Gr w0 w p L) (hps : ∀ x ∈ L, x.c.ps.length ≤ 1099511627776) (a b : Int) :
    Calls Try.prog 23 #[.pointer (some ⟨p, 0, none⟩), .int .u64 a, .int .u64 b] w (NuP w (basesG (L.map CmA.c) a b)) := by
  have HG := hide h
  have HPS := hide hps
  have hlen := h.len
  have b0 : Below w.heap.size w (w.alloc (.cells #[.int .u64 a] 23)) := (Below.refl _ _).alloc (Nat.le_refl _) _
  have HCR := hide (reach_any (h.old b0) (some ⟨w.heap.size, 0, none⟩) 1 [a] hps (rd_lit1 _ _ _ _) (by simp))
  obtain ⟨l, hl⟩ : ∃ l, l = L.map CmA.c := ⟨_, rfl⟩
  have hll : l.length ≤ 1000 := by rw [hl]; simpa using hlen
  rw [← hl] at HCR ⊢
  have HLM := hide hl
  obtain ⟨X, hX⟩ : ∃ X, X = reachG l [a] := ⟨_, rfl⟩
  have hXl : X.length ≤ 1000 := by rw [hX]; exact Nat.le_trans (reachG_len _ _) hll
  rw [← hX] at HCR
  have HX := hide hX
  have HB0 := hide b0
  clear h hps b0 hl hX hlen
  go_enter Try.func23, Try.ntmps23
  go_wp2_with fail
  refine HCR.out.mono ?_
  rintro e w1 ⟨xa, xn, xc, rfl, hxn, xr, b1⟩
  have HB1 := hide (HB0.out.trans (b1.mono HB0.out.size))
  have HXR := hide (Rd.own xr.1).1
  have b1a : Below w1.heap.size w1 (w1.alloc (.cells #[.int .u64 b] 23)) := (Below.refl _ _).alloc (Nat.le_refl _) _
  have HB1A := hide (HB1.out.trans (b1a.mono HB1.out.size))
  have HXRA := hide (HXR.out.below b1a)
  have HCR2 := hide (reach_any (HG.out.old HB1A.out) (some ⟨w1.heap.size, 0, none⟩) 1 [b] HPS.out (rd_lit1 _ _ _ _) (by simp))
  rw [← HLM.out] at HCR2
  obtain ⟨Y, hY⟩ : ∃ Y, Y = reachG l [b] := ⟨_, rfl⟩
  have hYl : Y.length ≤ 1000 := by rw [hY]; exact Nat.le_trans (reachG_len _ _) hll
  rw [← hY] at HCR2
  have HY := hide hY
  have HXN := hide hxn
  clear hxn xr b1 b1a HCR HB0 HB1 HXR hY
  go_wp2_with fail
  refine HCR2.out.mono ?_
  rintro e w2 ⟨ya, yn, yc, rfl, hyn, yr, b2⟩
  have HB2 := hide (HB1A.out.trans (b2.mono HB1A.out.size))
  have HXR2 := hide (HXRA.out.below b2)
  have HYR2 := hide (Rd.own yr.1).1
  have HYN := hide hyn
  have hxn1 : xn ≤ 1000 := by have := HXN.out; omega
  clear hyn yr b2 HCR2 HB1A HXRA
  obtain ⟨C, hC⟩ : ∃ C, C = commonG l a b := ⟨_, rfl⟩
  have HC : Hid (C = X.filter (fun id => decide (id ∈ Y))) := hide (by rw [hC, HX.out, HY.out]; rfl)
  have HBS : Hid (basesG l a b = C.filter (bestB l C)) := hide (by rw [hC]; rfl)
  have hCl : C.length ≤ 1000 := by rw [hC]; exact Nat.le_trans (commonG_len _ _ _) hll
  clear hC
  go_wp2
  go_loopw [9, 28] (fun v i wr => ∃ k : Nat, k ≤ xn ∧ i = .int .i64 k ∧ (∃ xa xn xc, v = .slice xa xn xc) ∧ Hid (Row (fun g => w2.heap.size ≤ g) wr 23 1 v ((X.take k).filter (fun id => decide (id ∈ Y))).length (((X.take k).filter (fun id => decide (id ∈ Y))).map (Value.int .u64))) ∧ Hid (Below w2.heap.size w2 wr)) (fun _ i _ => xn - (intOf i).toNat)
  case atStart => exact ⟨0, Nat.zero_le _, rfl, ⟨_, _, _, rfl⟩, hide (by simpa using Row.nil _ _ _ _), hide (Below.refl _ _)⟩
  case round =>
    obtain ⟨k, hk, rfl, ⟨va, vn, vc, rfl⟩, HRO, HB⟩ := hrel
    by_cases hlt : k < xn
    · obtain ⟨bb, off, z, ha, hcz, hz, _⟩ := (HXR2.out.below HB.out).at (by have := HXN.out; omega : k < X.length)
      subst ha
      have HCH := hide (has_any ya yc Y z wr (HYR2.out.below HB.out) (by omega))
      rw [← HYN.out] at HCH
      have HFT := hide (filter_take (fun id => decide (id ∈ Y)) hz.out)
      have hfl : ((X.take k).filter (fun id => decide (id ∈ Y))).length ≤ 1000 := Nat.le_trans (List.length_filter_le _ _) (by rw [List.length_take]; omega)
      clear hz
      cases hd : decide (z ∈ Y) with
      | false =>
        rw [hd] at HCH
        have HR2 : Hid (Row (fun g => w2.heap.size ≤ g) wr 23 1 (.slice va vn vc) ((X.take (k + 1)).filter (fun id => decide (id ∈ Y))).length (((X.take (k + 1)).filter (fun id => decide (id ∈ Y))).map (Value.int .u64))) := hide (by
          rw [HFT.out, hd]
          simpa using HRO.out)
        clear hd HFT hfl
        go_wp2_with fail
        refine HCH.out.mono ?_
        rintro e w3 ⟨rfl, rfl⟩
        go_wp2
        go_roundw
        case rel => exact ⟨k + 1, by omega, by simp, ⟨_, _, _, rfl⟩, HR2, HB⟩
        case measure => simp [intOf]; omega
      | true =>
        rw [hd] at HCH
        obtain ⟨a5, n5, c5, w5, R5, r5, o5⟩ := app_n z HRO.out (by omega)
        have HR2 : Hid (Row (fun g => w2.heap.size ≤ g) w5 23 1 (.slice a5 n5 c5) ((X.take (k + 1)).filter (fun id => decide (id ∈ Y))).length (((X.take (k + 1)).filter (fun id => decide (id ∈ Y))).map (Value.int .u64))) := hide (by
          rw [HFT.out, hd]
          exact r5.mono (fun g hg => hg.elim id (fun q => by have := HB.out.size; omega)))
        have HW2 := hide (Below.onl HB.out o5 (fun i q => HRO.out.2 i q) (Nat.le_refl _))
        obtain ⟨z1, z2, z3⟩ := app_runs R5
        clear hd HFT R5 r5 o5 HRO HB hfl
        go_wp2_with fail
        refine HCH.out.mono ?_
        rintro e w3 ⟨rfl, rfl⟩
        go_wp2
        go_roundw
        case rel => exact ⟨k + 1, by omega, by simp, ⟨_, _, _, rfl⟩, HR2, HW2⟩
        case measure => simp [intOf]; omega
    · obtain rfl : k = xn := by omega
      have hall : (X.take k).filter (fun id => decide (id ∈ Y)) = C := by rw [HC.out, List.take_of_length_le (by have := HXN.out; omega)]
      rw [hall] at HRO
      obtain ⟨ga, gc, hf2, _⟩ := HRO.out.form
      injection hf2 with f1 f2 f3
      subst f1 f3
      have HCRD := hide (Rd.own HRO.out.1).1
      have HVN := hide f2
      have HBV := hide (HB2.out.trans (HB.out.mono HB2.out.size))
      have hvn : vn ≤ 1000 := by omega
      obtain ⟨V, hV⟩ : ∃ V, V = wr := ⟨_, rfl⟩
      subst hV
      clear HRO HB hall f2
      go_wp2
      go_loopw [10, 42] (fun v i wr => ∃ k : Nat, k ≤ vn ∧ i = .int .i64 k ∧ (∃ xa xn xc, v = .slice xa xn xc) ∧ Hid (Row (fun g => V.heap.size ≤ g) wr 23 1 v ((C.take k).filter (bestB l C)).length (((C.take k).filter (bestB l C)).map (Value.int .u64))) ∧ Hid (Below V.heap.size V wr)) (fun _ i _ => vn - (intOf i).toNat)
      case atStart => exact ⟨0, Nat.zero_le _, rfl, ⟨_, _, _, rfl⟩, hide (by simpa using Row.nil _ _ _ _), hide (Below.refl _ _)⟩
      case round =>
        obtain ⟨k2, hk2, rfl, ⟨oa, on, oc, rfl⟩, HRO, HB⟩ := hrel
        by_cases hlt2 : k2 < vn
        · obtain ⟨bb, off, z, ha, hcz, hz, _⟩ := (HCRD.out.below HB.out).at (by have := HVN.out; omega : k2 < C.length)
          subst ha
          have HFT := hide (filter_take (bestB l C) hz.out)
          have hfl : ((C.take k2).filter (bestB l C)).length ≤ 1000 := Nat.le_trans (List.length_filter_le _ _) (by rw [List.length_take]; omega)
          have HBF : Hid (bestB l C z = C.all (fun q => (q == z) || !isG l z q)) := hide rfl
          obtain ⟨U, hU⟩ : ∃ U, U = wr := ⟨_, rfl⟩
          subst hU
          clear hz
          go_wp2
          go_loopw [15, 48] (fun v i wx => ∃ j : Nat, j ≤ vn ∧ i = .int .i64 j ∧ v = .bool ((C.take j).all (fun q => (q == z) || !isG l z q)) ∧ Hid (Below U.heap.size U wx)) (fun _ i _ => vn - (intOf i).toNat)
          case atStart => exact ⟨0, Nat.zero_le _, rfl, by simp, hide (Below.refl _ _)⟩
          case round =>
            obtain ⟨j, hj, rfl, rfl, HBX⟩ := hrel
            have hUV := HB.out.trans (HBX.out.mono HB.out.size)
            have hWV := HBV.out.trans (hUV.mono HBV.out.size)
            by_cases hjx : j < vn
            · obtain ⟨b', off', q, ha, hcq, hq, _⟩ := (HCRD.out.below hUV).at (by have := HVN.out; omega : j < C.length)
              injection ha with ha
              injection ha with ha1 ha2
              subst ha1 ha2
              have HAT := hide (all_take (fun q => (q == z) || !isG l z q) hq.out)
              have HCI := hide (is_any (HG.out.old hWV) HPS.out z q)
              rw [← HLM.out] at HCI
              obtain ⟨A0, hA0⟩ : ∃ A0, A0 = (C.take j).all (fun q => (q == z) || !isG l z q) := ⟨_, rfl⟩
              rw [← hA0] at HAT ⊢
              clear hq hUV hWV hA0
              cases A0 with
              | false =>
                have HV : Hid ((C.take (j + 1)).all (fun q => (q == z) || !isG l z q) = false) := hide (by rw [HAT.out, Bool.false_and])
                go_wp2
                go_roundw
                case rel => exact ⟨j + 1, by omega, by simp, by rw [HV.out], HBX⟩
                case measure => simp [intOf]; omega
              | true =>
                by_cases hqz : q = z
                · have HV : Hid ((C.take (j + 1)).all (fun q => (q == z) || !isG l z q) = true) := hide (by rw [HAT.out, hqz]; simp)
                  have d1 : (q == z) = true := by simpa using hqz
                  clear hqz
                  go_wp2
                  go_roundw
                  case rel => exact ⟨j + 1, by omega, by simp, by rw [HV.out], HBX⟩
                  case measure => simp [intOf]; omega
                · have d1 : (q == z) = false := by simpa using hqz
                  have HV : Hid ((C.take (j + 1)).all (fun q => (q == z) || !isG l z q) = !isG l z q) := hide (by rw [HAT.out, d1]; simp)
                  obtain ⟨I0, hI0⟩ : ∃ I0, I0 = isG l z q := ⟨_, rfl⟩
                  rw [← hI0] at HCI HV
                  clear hqz hI0
                  go_wp2_with fail
                  refine HCI.out.mono ?_
                  rintro e w5 ⟨rfl, b5⟩
                  have HB5 := hide (HBX.out.trans (b5.mono HBX.out.size))
                  clear b5
                  cases I0 with
                  | false =>
                    go_wp2
                    go_roundw
                    case rel => exact ⟨j + 1, by omega, by simp, by rw [HV.out]; rfl, HB5⟩
                    case measure => simp [intOf]; omega
                  | true =>
                    go_wp2
                    go_roundw
                    case rel => exact ⟨j + 1, by omega, by simp, by rw [HV.out]; rfl, HB5⟩
                    case measure => simp [intOf]; omega
            · obtain rfl : j = vn := by omega
              have hall : (C.take j).all (fun q => (q == z) || !isG l z q) = bestB l C z := by rw [HBF.out, List.take_of_length_le (by have := HVN.out; omega)]
              rw [hall]
              have hrow := HRO.out.onl (F := fun _ => False) (Onl.ofBelow HBX.out) (fun _ _ q => q)
              cases hbb : bestB l C z with
              | false =>
                have HR2 : Hid (Row (fun g => V.heap.size ≤ g) wr 23 1 (.slice oa on oc) ((C.take (k2 + 1)).filter (bestB l C)).length (((C.take (k2 + 1)).filter (bestB l C)).map (Value.int .u64))) := hide (by
                  rw [HFT.out, hbb]
                  simpa using hrow)
                have HW2 := hide hUV
                clear hbb hrow hall hWV hUV HRO
                go_wp2
                go_roundw
                case rel => exact ⟨k2 + 1, by omega, by simp, ⟨_, _, _, rfl⟩, HR2, HW2⟩
                case measure => simp [intOf]; omega
              | true =>
                obtain ⟨a5, n5, c5, w5, R5, r5, o5⟩ := app_n z hrow (by omega)
                have HR2 : Hid (Row (fun g => V.heap.size ≤ g) w5 23 1 (.slice a5 n5 c5) ((C.take (k2 + 1)).filter (bestB l C)).length (((C.take (k2 + 1)).filter (bestB l C)).map (Value.int .u64))) := hide (by
                  rw [HFT.out, hbb]
                  exact r5.mono (fun g hg => hg.elim id (fun q => by have := hUV.size; omega)))
                have HW2 := hide (Below.onl hUV o5 (fun i q => hrow.2 i q) (Nat.le_refl _))
                obtain ⟨z1, z2, z3⟩ := app_runs R5
                clear hbb hrow hall hWV hUV R5 r5 o5 HRO
                go_wp2
                go_roundw
                case rel => exact ⟨k2 + 1, by omega, by simp, ⟨_, _, _, rfl⟩, HR2, HW2⟩
                case measure => simp [intOf]; omega
        · obtain rfl : k2 = vn := by omega
          have hall : (C.take k2).filter (bestB l C) = C.filter (bestB l C) := by rw [List.take_of_length_le (by have := HVN.out; omega)]
          rw [hall] at HRO
          obtain ⟨ga, gc, hf2, _⟩ := HRO.out.form
          injection hf2 with f1 f2 f3
          subst f1 f3
          have HF : Hid (NuP w (basesG l a b) (.returned (.slice oa on oc)) wr) := hide ⟨oa, on, oc, rfl, by rw [HBS.out]; exact f2, by rw [HBS.out]; exact HRO.out.mono (fun g hg => by have := HBV.out.size; omega), HBV.out.trans (HB.out.mono HBV.out.size)⟩
          clear HRO hall f2
          go_wp2
          go_ret
          exact HF.out
end Go.Proofs.Ytmkafoidfgaokaa
namespace Go.Proofs.Ytmkafoidfgaokaa
open Go.RowKit Apo
theorem genOf_bd {w0 w : World} {p : Nat} {L : List CmA} (h : Gr w0 w p L) {i : Nat} {x : CmA} (hx : L[i]? = some x) : 0 ≤ x.c.gen ∧ x.c.gen ≤ 18446744073709551615 := (h.cm x (List.mem_of_getElem? hx)).sz.2.2.1
set_option maxRecDepth 100000 in
set_option maxHeartbeats 4000000 in
theorem base_any {w0 w : World} {p : Nat} {L : List CmA} (h : Gr w0 w p L) (hps : ∀ x ∈ L, x.c.ps.length ≤ 1099511627776) (a b : Int) :
    Calls Try.prog 19 #[.pointer (some ⟨p, 0, none⟩), .int .u64 a, .int .u64 b] w fun e w' => e = .returned (.tuple #[.int .u64 (baseG (L.map CmA.c) a b).1, .bool (baseG (L.map CmA.c) a b).2]) ∧ Below w.heap.size w w' := by
  have HCB := hide (bases_any h hps a b)
  have HG := hide h
  obtain ⟨l, hl⟩ : ∃ l, l = L.map CmA.c := ⟨_, rfl⟩
  have HLM := hide hl
  rw [← hl] at HCB ⊢
  have hbl : (basesG l a b).length ≤ 1000 := Nat.le_trans (basesG_len _ _ _) (by rw [hl]; simpa using h.len)
  have HE : Hid (baseG l a b = ((baseS l (basesG l a b) (0, 0)).1, decide (0 < (baseS l (basesG l a b) (0, 0)).2))) := hide rfl
  generalize basesG l a b = S at HCB HE hbl
  clear h hps hl
  go_enter Try.func19, Try.ntmps19
  go_wp2_with fail
  refine HCB.out.mono ?_
  rintro e w1 ⟨xa, xn, xc, rfl, hxn, xr, b1⟩
  have HSR := hide (Rd.own xr.1).1
  have HB1 := hide b1
  have HXN := hide hxn
  have hxn1 : xn ≤ 1000 := by omega
  clear hxn xr b1 HCB
  go_wp2
  go_loopw [8, 9, 19] (fun v u i wr => ∃ (k : Nat) (d g : Int), k ≤ xn ∧ i = .int .i64 k ∧ v = .int .u64 d ∧ u = .int .u64 g ∧ (0 ≤ g ∧ g ≤ 18446744073709551615) ∧ Hid (baseS l S (0, 0) = baseS l (S.drop k) (d, g)) ∧ Hid (Below w1.heap.size w1 wr)) (fun _ _ i _ => xn - (intOf i).toNat)
  case atStart => exact ⟨0, 0, 0, Nat.zero_le _, rfl, rfl, rfl, by omega, hide (by simp), hide (Below.refl _ _)⟩
  case round =>
    obtain ⟨k, d, g, hk, rfl, rfl, rfl, hg0, HBS, HB⟩ := hrel
    have hWB := HB1.out.trans (HB.out.mono HB1.out.size)
    by_cases hlt : k < xn
    · obtain ⟨bb, off, z, ha, hcz, hz, _⟩ := (HSR.out.below HB.out).at (by have := HXN.out; omega : k < S.length)
      subst ha
      have hdr : S.drop k = z :: S.drop (k + 1) := by
        have hkl : k < S.length := by have := HXN.out; omega
        rw [List.drop_eq_getElem_cons hkl]
        congr 1
        have := hz.out
        rw [List.getElem?_eq_getElem hkl] at this
        exact Option.some.inj this
      have HCG := hide (get_any (HG.out.old hWB) z)
      have HBN : Hid (baseS l S (0, 0) = baseS l (S.drop (k + 1)) (if g < genOf l z then (z, genOf l z) else (d, g))) := hide (by rw [HBS.out, hdr]; rfl)
      clear hz hdr HBS hWB
      go_wp2_with fail
      refine HCG.out.mono ?_
      rintro e w3 ⟨⟨i, x, hxi, hg, rfl⟩ | ⟨hg, rfl⟩, b3⟩
      · have HGO : Hid (genOf l z = x.c.gen) := hide (by unfold genOf; rw [HLM.out, hg])
        have hgb := genOf_bd HG.out hxi
        have HB3 := hide (HB.out.trans (b3.mono HB.out.size))
        have HBA := hide (HB3.out.alloc HB3.out.size (.cells #[.int .u64 x.c.id, .slice x.a x.c.ps.length x.cap, .int .u64 x.c.gen, .int .u64 x.c.root, .string x.c.tx] 32))
        clear b3 hg hxi HCG HB HB3
        by_cases hgt : g < x.c.gen
        · have HB2 : Hid (baseS l S (0, 0) = baseS l (S.drop (k + 1)) (z, x.c.gen)) := hide (by rw [HBN.out, HGO.out, if_pos hgt])
          have HBD := hide HBA.out.drew
          clear HBN HGO HBA
          go_wp2
          go_region
          go_wp2
          go_roundw
          case rel => exact ⟨k + 1, z, x.c.gen, by omega, by simp, rfl, rfl, hgb, HB2, HBD⟩
          case measure => simp [intOf]; omega
        · have HB2 : Hid (baseS l S (0, 0) = baseS l (S.drop (k + 1)) (d, g)) := hide (by rw [HBN.out, HGO.out, if_neg hgt])
          clear HBN HGO
          go_wp2
          go_roundw
          case rel => exact ⟨k + 1, d, g, by omega, by simp, rfl, rfl, hg0, HB2, HBA⟩
          case measure => simp [intOf]; omega
      · have HGO : Hid (genOf l z = 0) := hide (by unfold genOf; rw [HLM.out, hg])
        have HB3 := hide (HB.out.trans (b3.mono HB.out.size))
        have HBA := hide (HB3.out.alloc HB3.out.size (.cells #[.int .u64 0, .slice none 0 0, .int .u64 0, .int .u64 0, .string ⟨#[]⟩] 32))
        have HB2 : Hid (baseS l S (0, 0) = baseS l (S.drop (k + 1)) (d, g)) := hide (by rw [HBN.out, HGO.out, if_neg (by omega)])
        have hgn : ¬ g < 0 := by omega
        clear b3 hg HCG HB HB3 HBN HGO
        go_wp2
        go_roundw
        case rel => exact ⟨k + 1, d, g, by omega, by simp, rfl, rfl, hg0, HB2, HBA⟩
        case measure => simp [intOf]; omega
    · obtain rfl : k = xn := by omega
      have hres : baseG l a b = (d, decide (0 < g)) := by rw [HE.out, HBS.out, List.drop_eq_nil_of_le (by have := HXN.out; omega)]; rfl
      have HF : Hid ((Ending.returned (.tuple #[.int .u64 d, .bool (decide (0 < g))]) = .returned (.tuple #[.int .u64 (baseG l a b).1, .bool (baseG l a b).2])) ∧ Below w.heap.size w wr) := hide ⟨by rw [hres], hWB⟩
      clear hres hWB HE HBS
      go_wp2
      refine bodyPost_ret (by simp [results, Try.results19, go_sem]; rfl) rfl ?_
      exact HF.out
end Go.Proofs.Ytmkafoidfgaokaa
