/- Law 15: Gens. Over the translation. -/
import Derived.Test.YtmkafoidfgaokaaQB9
import Derived.Test.YtmkafoidfgaokaaQC1
import Derived.Test.YtmkafoidfgaokaaQVGl
namespace Go.Proofs.Ytmkafoidfgaokaa
open Go.RowKit Apo
set_option maxRecDepth 100000 in
set_option maxHeartbeats 8000000 in
theorem gens15 (w : World) (f : CsA) (h : OkCs w f) (a : Int) (ha : 0 ≤ a ∧ a ≤ 18446744073709551615) : Calls Try.prog 8 #[.slice f.a f.l.length f.c, .int .u64 a] w fun e w' => e = .returned (.bool true) ∧ Below w.heap.size w w' := by
  have HAW := hide (awake15 w)
  have HOK := hide h
  obtain ⟨fa, fc, fl⟩ := f
  obtain ⟨nf, hnf⟩ : ∃ nf, nf = fl.length := ⟨_, rfl⟩
  have HNF := hide hnf
  have HFEW : Hid (∀ w1, Below w.heap.size w w1 → Calls Try.prog 10 #[.slice fa nf fc] w1 fun e w' => e = .returned (.bool (fewM (fl.map CmA.c))) ∧ Below w1.heap.size w1 w') := hide (fun w1 b1 => by rw [hnf]; exact few15 w1 ⟨fa, fc, fl⟩ (HOK.out.below b1))
  have HMADE : Hid (∀ w1, Below w.heap.size w w1 → fl.length ≤ 25 → Calls Try.prog 11 #[.slice fa nf fc] w1 (MdP w1 fl)) := hide (fun w1 b1 hl => by rw [hnf]; exact made15 w1 ⟨fa, fc, fl⟩ (HOK.out.below b1) hl)
  simp only [← hnf]
  clear h hnf
  go_enter Try.func8, Try.ntmps8
  go_wp2_with fail
  refine HAW.out.mono ?_
  rintro e w1 ⟨rfl, b1⟩
  have HB1 := hide b1
  have HF1 := hide (HFEW.out w1 b1)
  clear b1 HAW HFEW
  go_wp2_with fail
  refine HF1.out.mono ?_
  rintro e w2 ⟨rfl, b2⟩
  have HB2 := hide (HB1.out.trans (b2.mono HB1.out.size))
  clear b2 HF1 HB1
  cases hfew : fewM (fl.map CmA.c) with
  | false =>
    clear hfew
    go_wp2
    go_ret
    exact ⟨rfl, HB2.out⟩
  | true =>
  have hl25 : fl.length ≤ 25 := by
    unfold fewM at hfew
    simp only [List.length_map, Bool.and_eq_true, decide_eq_true_eq] at hfew
    exact hfew.2
  have HMD := hide (HMADE.out w2 HB2.out hl25)
  clear HMADE hfew
  go_wp2_with fail
  refine HMD.out.mono ?_
  rintro e w3 ⟨p, b, px, l, rfl, hl, hll, hm⟩
  have HM := hide hm
  have HB3 := hide (HB2.out.trans (hm.bw.mono HB2.out.size))
  have HLL : Hid (l.length ≤ 25) := hide (by omega)
  obtain ⟨X, hgX⟩ := hm.g
  have HG : Hid (∀ W, Below w3.heap.size w3 W → Gp W p b X l) := hide (fun W hW => hgX.old hW)
  have HXW : Hid (∀ x ∈ X, CmR w3 x.c x.a x.cap ∧ x.c.ps.length ≤ 2) := hide (fun x hx => ⟨hgX.cs.cm x hx, (hgX.cs.sm x hx).2⟩)
  have HOKG := hide hm.ok
  have HPOS := hide hm.pos
  have hlen := hgX.len
  have HXL : Hid (X.length = l.length) := hide hlen
  clear hm hgX HMD HB2 hl25 hll hl hlen
  have HID := hide (lids_any (HG.out w3 (Below.refl _ _)).gv)
  go_wp2_with fail
  refine HID.out.mono ?_
  rintro e w4 ⟨sa, sn, sc, rfl, rfl, r4, b4⟩
  have HR : Hid (∀ W, Below w4.heap.size w4 W → Rd .u64 W sa (lids l)) := hide (fun W hW => (Rd.own r4.1).1.below hW)
  have HB4 := hide b4
  have hnl : (lids l).length = l.length := by unfold lids; simp
  obtain ⟨n, hn⟩ : ∃ n, n = (lids l).length := ⟨_, rfl⟩
  have HN := hide hn
  have hnb : n ≤ 25 := by have := HLL.out; omega
  rw [← hn]
  clear r4 b4 HID hn hnl HXL HXW HM HPOS
  go_wp2
  go_loopw [35] (fun v wr => ∃ k : Nat, k ≤ n ∧ v = .int .i64 k ∧ Hid (Below w4.heap.size w4 wr)) (fun v _ => n - (intOf v).toNat)
  case atStart => exact ⟨0, Nat.zero_le _, rfl, hide (Below.refl _ _)⟩
  case round =>
    obtain ⟨k, hk, rfl, HB⟩ := hrel
    by_cases hlt : k < n
    · have hkl : k < (lids l).length := by have := HN.out; omega
      obtain ⟨g, off, z, hsa, hcz, hz, _⟩ := (HR.out wr HB.out).at hkl
      rw [hsa]
      have hG := HG.out wr (HB4.out.trans (HB.out.mono HB4.out.size))
      obtain ⟨c, hcl, hcz2, hgz⟩ := getG_ids hG.rise hz.out
      have HGT := hide (getl_is hG hgz)
      have hsz := hG.sz hcl
      have hcg : 0 ≤ c.gen ∧ c.gen ≤ 18446744073709551615 := hsz.1.2.2.1
      have HCC : Hid (c ∈ l ∧ c.id = z ∧ getG l z = some c) := hide ⟨hcl, hcz2, hgz⟩
      obtain ⟨gt, hgt1, hgt2⟩ := HOKG.out.up c hcl
      have HGT1 := hide hgt1
      have HGT2 := hide hgt2
      have HPU := hide hsz.1.2.1
      have hp2 := hsz.2.1
      clear hz hG hcl hcz2 hgz hsa hsz hgt1 hgt2
      go_wp2_with fail
      refine HGT.out.mono ?_
      rintro e w5 ⟨ya, np, yc, rfl, hnp, y2, b5⟩
      have HNP := hide hnp
      have hB5 := HB.out.trans (b5.mono HB.out.size)
      obtain ⟨W5, hW5⟩ : ∃ W5, W5 = w5.alloc (.cells #[.int .u64 c.id, .slice ya np yc, .int .u64 c.gen, .int .u64 c.root, .string c.tx] 32) := ⟨_, rfl⟩
      have bA : Below w5.heap.size w5 W5 := by rw [hW5]; exact (Below.refl _ _).alloc (Nat.le_refl _) _
      have kA : Ob W5 w5.heap.size 32 [.int .u64 c.id, .slice ya np yc, .int .u64 c.gen, .int .u64 c.root, .string c.tx] := by rw [hW5]; exact Ob.new w5 [.int .u64 c.id, .slice ya np yc, .int .u64 c.gen, .int .u64 c.root, .string c.tx] 32
      have HBA := hide (hB5.trans (bA.mono hB5.size))
      have HRY : Hid (∀ W, Below W5.heap.size W5 W → Rd .u64 W ya c.ps) := hide (fun W hW => (y2.rd.below bA).below hW)
      have HKY : Hid (∀ W, Below W5.heap.size W5 W → Ob W w5.heap.size 32 [.int .u64 c.id, .slice ya np yc, .int .u64 c.gen, .int .u64 c.root, .string c.tx]) := hide (fun W hW => kA.old hW)
      have hn2 : np ≤ 2 := by omega
      have HW5 := hide hW5
      clear hnp y2 b5 hB5 bA kA HGT HB hW5
      go_wp2
      rw [← HW5.out]
      go_loopw [12, 48] (fun m v wx => ∃ (j : Nat) (g : Int), j ≤ np ∧ v = .int .i64 j ∧ m = .int .u64 g ∧ 0 ≤ g ∧ Hid (genUp l c.ps 0 = genUp l (c.ps.drop j) g) ∧ Hid (Below W5.heap.size W5 wx)) (fun _ v _ => np - (intOf v).toNat)
      case atStart => exact ⟨0, 0, Nat.zero_le _, rfl, rfl, Int.le_refl _, hide (by simp), hide (Below.refl _ _)⟩
      case round =>
        obtain ⟨j, g, hj, rfl, rfl, g0, HGU, HBX⟩ := hrel
        have HBW := hide (HBA.out.trans (HBX.out.mono HBA.out.size))
        have hG := HG.out _ (HB4.out.trans (HBW.out.mono HB4.out.size))
        by_cases hltj : j < np
        · have hjl : j < c.ps.length := by have := HNP.out; omega
          obtain ⟨gb, go, pz, hya, hcq, hpz, _⟩ := (HRY.out _ HBX.out).at hjl
          rw [hya]
          obtain ⟨_, d, hd, hdg⟩ := HOKG.out.par c HCC.out.1 pz (List.mem_of_getElem? hpz.out)
          have HGT := hide (getl_is hG hd)
          have hdr : c.ps.drop j = pz :: c.ps.drop (j + 1) := by
            rw [List.drop_eq_getElem_cons hjl]
            congr 1
            have := hpz.out
            rw [List.getElem?_eq_getElem hjl] at this
            exact Option.some.inj this
          have HGU2 : Hid (genUp l c.ps 0 = genUp l (c.ps.drop (j + 1)) (if g < d.gen then d.gen else g)) := hide (by rw [HGU.out, hdr, genUp_cons hd])
          have hdb : 0 ≤ d.gen ∧ d.gen ≤ 18446744073709551615 := ((hG.sz (getG_mem hd).1).1).2.2.1
          clear hpz hya hG hd hdg hdr HGU
          go_wp2_with fail
          refine HGT.out.mono ?_
          rintro e w6 ⟨da, nd, dc, rfl, hnd, _, b6⟩
          clear hnd
          have hB6 := HBX.out.trans (b6.mono HBX.out.size)
          have HB6 := hide (hB6.alloc hB6.size (.cells #[.int .u64 d.id, .slice da nd dc, .int .u64 d.gen, .int .u64 d.root, .string d.tx] 32))
          clear hB6 b6 HGT HBX HBW
          by_cases hgd : g < d.gen
          · have HGU3 : Hid (genUp l c.ps 0 = genUp l (c.ps.drop (j + 1)) d.gen) := hide (by rw [HGU2.out, if_pos hgd])
            clear HGU2
            go_wp2
            go_roundw
            case rel => exact ⟨j + 1, d.gen, by omega, by simp, by rw [Int.max_eq_right (by omega)], hdb.1, HGU3, HB6⟩
            case measure => simp [intOf]; omega
          · have HGU3 : Hid (genUp l c.ps 0 = genUp l (c.ps.drop (j + 1)) g) := hide (by rw [HGU2.out, if_neg hgd])
            clear HGU2
            go_wp2
            go_roundw
            case rel => exact ⟨j + 1, g, by omega, by simp, by rw [Int.max_eq_left (by omega)], g0, HGU3, HB6⟩
            case measure => simp [intOf]; omega
        · obtain rfl : j = np := by omega
          have hgg : c.gen = g + 1 := by
            have h1 := HGU.out
            rw [HNP.out, List.drop_length, HGT1.out] at h1
            have h1 : some gt = some g := h1
            injection h1 with h1
            have h2 := HGT2.out
            omega
          have hw1 : (c.gen != IntKind.u64.wrap (g + 1)) = false := by
            rw [IntKind.wrap_u64]
            have : (g + 1) % 18446744073709551616 = g + 1 := by omega
            rw [this, hgg]
            simp
          have hk := HKY.out _ HBX.out
          have k2 := hk.cell 2
          simp only [List.getElem?_cons_zero, List.getElem?_cons_succ] at k2
          have HGG := hide hgg
          clear HGU hgg HGT1 HGT2 HRY hk
          cases hga : getG l a with
          | none =>
            have HGA := hide (getl_no hG ha.1 ha.2 hga)
            clear hG hga
            go_wp2_with fail
            refine HGA.out.mono ?_
            rintro e w7 ⟨qa, qc, rfl, _, b7⟩
            have hB7 := HBW.out.trans (b7.mono HBW.out.size)
            have HB7 := hide (hB7.alloc hB7.size (.cells #[.int .u64 0, .slice qa 0 qc, .int .u64 0, .int .u64 0, .string ⟨#[]⟩] 32))
            clear hB7 b7 HGA HBW HBX
            go_wp2
            go_roundw
            case rel => exact ⟨k + 1, by omega, by simp, HB7⟩
            case measure => simp [intOf]; omega
          | some q =>
            have HGA := hide (getl_is hG hga)
            have HQ := hide hga
            clear hG hga
            go_wp2_with fail
            refine HGA.out.mono ?_
            rintro e w7 ⟨qa, nq, qc, rfl, hnq, _, b7⟩
            clear hnq
            obtain ⟨W7, hW7⟩ : ∃ W7, W7 = w7.alloc (.cells #[.int .u64 q.id, .slice qa nq qc, .int .u64 q.gen, .int .u64 q.root, .string q.tx] 32) := ⟨_, rfl⟩
            have bA7 : Below w7.heap.size w7 W7 := by rw [hW7]; exact (Below.refl _ _).alloc (Nat.le_refl _) _
            have HB7 := hide (HBW.out.trans ((b7.trans (bA7.mono b7.size)).mono HBW.out.size))
            have HBX7 := hide (HBX.out.trans ((b7.trans (bA7.mono b7.size)).mono HBX.out.size))
            have kQ : Ob W7 w7.heap.size 32 [.int .u64 q.id, .slice qa nq qc, .int .u64 q.gen, .int .u64 q.root, .string q.tx] := by rw [hW7]; exact Ob.new w7 [.int .u64 q.id, .slice qa nq qc, .int .u64 q.gen, .int .u64 q.root, .string q.tx] 32
            have HKQ := hide kQ
            have HIS := hide (isp_any (HG.out W7 (HB4.out.trans (HB7.out.mono HB4.out.size))).gv HOKG.out (old := z) (late := a) (HG.out w3 (Below.refl _ _) |>.idb HCC.out.2.2) ha)
            have HW7 := hide hW7
            clear b7 bA7 kQ HGA HBW HBX hW7
            by_cases hza : z = a
            · have hd : (z != a) = false := by simpa using hza
              have HB8 := HB7
              rw [HW7.out] at HB8
              clear HIS
              go_wp2
              go_roundw
              case rel => exact ⟨k + 1, by omega, by simp, HB8⟩
              case measure => simp [intOf]; omega
            · have hd : (z != a) = true := by simpa using hza
              cases his : isG l z a with
              | false =>
                rw [his] at HIS
                rw [HW7.out] at HIS
                go_wp2_with fail
                refine HIS.out.mono ?_
                rintro e w8 ⟨rfl, b8⟩
                rw [← HW7.out] at b8
                have HB8 := hide (HB7.out.trans (b8.mono HB7.out.size))
                clear b8 HIS his
                go_wp2
                go_roundw
                case rel => exact ⟨k + 1, by omega, by simp, HB8⟩
                case measure => simp [intOf]; omega
              | true =>
                have hlt2 : c.gen < q.gen := by
                  rcases ((is_anc HOKG.out z a).1 his).gens HOKG.out with e | ⟨_, x1, x2, e1, e2, e3⟩
                  · exact absurd e hza
                  · rw [HCC.out.2.2] at e1
                    rw [HQ.out] at e2
                    injection e1 with e1
                    injection e2 with e2
                    rw [e1, e2]
                    exact e3
                have hge : decide (q.gen ≤ c.gen) = false := by simp; omega
                rw [his] at HIS
                rw [HW7.out] at HIS
                go_wp2_with fail
                refine HIS.out.mono ?_
                rintro e w8 ⟨rfl, b8⟩
                rw [← HW7.out] at b8
                have HB8 := hide (HB7.out.trans (b8.mono HB7.out.size))
                have z2 := (HKY.out w8 (HBX7.out.trans (b8.mono HBX7.out.size))).cell 2
                have q2 := (HKQ.out.old b8).cell 2
                simp only [List.getElem?_cons_zero, List.getElem?_cons_succ] at z2 q2
                clear b8 HIS his
                go_wp2
                go_roundw
                case rel => exact ⟨k + 1, by omega, by simp, HB8⟩
                case measure => simp [intOf]; omega
    · obtain rfl : k = n := by omega
      have HF := hide (HB3.out.trans ((HB4.out.trans (HB.out.mono HB4.out.size)).mono HB3.out.size))
      go_wp2
      go_ret
      exact ⟨rfl, HF.out⟩
end Go.Proofs.Ytmkafoidfgaokaa
