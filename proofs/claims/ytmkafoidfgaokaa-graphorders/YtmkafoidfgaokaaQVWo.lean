/- Law 15: Orders. Over the translation. -/
import Derived.Deep.Cut
import Derived.Deep.CutRange
import Derived.Test.YtmkafoidfgaokaaQB9
import Derived.Test.YtmkafoidfgaokaaQC1
import Derived.Test.YtmkafoidfgaokaaQVGl
import Derived.Test.YtmkafoidfgaokaaQL3
namespace Go.Proofs.Ytmkafoidfgaokaa
open Go.RowKit Apo
set_option maxRecDepth 100000 in
set_option maxHeartbeats 8000000 in
theorem orders15 (w : World) (f : CsA) (h : OkCs w f) (a b0 c0 : Int) (ha : 0 ≤ a ∧ a ≤ 18446744073709551615) (hb : 0 ≤ b0 ∧ b0 ≤ 18446744073709551615) (hc : 0 ≤ c0 ∧ c0 ≤ 18446744073709551615) : Calls Try.prog 6 #[.slice f.a f.l.length f.c, .int .u64 a, .int .u64 b0, .int .u64 c0] w fun e w' => e = .returned (.bool true) ∧ Below w.heap.size w w' := by
  have HAW := hide (awake15 w)
  have HOK := hide h
  obtain ⟨fa, fc, fl⟩ := f
  obtain ⟨nf, hnf⟩ : ∃ nf, nf = fl.length := ⟨_, rfl⟩
  have HNF := hide hnf
  have HFEW : Hid (∀ w1, Below w.heap.size w w1 → Calls Try.prog 10 #[.slice fa nf fc] w1 fun e w' => e = .returned (.bool (fewM (fl.map CmA.c))) ∧ Below w1.heap.size w1 w') := hide (fun w1 b1 => by rw [hnf]; exact few15 w1 ⟨fa, fc, fl⟩ (HOK.out.below b1))
  have HMADE : Hid (∀ w1, Below w.heap.size w w1 → fl.length ≤ 25 → Calls Try.prog 11 #[.slice fa nf fc] w1 (MdP w1 fl)) := hide (fun w1 b1 hl => by rw [hnf]; exact made15 w1 ⟨fa, fc, fl⟩ (HOK.out.below b1) hl)
  simp only [← hnf]
  clear h hnf
  go_enter Try.func6, Try.ntmps6
  go_wp2_with fail
  refine HAW.out.mono ?_
  rintro e w1 ⟨rfl, b1⟩
  have HB1 := hide b1
  have HF1 := hide (HFEW.out w1 b1)
  clear b1 HAW HFEW
  go_wp2_with fail
  refine HF1.out.mono ?_
  rintro e w2 ⟨rfl, b2⟩
  have HB2 := hide (HB1.out.trans (b2.mono HB1.out.size))
  clear b2 HF1 HB1
  cases hfew : fewM (fl.map CmA.c) with
  | false =>
    clear hfew
    go_wp2
    go_ret
    exact ⟨rfl, HB2.out⟩
  | true =>
  have hl25 : fl.length ≤ 25 := by
    unfold fewM at hfew
    simp only [List.length_map, Bool.and_eq_true, decide_eq_true_eq] at hfew
    exact hfew.2
  have HMD := hide (HMADE.out w2 HB2.out hl25)
  clear HMADE hfew
  go_wp2_with fail
  refine HMD.out.mono ?_
  rintro e w3 ⟨p, b, px, l, rfl, hl, hll, hm⟩
  have HM := hide hm
  have HB3 := hide (HB2.out.trans (hm.bw.mono HB2.out.size))
  have HLL : Hid (l.length ≤ 25) := hide (by omega)
  obtain ⟨X, hgX⟩ := hm.g
  have HG : Hid (∀ W, Below w3.heap.size w3 W → Gp W p b X l) := hide (fun W hW => hgX.old hW)
  have HXW : Hid (∀ x ∈ X, CmR w3 x.c x.a x.cap ∧ x.c.ps.length ≤ 2) := hide (fun x hx => ⟨hgX.cs.cm x hx, (hgX.cs.sm x hx).2⟩)
  have HOKG := hide hm.ok
  have HPOS := hide hm.pos
  have hlen := hgX.len
  have HXL : Hid (X.length = l.length) := hide hlen
  clear hm hgX HMD HB2 hl25 hll hl hlen
  have HIS : Hid (∀ W, Below w3.heap.size w3 W → ∀ x y : Int, (0 ≤ x ∧ x ≤ 18446744073709551615) → (0 ≤ y ∧ y ≤ 18446744073709551615) → Calls Try.prog 20 #[.pointer (some ⟨p, 0, none⟩), .int .u64 x, .int .u64 y] W fun e w' => e = .returned (.bool (isG l x y)) ∧ Below W.heap.size W w') := hide (fun W hW x y hx hy => isp_any (HG.out W hW).gv HOKG.out hx hy)
  have HRC : Hid (∀ W, Below w3.heap.size w3 W → Calls Try.prog 24 #[.pointer (some ⟨p, 0, none⟩), .slice (some ⟨W.heap.size, 0, none⟩) 1 1] (W.alloc (.cells #[.int .u64 c0] 23)) (NuP (W.alloc (.cells #[.int .u64 c0] 23)) (reachG l [c0]))) := hide (fun W hW => by
    have := reachp_any (HG.out _ (hW.alloc hW.size (.cells #[.int .u64 c0] 23))).gv HOKG.out (rd_lit1 .u64 W 23 c0) (ic := 1) (by simp) (by simp) (by intro z hz; simp at hz; subst hz; omega)
    exact this)
  have hsl : (sortG l false (reachG l [c0])).length = (reachG l [c0]).length := by
    have := (sortG_sorted l (reachG l [c0])).2.length_eq
    rw [List.length_map] at this
    exact this
  have hrl := reachG_len l [c0]
  have hlg : logG l c0 100 = sortG l false (reachG l [c0]) := by
    unfold logG
    have := HLL.out
    exact List.take_of_length_le (by show _ ≤ 100; omega)
  have HLG := hide hlg
  have HSL := hide hsl
  have hrl25 : (reachG l [c0]).length ≤ 25 := by have := HLL.out; omega
  have HIDB : Hid (∀ x ∈ sortG l false (reachG l [c0]), (0 ≤ x.id ∧ x.id ≤ 18446744073709551615) ∧ isG l x.id c0 = true) := hide (fun x hx => by
    obtain ⟨h1, h2, h3⟩ := sort_ids HOKG.out [c0] hx
    exact ⟨(HG.out w3 (Below.refl _ _)).idb h3, by unfold isG; simpa using h2⟩)
  clear HM HXW HXL hlg hsl hrl
  go_upto_region 6 with fail
  go_cut [65] from 28 to 65 (fun s65 wx => s65 = .bool false ∧ Hid (Below w3.heap.size w3 wx))
  case first =>
    cases h1 : isG l a b0 with
    | false =>
      have HX1 := HIS.out w3 (Below.refl _ _) a b0 ha hb
      rw [h1] at HX1
      by_cases hab : a = b0
      · have hd : (a != b0) = false := by simpa using hab
        clear hab
        have HXX := hide HX1
        clear HX1 h1
        go_wp2_with fail
        refine HXX.out.mono ?_
        rintro e w4 ⟨rfl, b4⟩
        have HB4 := hide b4
        clear b4
        go_wp2_with fail
        go_meet
        exact ⟨rfl, HB4⟩
      · have hd : (a != b0) = true := by simpa using hab
        clear hab
        have HXX := hide HX1
        have H1 := hide h1
        clear HX1 h1
        go_wp2_with fail
        refine HXX.out.mono ?_
        rintro e w4 ⟨rfl, b4⟩
        have HB4 := hide b4
        have HX2 := HIS.out w4 b4 a b0 ha hb
        rw [H1.out] at HX2
        have HXX2 := hide HX2
        clear b4 HX2
        go_wp2_with fail
        refine HXX2.out.mono ?_
        rintro e w5 ⟨rfl, b5⟩
        have HB5 := hide (HB4.out.trans (b5.mono HB4.out.size))
        clear b5
        go_wp2_with fail
        go_meet
        exact ⟨rfl, HB5⟩
    | true =>
      have HA1 := hide ((is_anc HOKG.out a b0).1 h1)
      have HX1 := HIS.out w3 (Below.refl _ _) a b0 ha hb
      rw [h1] at HX1
      have HXX := hide HX1
      have H1 := hide h1
      clear HX1 h1
      go_wp2_with fail
      refine HXX.out.mono ?_
      rintro e w4 ⟨rfl, b4⟩
      have HB4 := hide b4
      clear b4
      cases h2 : isG l b0 c0 with
      | false =>
        have HX2 := HIS.out w4 HB4.out b0 c0 hb hc
        rw [h2] at HX2
        have HXX2 := hide HX2
        clear HX2 h2
        by_cases hab : a = b0
        · have hd : (a != b0) = false := by simpa using hab
          clear hab
          go_wp2_with fail
          refine HXX2.out.mono ?_
          rintro e w5 ⟨rfl, b5⟩
          have HB5 := hide (HB4.out.trans (b5.mono HB4.out.size))
          clear b5
          go_wp2_with fail
          go_meet
          exact ⟨rfl, HB5⟩
        · have hd : (a != b0) = true := by simpa using hab
          have hno : isG l b0 a = false := by
            cases q : isG l b0 a with
            | false => rfl
            | true => exact absurd (HA1.out.anti HOKG.out ((is_anc HOKG.out b0 a).1 q)) hab
          have HNO := hide hno
          clear hno hab
          go_wp2_with fail
          refine HXX2.out.mono ?_
          rintro e w5 ⟨rfl, b5⟩
          have HB5 := hide (HB4.out.trans (b5.mono HB4.out.size))
          have HX3 := HIS.out w5 HB5.out a b0 ha hb
          rw [H1.out] at HX3
          have HXX3 := hide HX3
          clear b5 HX3
          go_wp2_with fail
          refine HXX3.out.mono ?_
          rintro e w6 ⟨rfl, b6⟩
          have HB6 := hide (HB5.out.trans (b6.mono HB5.out.size))
          have HX4 := HIS.out w6 HB6.out b0 a hb ha
          rw [HNO.out] at HX4
          have HXX4 := hide HX4
          clear b6 HX4
          go_wp2_with fail
          refine HXX4.out.mono ?_
          rintro e w7 ⟨rfl, b7⟩
          have HB7 := hide (HB6.out.trans (b7.mono HB6.out.size))
          clear b7
          go_wp2_with fail
          go_meet
          exact ⟨rfl, HB7⟩
      | true =>
        have hac : isG l a c0 = true := (is_anc HOKG.out a c0).2 (HA1.out.trans ((is_anc HOKG.out b0 c0).1 h2))
        have HAC := hide hac
        have HX2 := HIS.out w4 HB4.out b0 c0 hb hc
        rw [h2] at HX2
        have HXX2 := hide HX2
        clear HX2 h2 hac
        go_wp2_with fail
        refine HXX2.out.mono ?_
        rintro e w5 ⟨rfl, b5⟩
        have HB5 := hide (HB4.out.trans (b5.mono HB4.out.size))
        have HX3 := HIS.out w5 HB5.out a c0 ha hc
        rw [HAC.out] at HX3
        have HXX3 := hide HX3
        clear b5 HX3
        by_cases hab : a = b0
        · have hd : (a != b0) = false := by simpa using hab
          clear hab
          go_wp2_with fail
          refine HXX3.out.mono ?_
          rintro e w6 ⟨rfl, b6⟩
          have HB6 := hide (HB5.out.trans (b6.mono HB5.out.size))
          clear b6
          go_wp2_with fail
          go_meet
          exact ⟨rfl, HB6⟩
        · have hd : (a != b0) = true := by simpa using hab
          have hno : isG l b0 a = false := by
            cases q : isG l b0 a with
            | false => rfl
            | true => exact absurd (HA1.out.anti HOKG.out ((is_anc HOKG.out b0 a).1 q)) hab
          have HNO := hide hno
          clear hno hab
          go_wp2_with fail
          refine HXX3.out.mono ?_
          rintro e w6 ⟨rfl, b6⟩
          have HB6 := hide (HB5.out.trans (b6.mono HB5.out.size))
          have HX4 := HIS.out w6 HB6.out a b0 ha hb
          rw [H1.out] at HX4
          have HXX4 := hide HX4
          clear b6 HX4
          go_wp2_with fail
          refine HXX4.out.mono ?_
          rintro e w7 ⟨rfl, b7⟩
          have HB7 := hide (HB6.out.trans (b7.mono HB6.out.size))
          have HX5 := HIS.out w7 HB7.out b0 a hb ha
          rw [HNO.out] at HX5
          have HXX5 := hide HX5
          clear b7 HX5
          go_wp2_with fail
          refine HXX5.out.mono ?_
          rintro e w8 ⟨rfl, b8⟩
          have HB8 := hide (HB7.out.trans (b8.mono HB7.out.size))
          clear b8
          go_wp2_with fail
          go_meet
          exact ⟨rfl, HB8⟩
  case rest =>
    obtain ⟨rfl, HBW⟩ := hcut
    have HPL := hide (logp_any (HG.out _ HBW.out).gv HOKG.out (id := c0) hc 100)
    rw [HLG.out] at HPL
    go_wp2_with fail
    refine HPL.out.mono ?_
    rintro e w5 ⟨la, ln, lc, S, rfl, hln, hSm, hScm, hSrd, b5, hcap1, hcap2⟩
    have HB5 := hide (HBW.out.trans (b5.mono HBW.out.size))
    have hsn : ln = (reachG l [c0]).length := by
      have := congrArg List.length hSm
      rw [List.length_map, HSL.out] at this
      omega
    have HLN := hide hln
    have HSM := hide hSm
    have HSR : Hid (∀ W, Below w5.heap.size w5 W → RdG cCm 5 W la S) := hide (fun W hW => hSrd.below hW)
    have HRR := hide (HRC.out w5 HB5.out)
    have HSN := hide hsn
    have hlb : ln ≤ 25 := by omega
    clear b5 HPL hln hSm hScm hSrd HBW hsn HRC
    go_wp2_with fail
    refine HRR.out.mono ?_
    rintro e w6 ⟨ra, rn, rc, rfl, hrn, _, b6⟩
    have b6' : Below w5.heap.size w5 w6 := ((Below.refl _ w5).alloc (Nat.le_refl _) _).trans (b6.mono (by simp))
    have HB6 := hide b6'
    have hne : ((ln : Int) != (rn : Int)) = false := by rw [hrn, HSN.out]; simp
    obtain rfl : rn = ln := by rw [hrn, HSN.out]
    clear b6 b6' hrn HRR
    go_wp2
    go_loopw [79] (fun v wr => ∃ i : Nat, i ≤ rn ∧ v = .int .i64 i ∧ Hid (Below w6.heap.size w6 wr)) (fun v _ => rn - (intOf v).toNat)
    case atStart => exact ⟨0, Nat.zero_le _, rfl, hide (Below.refl _ _)⟩
    case round =>
      obtain ⟨i, hi, rfl, HB⟩ := hrel
      have hb56 := HB6.out.trans (HB.out.mono HB6.out.size)
      by_cases hlt : i < rn
      · obtain ⟨x, hx⟩ : ∃ x, S[i]? = some x := ⟨S[i]'(by have := HLN.out; omega), List.getElem?_eq_getElem _⟩
        obtain ⟨g, o, rfl, r0, r1, r2, r3, r4⟩ := rd_cm (HSR.out wr hb56) hx
        have hxc : (sortG l false (reachG l [c0]))[i]? = some x.c := by rw [← HSM.out, List.getElem?_map, hx]; rfl
        obtain ⟨hxb, hxis⟩ := HIDB.out x.c (List.mem_of_getElem? hxc)
        have bA : Below wr.heap.size wr (wr.alloc (.cells #[.int .u64 x.c.id, .slice x.a x.c.ps.length x.cap, .int .u64 x.c.gen, .int .u64 x.c.root, .string x.c.tx] 32)) := (Below.refl _ _).alloc (Nat.le_refl _) _
        have hW := HB5.out.trans ((hb56.trans (bA.mono hb56.size)).mono HB5.out.size)
        have HX1 := HIS.out _ hW x.c.id c0 hxb hc
        rw [hxis] at HX1
        have HXX := hide HX1
        have HBA := hide (HB.out.trans (bA.mono HB.out.size))
        have kA := Ob.new wr [.int .u64 x.c.id, .slice x.a x.c.ps.length x.cap, .int .u64 x.c.gen, .int .u64 x.c.root, .string x.c.tx] 32
        have HXC := hide hxc
        have HXB := hide hxb
        have HKX := hide kA
        have x0 := kA.cell 0
        simp only [List.getElem?_cons_zero] at x0
        clear hx hxc hxb hxis bA hW HX1 HB kA hb56
        obtain ⟨WA, hWA⟩ : ∃ WA, WA = wr.alloc (.cells #[.int .u64 x.c.id, .slice x.a x.c.ps.length x.cap, .int .u64 x.c.gen, .int .u64 x.c.root, .string x.c.tx] 32) := ⟨_, rfl⟩
        have HWA := hide hWA
        have HKX2 : Hid (Ob WA wr.heap.size 32 [.int .u64 x.c.id, .slice x.a x.c.ps.length x.cap, .int .u64 x.c.gen, .int .u64 x.c.root, .string x.c.tx]) := hide (by rw [hWA]; exact HKX.out)
        have HBA2 : Hid (Below w6.heap.size w6 WA) := hide (by rw [hWA]; exact HBA.out)
        clear hWA HKX HBA
        go_wp2_with fail
        refine HXX.out.mono ?_
        rintro e w7 ⟨rfl, b7⟩
        rw [← HWA.out] at b7
        have HB7 := hide (HBA2.out.trans (b7.mono HBA2.out.size))
        have HK7 := hide (HKX2.out.old b7)
        clear b7 HXX x0
        go_wp2
        go_loopw [94] (fun v wx => ∃ j : Nat, j ≤ i ∧ v = .int .i64 j ∧ Hid (Below w7.heap.size w7 wx)) (fun v _ => i - (intOf v).toNat)
        case atStart => exact ⟨0, Nat.zero_le _, rfl, hide (Below.refl _ _)⟩
        case round =>
          obtain ⟨j, hj, rfl, HBJ⟩ := hrel
          by_cases hltj : j < i
          · have hbj := HB6.out.trans ((HB7.out.trans (HBJ.out.mono HB7.out.size)).mono HB6.out.size)
            obtain ⟨y, hy⟩ : ∃ y, S[j]? = some y := ⟨S[j]'(by have := HLN.out; omega), List.getElem?_eq_getElem _⟩
            obtain ⟨g2, o2, e2, q0, q1, q2, q3, q4⟩ := rd_cm (HSR.out _ hbj) hy
            injection e2 with e2
            injection e2 with e2 e3
            subst e2 e3
            have hyc : (sortG l false (reachG l [c0]))[j]? = some y.c := by rw [← HSM.out, List.getElem?_map, hy]; rfl
            obtain ⟨hyb, _⟩ := HIDB.out y.c (List.mem_of_getElem? hyc)
            obtain ⟨hne1, hna⟩ := log_ahead HOKG.out [c0] hltj HXC.out hyc
            have hno : isG l y.c.id x.c.id = false := by
              cases q : isG l y.c.id x.c.id with
              | false => rfl
              | true => exact absurd ((is_anc HOKG.out _ _).1 q) hna
            have hd : (y.c.id == x.c.id) = false := by simpa using hne1
            obtain ⟨WB, hWB⟩ : ∃ WB, WB = wr.alloc (.cells #[.int .u64 y.c.id, .slice y.a y.c.ps.length y.cap, .int .u64 y.c.gen, .int .u64 y.c.root, .string y.c.tx] 32) := ⟨_, rfl⟩
            have bB : Below wr.heap.size wr WB := by rw [hWB]; exact (Below.refl _ _).alloc (Nat.le_refl _) _
            have hbJB := HBJ.out.trans (bB.mono HBJ.out.size)
            have kx := HK7.out.old hbJB
            have kx0 := HK7.out.old HBJ.out
            have x0 := kx.cell 0
            simp only [List.getElem?_cons_zero] at x0
            have hsx := kx0.lt
            have HX2 := HIS.out WB (HB5.out.trans ((hbj.trans (bB.mono hbj.size)).mono HB5.out.size)) y.c.id x.c.id hyb HXB.out
            rw [hno] at HX2
            rw [hWB] at HX2 x0
            have HXX2 := hide HX2
            have HJB := hide hbJB
            have HWB := hide hWB
            clear hy hyc hyb hne1 hna hno bB hbJB kx kx0 HX2 hbj HBJ hWB
            go_wp2_with fail
            refine HXX2.out.mono ?_
            rintro e w8 ⟨rfl, b8⟩
            rw [← HWB.out] at b8
            have HB8 := hide (HJB.out.trans (b8.mono HJB.out.size))
            clear b8 HXX2 x0
            go_wp2
            go_roundw
            case rel => exact ⟨j + 1, by omega, by simp, HB8⟩
            case measure => simp [intOf]; omega
          · obtain rfl : j = i := by omega
            have HBE := hide (HB7.out.trans (HBJ.out.mono HB7.out.size))
            clear HBJ
            go_wp2
            go_roundw
            case rel => exact ⟨j + 1, by omega, by simp, HBE⟩
            case measure => simp [intOf]; omega
      · obtain rfl : i = rn := by omega
        have HF := hide (HB3.out.trans ((HB5.out.trans (hb56.mono HB5.out.size)).mono HB3.out.size))
        clear hb56
        go_wp2
        go_ret
        exact ⟨rfl, HF.out⟩
end Go.Proofs.Ytmkafoidfgaokaa
