/- PagerCounts' walk. Over the translation. -/
import Derived.Test.YtcmblfhghebjjaaPLw
import Derived.Test.YtcmblfhghebjjaaPIn
namespace Apo
open Go Go.RowKit
/-- texts that are put on a device that is not armed, no root yet -/
structure Cnt (st : Sd) (c : Cg) (m N : Nat) : Prop where
  tx : ∃ xs, Tx st ⟨1, 0, 0, 0⟩ c m N xs
  al : Alive st
  nf : c.n = c.f
theorem Cnt.put {st : Sd} {c : Cg} {m N : Nat} {b : List Int} (h : Cnt st c m N) (hb : ∀ z ∈ b, 0 ≤ z ∧ z ≤ 255) (hn : needP b.length ≠ 0) (hr : m + needP b.length ≤ N) : (c.put st b).1 = (⟨m, needP b.length⟩, 0) ∧ Cnt (c.put st b).2.2 (c.put st b).2.1 (m + needP b.length) N := by
  obtain ⟨xs, T⟩ := h.tx
  obtain ⟨a1, a2⟩ := T.put_alive h.al hn hr
  rcases T.put hb hn hr with ⟨p1, p2, p3, p4, p5, p6⟩ | ⟨p1, _⟩
  · refine ⟨p1, ⟨_, p2⟩, a2, ?_⟩
    rw [p3, p4, h.nf]
    unfold Fr.claim
    rw [if_pos (T.suf.all (by omega) hr)]
  · exact absurd a1 p1
theorem Cnt.full {st : Sd} {c : Cg} {m N : Nat} {b : List Int} (h : Cnt st c m N) (hn : needP b.length ≠ 0) (hr : N < m + needP b.length) : c.put st b = ((⟨0, 0⟩, 70), c, st) := by
  obtain ⟨xs, T⟩ := h.tx
  exact T.put_full hn hr
theorem Cnt.commit {st : Sd} {c : Cg} {m N : Nat} {b : List Int} (h : Cnt st c m N) (hb : ∀ z ∈ b, 0 ≤ z ∧ z ≤ 255) (hn : needP b.length ≠ 0) (hr : m + needP b.length ≤ N) : (c.commit st b).1 = 0 ∧ (c.commit st b).2.1.r = ⟨m, needP b.length⟩ ∧ Suf (c.commit st b).2.1.f (m + needP b.length) N := by
  obtain ⟨xs, T⟩ := h.tx
  obtain ⟨d1, _, _, _, _, _, d7⟩ := T.done (by decide) h.al hb hn hr
  refine ⟨d1, by rw [d7], ?_⟩
  rw [d7, h.nf]
  show Suf (c.f.claim ⟨m, needP b.length⟩).2 _ _
  unfold Fr.claim
  rw [if_pos (T.suf.all (by omega) hr)]
  exact T.suf.put hr
theorem Cnt.cfull {st : Sd} {c : Cg} {m N : Nat} {b : List Int} (h : Cnt st c m N) (hn : needP b.length ≠ 0) (hr : N < m + needP b.length) : c.commit st b = (70, c, st) := by
  obtain ⟨xs, T⟩ := h.tx
  exact T.commit_full hn hr
theorem need_small {n : Nat} (h : n ≤ 500) : needP (n : Int) ≠ 0 ∧ needP (n : Int) ≤ 5 := by
  unfold needP
  rw [if_neg (by omega)]
  split <;> omega
end Apo
namespace Go.Proofs.Ytcmblfhghebjjaa
open Go.RowKit Apo

theorem ccount_suf {O : Nat → Prop} {w : World} {q : Nat} {f : Fr} (h : CFr O w q f) (hO : ∀ i, O i → i < w.heap.size) {m N : Nat} (hs : Suf f m N) (hN : N ≤ 16384) :
    Calls Try.prog 21 #[.pointer (some ⟨q, 0, none⟩)] w fun e w' => e = .returned (.int .i64 ((N - m : Nat) : Int)) ∧ Below w.heap.size w w' := by
  have e : sumW f.rows = ((N - m : Nat) : Int) := by
    unfold sumW
    rw [hs.count, IntKind.wrap_i64]
    omega
  refine (callsIn_wide.1 (count_in (fun i hi e => by have := hO i hi; omega) (cspans_any (h.below ((Below.refl w.heap.size w).alloc (Nat.le_refl _) (.cells #[.int .i64 0] 3)))))).mono (fun en w' ⟨h1, b⟩ => ⟨by rw [h1, e], b⟩)

theorem fld1 (a b : Int) (W : World) : (Instr.field 39 (.agg #[.int .i64 a, .int .i64 b]) 1).run Try.prog W = .ok (.int .i64 b) W := by
  have u := Try.underlying39
  have h3 : (Try.prog.info? 3).map (·.size) = some 1 := by kernel_rfl
  cases hq : Try.prog.info? 3 with
  | none => simp [hq] at h3
  | some i =>
    have hi : i.size = 1 := by simpa [hq] using h3
    simp [Instr.field, run_underlying u, asAgg, part, Go.sizeOf, typeInfo, hq, hi, go_sem]
attribute [local go_sem] fld1
/-- the last line: what is free is counted -/
theorem last_counts {w : World} {W : World} {p d : Nat} {c : Cg} {st : Sd} {U : Nat → Prop} (h : LwP w W p d c st U) {m N : Nat} (hs : Suf c.f m N) (hN : N ≤ 16384) :
    Calls Try.prog 19 #[.pointer (some ⟨p, 0, none⟩)] W fun e W1 => ∃ q, e = .returned (.pointer (some ⟨q, 0, none⟩)) ∧ Calls Try.prog 21 #[.pointer (some ⟨q, 0, none⟩)] W1 fun e W2 => e = .returned (.int .i64 ((N - m : Nat) : Int)) ∧ Below w.heap.size w W2 := by
  refine (cfree_any h.c).mono ?_
  rintro e W1 ⟨q, rfl, k, b⟩
  have B1 := h.bel.trans (b.mono h.bel.size)
  refine ⟨q, rfl, (ccount_suf k (fun i q => q.2) hs hN).mono ?_⟩
  rintro e W2 ⟨rfl, b2⟩
  exact ⟨rfl, B1.trans (b2.mono B1.size)⟩

set_option maxRecDepth 100000 in
set_option maxHeartbeats 8000000 in
theorem pcounts_any (w : World) (n : Int) (hn1 : -9223372036854775808 ≤ n) (hn2 : n ≤ 9223372036854775807) (la : Option Addr) (lc : Nat) (l : List Tb) (hl : RdBs w la l) (hlm : l.length ≤ maxLen) (t : Tb) (ht : OkB w t) :
    Calls Try.prog 5 #[.int .i64 n, .slice la l.length lc, .slice t.a t.b.length t.c] w fun e w' => e = .returned (.bool true) ∧ Below w.heap.size w w' := by
  have htb := ht.big
  unfold maxLen at hlm htb
  have HLL := hide hl
  have HTT := hide ht
  clear hl ht
  go_enter Try.func5, Try.ntmps5
  go_wp2_with fail
  refine (awake_any _).mono ?_
  rintro e w1 ⟨rfl, b1⟩
  have HB1 := hide b1
  clear b1
  by_cases g1 : 400 < n
  · go_wp2
    go_ret
    exact ⟨rfl, HB1.out⟩
  by_cases g2 : 6 < l.length
  · have g1' : n ≤ 400 := by omega
    go_wp2
    go_ret
    exact ⟨rfl, HB1.out⟩
  by_cases g3 : 500 < t.b.length
  · have g1' : n ≤ 400 := by omega
    have g2' : l.length ≤ 6 := by omega
    go_wp2
    go_ret
    exact ⟨rfl, HB1.out⟩
  have g1' : n ≤ 400 := by omega
  have g2' : l.length ≤ 6 := by omega
  have g3' : t.b.length ≤ 500 := by omega
  have hC0 : (newSd n).C.length = 0 := rfl
  clear g1 g2 g3
  go_wp2_with fail
  refine (cnew_any n w1).mono ?_
  rintro e w2 ⟨d, rfl, k2, b2⟩
  have L2 : LwD w w2 d (newSd n) (Fresh w1 w2) := ⟨k2, fun i q => Nat.le_trans HB1.out.size q.1, fun i q => q.2, HB1.out.trans (b2.mono HB1.out.size)⟩
  have HL2 := hide L2
  clear k2 b2 L2 HB1
  generalize Fresh w1 w2 = O2 at HL2
  have C3 := cformat_any HL2.out.c HL2.out.hi (by rw [hC0]; decide)
  by_cases g8 : n < 8
  · have hf : (newSd n).format = (70, newSd n) := by
      unfold Sd.format
      rw [if_pos (by simp [newSd, lenOf]; split <;> (try split) <;> omega)]
    rw [hf] at C3
    have HC3 := hide C3
    clear C3 hf
    go_wp2_with fail
    refine HC3.out.mono ?_
    rintro e w3 ⟨rfl, k3, o3⟩
    have HB3 := hide (HL2.out.turn k3 o3).bel
    clear k3 o3
    go_wp2
    go_ret
    exact ⟨rfl, HB3.out⟩
  · have hlen : lenOf n = n.toNat := by unfold lenOf; rw [if_neg (by omega), if_neg (by omega)]
    have h8 : 8 ≤ lenOf n := by rw [hlen]; omega
    obtain ⟨f1, f2, f3, f4⟩ := format_du h8
    have hT := first_tx h8
    have hal := alive_format h8
    have hld : (newSd n).format.2.load = (⟨1, 0, 0, 0⟩, 0) := f2.load f3
    have hC1 : (newSd n).format.2.C.length = 0 := by rw [f3.2.1]; rfl
    rw [f1] at C3
    generalize (newSd n).format.2 = sa at *
    have hcn : Cnt sa ⟨1, ⟨0, 0⟩, freeOf sa, freeOf sa, ((freeOf sa).give ⟨0, 0⟩).2, false⟩ 1 (lenOf n / 4) := ⟨⟨_, hT⟩, hal, give_zero _⟩
    have HC3 := hide C3
    have HCN := hide hcn
    have HLD := hide hld
    clear C3 hT hal hld f1 f2 f3 f4 hcn
    obtain ⟨N, hN⟩ : ∃ N, N = lenOf n / 4 := ⟨_, rfl⟩
    rw [← hN] at HCN
    have hNn : (N : Int) = n / 4 := by rw [hN, hlen]; omega
    have hN4 : N ≤ 100 := by omega
    have HNN := hide hNn
    clear hN h8 hlen hNn
    go_wp2_with fail
    refine HC3.out.mono ?_
    rintro e w3 ⟨rfl, k3, o3⟩
    have HL3 := hide (HL2.out.turn k3 o3)
    clear k3 o3 HL2 HC3
    generalize Gro O2 w2 w3 = O3 at HL3
    have C4 := copen_none HL3.out.c HL3.out.hi (by omega) 1 HLD.out
    have HC4 := hide C4
    clear C4
    go_wp2_with fail
    refine HC4.out.mono ?_
    rintro e w4 ⟨p, v4, rfl, t4, k4, b4⟩
    obtain ⟨a4, c4, hv4⟩ := t4.form
    subst hv4
    have HL4 := hide (HL3.out.opened k4 b4)
    clear t4 k4 b4 HL3 HC4
    generalize Gro O3 w3 w4 = U4 at HL4
    go_wp2
    go_loopw [11, 45] (fun u v wr => ∃ (j m : Nat) (c : Cg) (st : Sd) (U : Nat → Prop), j ≤ l.length ∧ v = .int .i64 j ∧ u = .int .i64 m ∧ m ≤ 100 ∧ Hid (Cnt st c m N) ∧ Hid (st.C.length ≤ 4232 * j) ∧ Hid (LwP w wr p d c st U)) (fun _ v _ => l.length - (intOf v).toNat)
    case atStart => exact ⟨0, 1, _, _, U4, Nat.zero_le _, rfl, rfl, by omega, HCN, hide (by omega), HL4⟩
    case round =>
      obtain ⟨j, m, c, st, U, hj, rfl, rfl, hm, HCT, HCC, HL⟩ := hrel
      by_cases hlt : j < l.length
      · have hx0 : l[j]? = some l[j] := List.getElem?_eq_getElem hlt
        obtain ⟨bb, off, hla, hcell, okx⟩ := (HLL.out.below HL.out.bel) j _ hx0
        subst hla
        generalize l[j] = x at hcell okx hx0
        have hxl := okx.big
        unfold maxLen at hxl
        have HOK := hide okx
        have HX0 := hide hx0
        clear okx hx0
        by_cases g5 : 500 < x.b.length
        · have HBE := hide HL.out.bel
          go_wp2
          go_ret
          exact ⟨rfl, HBE.out⟩
        · have g5' : x.b.length ≤ 500 := by omega
          obtain ⟨nd1, nd2⟩ := need_small g5'
          have hxo : ∀ y, x.a = some y → 0 < x.b.length → ¬ U y.block := fun y hy hyl q => by
            have h1 := HL.out.lo _ q
            have h2 := HLL.out j x HX0.out
            obtain ⟨b3, o3, _, _, ok3⟩ := h2
            have h4 := ok3.rd
            rw [hy] at h4
            have := Rd.lt h4 hyl
            omega
          have C5 := cput_any HL.out.c (by have := HCC.out; omega) x.a x.c x.b HOK.out.rd HOK.out.nil HOK.out.len hxo HOK.out.byt
          have hCp := put_C c st x.b
          clear hxo g5
          by_cases hr : m + needP x.b.length ≤ N
          · obtain ⟨q1, q2⟩ := HCT.out.put HOK.out.byt nd1 hr
            rw [q1] at C5
            generalize c.put st x.b = PT at C5 q2 hCp
            obtain ⟨PT1, c2, st2⟩ := PT
            simp only at C5 q2 hCp
            obtain ⟨K, hK⟩ : ∃ K, K = needP x.b.length := ⟨_, rfl⟩
            rw [← hK] at C5 q2 nd2 hr
            have HC5 := hide C5
            have HQ2 := hide q2
            have HCP := hide hCp
            have wK : IntKind.i64.wrap ((m : Int) + (K : Int)) = ((m + K : Nat) : Int) := by rw [IntKind.wrap_i64]; omega
            clear C5 q2 hCp hK q1
            obtain ⟨MK, hMK⟩ : ∃ MK, MK = m + K := ⟨_, rfl⟩
            rw [← hMK] at wK HQ2 hr
            have hMK2 : MK ≤ 100 := by omega
            clear hMK nd1
            go_wp2_with fail
            refine HC5.out.mono ?_
            rintro e w5 ⟨rfl, k5, o5⟩
            have L5 := (HL.out.turn k5 o5).below ((Below.refl _ w5).alloc (Nat.le_refl _) (.cells #[.int .i64 m, .int .i64 K] 39))
            have HL5 := hide L5
            clear k5 o5 L5
            go_wp2
            go_roundw
            case rel => exact ⟨j + 1, MK, c2, st2, _, by omega, by simp, by simp, hMK2, HQ2, hide (by have := HCC.out; have := HCP.out; omega), HL5⟩
            case measure => simp [intOf]; omega
          · have q1 := HCT.out.full nd1 (by omega)
            rw [q1] at C5
            have HC5 := hide C5
            clear C5 hCp q1 hr nd1 nd2
            go_wp2_with fail
            refine HC5.out.mono ?_
            rintro e w5 ⟨rfl, k5, o5⟩
            have L5 := (HL.out.turn k5 o5).below ((Below.refl _ w5).alloc (Nat.le_refl _) (.cells #[.int .i64 0, .int .i64 0] 39))
            have HL5 := hide L5
            clear k5 o5 L5
            go_wp2
            go_roundw
            case rel => exact ⟨j + 1, m, c, st, _, by omega, by simp, rfl, hm, HCT, hide (by have := HCC.out; omega), HL5⟩
            case measure => simp [intOf]; omega
      · obtain rfl : j = l.length := by omega
        obtain ⟨nd1, nd2⟩ := need_small g3'
        have hto : ∀ y, t.a = some y → 0 < t.b.length → ¬ U y.block := fun y hy hyl q => by
          have h1 := HL.out.lo _ q
          have h4 := HTT.out.rd
          rw [hy] at h4
          have := Rd.lt h4 hyl
          omega
        have HTW := hide (HTT.out.below HL.out.bel)
        have hce : c.e < 18446744073709551615 := by
          obtain ⟨xs, T⟩ := HCT.out.tx
          rw [T.e]
          decide
        have C5 := ccommit_any HL.out.c hce (by have := HCC.out; omega) t.a t.c t.b HTW.out.rd HTW.out.nil HTW.out.len hto HTW.out.byt
        clear hto hce
        by_cases hr : m + needP t.b.length ≤ N
        · obtain ⟨q1, q2, q3⟩ := HCT.out.commit HTW.out.byt nd1 hr
          rw [q1] at C5
          generalize c.commit st t.b = PT at C5 q2 q3
          obtain ⟨PT1, c2, st2⟩ := PT
          simp only at C5 q2 q3
          obtain ⟨K, hK⟩ : ∃ K, K = needP t.b.length := ⟨_, rfl⟩
          rw [← hK] at q2 q3 nd2 hr
          have HC5 := hide C5
          have HQ2 := hide q2
          have HQ3 := hide q3
          have wK : IntKind.i64.wrap ((m : Int) + (K : Int)) = ((m + K : Nat) : Int) := by rw [IntKind.wrap_i64]; omega
          obtain ⟨MK, hMK⟩ : ∃ MK, MK = m + K := ⟨_, rfl⟩
          rw [← hMK] at wK HQ3 hr
          clear C5 q2 q3 hK q1 nd1 hMK
          go_wp2_with fail
          refine HC5.out.mono ?_
          rintro e w5 ⟨rfl, k5, o5⟩
          have L5 := HL.out.turn k5 o5
          have C6 := croot_any L5.c
          rw [HQ2.out] at C6
          have HL5 := hide L5
          have HC6 := hide C6
          clear k5 o5 L5 C6
          go_wp2_with fail
          refine HC6.out.mono ?_
          rintro e w6 ⟨rfl, b6⟩
          have C7 := last_counts (HL5.out.below b6) HQ3.out (by omega)
          have HC7 := hide C7
          clear b6 C7
          go_wp2_with fail
          refine HC7.out.mono ?_
          rintro e w7 ⟨q7, rfl, C8⟩
          have HC8 := hide C8
          clear C8
          go_wp2_with fail
          refine HC8.out.mono ?_
          rintro e w8 ⟨rfl, b8⟩
          have HB8 := hide b8
          clear b8
          go_wp2
          go_ret
          have hfin : (((N - MK : Nat) : Int) == n / 4 - (MK : Int)) = true := by have := HNN.out; simp; omega
          refine ⟨?_, HB8.out⟩
          show Ending.returned (.bool (((N - MK : Nat) : Int) == n / 4 - (MK : Int))) = _
          rw [hfin]
        · have q1 := HCT.out.cfull nd1 (by omega)
          rw [q1] at C5
          have hsuf : Suf c.f m N := by obtain ⟨xs, T⟩ := HCT.out.tx; exact T.suf
          have hmN : m ≤ N := by obtain ⟨xs, T⟩ := HCT.out.tx; exact T.hm
          have HSF := hide hsuf
          have HC5 := hide C5
          clear C5 hsuf q1 nd1 nd2 hr
          go_wp2_with fail
          refine HC5.out.mono ?_
          rintro e w5 ⟨rfl, k5, o5⟩
          have C7 := last_counts (HL.out.turn k5 o5) HSF.out (by omega)
          have HC7 := hide C7
          clear k5 o5 C7
          go_wp2_with fail
          refine HC7.out.mono ?_
          rintro e w7 ⟨q7, rfl, C8⟩
          have HC8 := hide C8
          clear C8
          go_wp2_with fail
          refine HC8.out.mono ?_
          rintro e w8 ⟨rfl, b8⟩
          have HB8 := hide b8
          clear b8
          go_wp2
          go_ret
          have hfin : (((N - m : Nat) : Int) == n / 4 - (m : Int)) = true := by have := HNN.out; simp; omega
          refine ⟨?_, HB8.out⟩
          show Ending.returned (.bool (((N - m : Nat) : Int) == n / 4 - (m : Int))) = _
          rw [hfin]
end Go.Proofs.Ytcmblfhghebjjaa
