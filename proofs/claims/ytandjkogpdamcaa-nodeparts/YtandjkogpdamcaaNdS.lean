/- The document's SameEntries, SameKids and SameNode, over the translation. -/
import Derived.Test.YtandjkogpdamcaaNdM
import Derived.Test.YtandjkogpdamcaaObj
import Derived.Laws.StructEq
import Derived.BigQuiet
import Derived.Deep.QuietTactic
namespace Go.Proofs.Ytandjkogpdamcaa
open Go.RowKit Apo
theorem bytes_of_list {a b : ByteArray} (h : a.toList = b.toList) : a = b := by
  rw [ByteArray.toList_eq, ByteArray.toList_eq] at h
  exact ByteArray.ext (Array.ext' h)
open Classical in
theorem neqEn (f g : En) (w : World) : (binOp .neq 55 (.agg #[.string f.k, .string f.v]) (.agg #[.string g.k, .string g.v])).run Try.prog w = .ok (.bool (!decide (f = g))) w := by
  have u9 := Try.underlying9
  have hS : Try.prog.underlying 55 = some (.struct (Try.prog.fieldsOf 55)) := by kernel_rfl
  have hp : Try.prog.stoodInHeld 55 = false := by kernel_rfl
  rw [run_neq_struct, show (10000 : Nat) = 9999 + 1 from rfl, run_equalIn_agg w 9999 55 _ _ hS hp]
  simp only [Program.fieldsOf, Try.underlying55]
  go_simp
  obtain ⟨fk, fv⟩ := f
  obtain ⟨gk, gv⟩ := g
  simp only
  by_cases h1 : fk = gk
  · by_cases h2 : fv = gv
    · simp [h1, h2]
    · have h2' : ¬ fv.toList = gv.toList := fun e => h2 (bytes_of_list e)
      simp [h1, h2, h2']
  · have h1' : ¬ fk.toList = gk.toList := fun e => h1 (bytes_of_list e)
    simp [h1, h1']
open Classical in
theorem neqKi (f g : Ki) (w : World) : (binOp .neq 58 (.agg #[.string f.k, .int .u64 (f.i : Int)]) (.agg #[.string g.k, .int .u64 (g.i : Int)])).run Try.prog w = .ok (.bool (!decide (f = g))) w := by
  have u9 := Try.underlying9
  have u6 := Try.underlying56
  have hS : Try.prog.underlying 58 = some (.struct (Try.prog.fieldsOf 58)) := by kernel_rfl
  have hp : Try.prog.stoodInHeld 58 = false := by kernel_rfl
  rw [run_neq_struct, show (10000 : Nat) = 9999 + 1 from rfl, run_equalIn_agg w 9999 58 _ _ hS hp]
  simp only [Program.fieldsOf, Try.underlying58]
  go_simp
  obtain ⟨fk, fv⟩ := f
  obtain ⟨gk, gv⟩ := g
  simp only
  by_cases h1 : fk = gk
  · by_cases h2 : fv = gv
    · simp [h1, h2]
    · have h2' : ¬ (fv : Int) = (gv : Int) := fun e => h2 (by omega)
      simp [h1, h2, h2']
  · have h1' : ¬ fk.toList = gk.toList := fun e => h1 (bytes_of_list e)
    simp [h1, h1']

open Classical in
set_option maxHeartbeats 1000000 in
theorem sameEn_any (a : Option Addr) (acap : Nat) (l : List En) (b : Option Addr) (bcap : Nat) (m : List En) (w : World) (ha : RdEn w a l) (hb : RdEn w b m) (hl : l.length ≤ 9223372036854775807) :
    Calls Try.prog 22 #[.slice a l.length acap, .slice b m.length bcap] w fun e w' => e = .returned (.bool (decide (l = m))) ∧ Below w.heap.size w w' := by
  have hA := hide ha
  have hB := hide hb
  clear ha hb
  by_cases hlen : l.length = m.length
  · rw [← hlen]
    have HL := hide hlen
    clear hlen
    go_enter Try.func22, Try.ntmps22
    go_wp2
    go_loopw [13] (fun i wr => ∃ k : Nat, k ≤ l.length ∧ i = .int .i64 k ∧ Hid (l.take k = m.take k) ∧ Below w.heap.size w wr) (fun i _ => l.length - (intOf i).toNat)
    case atStart => exact ⟨0, Nat.zero_le _, rfl, rfl, Below.refl _ _⟩
    case round =>
      obtain ⟨k, hk, rfl, hE, hbr⟩ := hrel
      by_cases hlt : k < l.length
      · have hz : l[k]? = some l[k] := List.getElem?_eq_getElem hlt
        have hlt2 : k < m.length := by rw [← HL.out]; exact hlt
        have hy : m[k]? = some m[k] := List.getElem?_eq_getElem hlt2
        generalize l[k] = f at hz
        generalize m[k] = g at hy
        obtain ⟨p, off, rfl, c0, c1⟩ := (hA.out.below hbr) k f hz
        obtain ⟨p', off', rfl, d0, d1⟩ := (hB.out.below hbr) k g hy
        have HZ := hide hz
        have HY := hide hy
        clear hz hy
        have hm : Try.prog.eqGuardType Try.prog.depth 55 = false := by kernel_rfl
        have hcmp := neqEn f g
        by_cases hfg : f = g
        · subst hfg
          simp only [decide_true, Bool.not_true] at hcmp
          have hE' : Hid (l.take (k + 1) = m.take (k + 1)) := by
            show _ = _
            rw [List.take_add_one, List.take_add_one, HZ.out, HY.out, hE.out]
          go_wp2
          go_quiet (fail)
          go_wp2
          go_roundw
          case rel => exact ⟨k + 1, by omega, by go_num, hE', below_drewN hbr _⟩
          case measure => simp [intOf]; omega
        · have hd : decide (f = g) = false := by simp [hfg]
          simp only [hd, Bool.not_false] at hcmp
          have hE' : Hid (l ≠ m) := by
            intro e
            have h1 := HZ.out
            rw [e, HY.out] at h1
            exact hfg (by cases h1; rfl)
          go_wp2
          go_quiet (fail)
          go_wp2
          go_ret
          exact ⟨by simp [hE'.out], below_drewN hbr _⟩
      · have hE' : Hid (l = m) := by
          have h1 := hE.out
          rw [List.take_of_length_le (by omega), List.take_of_length_le (by rw [← HL.out]; omega)] at h1
          exact h1
        go_wp2
        go_ret
        exact ⟨by simp [hE'.out], hbr⟩
  · have hne : l ≠ m := fun e => hlen (by rw [e])
    have hN := hide hne
    have hlb : ((l.length : Int) == (m.length : Int)) = false := by simp; omega
    clear hne
    go_enter Try.func22, Try.ntmps22
    go_wp2
    go_ret
    exact ⟨by simp [hN.out], Below.refl _ _⟩
open Classical in
set_option maxHeartbeats 1000000 in
theorem sameKi_any (a : Option Addr) (acap : Nat) (l : List Ki) (b : Option Addr) (bcap : Nat) (m : List Ki) (w : World) (ha : RdKi w a l) (hb : RdKi w b m) (hl : l.length ≤ 9223372036854775807) :
    Calls Try.prog 23 #[.slice a l.length acap, .slice b m.length bcap] w fun e w' => e = .returned (.bool (decide (l = m))) ∧ Below w.heap.size w w' := by
  have hA := hide ha
  have hB := hide hb
  clear ha hb
  by_cases hlen : l.length = m.length
  · rw [← hlen]
    have HL := hide hlen
    clear hlen
    go_enter Try.func23, Try.ntmps23
    go_wp2
    go_loopw [13] (fun i wr => ∃ k : Nat, k ≤ l.length ∧ i = .int .i64 k ∧ Hid (l.take k = m.take k) ∧ Below w.heap.size w wr) (fun i _ => l.length - (intOf i).toNat)
    case atStart => exact ⟨0, Nat.zero_le _, rfl, rfl, Below.refl _ _⟩
    case round =>
      obtain ⟨k, hk, rfl, hE, hbr⟩ := hrel
      by_cases hlt : k < l.length
      · have hz : l[k]? = some l[k] := List.getElem?_eq_getElem hlt
        have hlt2 : k < m.length := by rw [← HL.out]; exact hlt
        have hy : m[k]? = some m[k] := List.getElem?_eq_getElem hlt2
        generalize l[k] = f at hz
        generalize m[k] = g at hy
        obtain ⟨p, off, rfl, c0, c1⟩ := (hA.out.below hbr) k f hz
        obtain ⟨p', off', rfl, d0, d1⟩ := (hB.out.below hbr) k g hy
        have HZ := hide hz
        have HY := hide hy
        clear hz hy
        have hm : Try.prog.eqGuardType Try.prog.depth 58 = false := by kernel_rfl
        have hcmp := neqKi f g
        by_cases hfg : f = g
        · subst hfg
          simp only [decide_true, Bool.not_true] at hcmp
          have hE' : Hid (l.take (k + 1) = m.take (k + 1)) := by
            show _ = _
            rw [List.take_add_one, List.take_add_one, HZ.out, HY.out, hE.out]
          go_wp2
          go_quiet (fail)
          go_wp2
          go_roundw
          case rel => exact ⟨k + 1, by omega, by go_num, hE', below_drewN hbr _⟩
          case measure => simp [intOf]; omega
        · have hd : decide (f = g) = false := by simp [hfg]
          simp only [hd, Bool.not_false] at hcmp
          have hE' : Hid (l ≠ m) := by
            intro e
            have h1 := HZ.out
            rw [e, HY.out] at h1
            exact hfg (by cases h1; rfl)
          go_wp2
          go_quiet (fail)
          go_wp2
          go_ret
          exact ⟨by simp [hE'.out], below_drewN hbr _⟩
      · have hE' : Hid (l = m) := by
          have h1 := hE.out
          rw [List.take_of_length_le (by omega), List.take_of_length_le (by rw [← HL.out]; omega)] at h1
          exact h1
        go_wp2
        go_ret
        exact ⟨by simp [hE'.out], hbr⟩
  · have hne : l ≠ m := fun e => hlen (by rw [e])
    have hN := hide hne
    have hlb : ((l.length : Int) == (m.length : Int)) = false := by simp; omega
    clear hne
    go_enter Try.func23, Try.ntmps23
    go_wp2
    go_ret
    exact ⟨by simp [hN.out], Below.refl _ _⟩
open Classical in
set_option maxRecDepth 100000 in
set_option maxHeartbeats 2000000 in
theorem sameNd_any (w : World) (x y : NdA) (hx : OkN w x) (hy : OkN w y) :
    Calls Try.prog 15 #[.agg x.cells.toArray, .agg y.cells.toArray] w fun e w' => e = .returned (.bool (decide (x.n = y.n))) ∧ Below w.heap.size w w' := by
  obtain ⟨⟨lv, es, ks⟩, ea, ec, ka, kc⟩ := x
  obtain ⟨⟨lv2, es2, ks2⟩, ea2, ec2, ka2, kc2⟩ := y
  simp only [NdA.cells] at *
  have hle : es.length ≤ 9223372036854775807 := by have h1 := hx.el; have h2 := hx.eb; unfold maxLen at h2; simp only at h1 h2; omega
  have hlk : ks.length ≤ 9223372036854775807 := by have h1 := hx.kl; have h2 := hx.kb; unfold maxLen at h2; simp only at h1 h2; omega
  obtain ⟨W1, hW1⟩ : ∃ W1, W1 = (w.alloc (.cells #[.int .i64 lv, .slice ea es.length ec, .slice ka ks.length kc] 25)).alloc (.cells #[.int .i64 lv2, .slice ea2 es2.length ec2, .slice ka2 ks2.length kc2] 25) := ⟨_, rfl⟩
  have b1 : Below w.heap.size w W1 := by rw [hW1]; exact ((Below.refl _ w).alloc (Nat.le_refl _) _).alloc (by simp) _
  have k1 : Ob W1 w.heap.size 25 [.int .i64 lv, .slice ea es.length ec, .slice ka ks.length kc] := by rw [hW1]; exact (Ob.new w [.int .i64 lv, .slice ea es.length ec, .slice ka ks.length kc] 25).alloc _
  have k2 : Ob W1 (w.heap.size + 1) 25 [.int .i64 lv2, .slice ea2 es2.length ec2, .slice ka2 ks2.length kc2] := by
    rw [hW1]
    have := Ob.new (w.alloc (.cells #[.int .i64 lv, .slice ea es.length ec, .slice ka ks.length kc] 25)) [.int .i64 lv2, .slice ea2 es2.length ec2, .slice ka2 ks2.length kc2] 25
    simpa using this
  have C1 := sameEn_any ea ec es ea2 ec2 es2 W1 (hx.es.below b1) (hy.es.below b1) hle
  have HC2 := hide (fun (W : World) (b : Below W1.heap.size W1 W) => sameKi_any ka kc ks ka2 kc2 ks2 W ((hx.ks.below b1).below b) ((hy.ks.below b1).below b) hlk)
  have c0 := k1.cell 0
  have c1 := k1.cell 1
  have e0 := k2.cell 0
  have e1 := k2.cell 1
  simp only [List.getElem?_cons_zero, List.getElem?_cons_succ] at c0 c1 e0 e1
  have HK1 := hide k1
  have HK2 := hide k2
  have HB1 := hide b1
  by_cases hl : lv = lv2
  · have dl : (lv == lv2) = true := by simpa using hl
    by_cases he : es = es2
    · rw [show decide (es = es2) = true by simpa using he] at C1
      have HC1 := hide C1
      have HE := hide he
      have HL := hide hl
      clear C1 hx hy k1 k2 b1 he hl
      go_enter Try.func15, Try.ntmps15
      rw [hW1] at HC1 HC2 HK1 HK2 HB1 c0 c1 e0 e1
      go_wp2_with fail
      refine HC1.out.mono ?_
      rintro e w2 ⟨rfl, b2⟩
      have C3 := HC2.out w2 b2
      have c2 := (HK1.out.old b2).cell 2
      have e2 := (HK2.out.old b2).cell 2
      simp only [List.getElem?_cons_zero, List.getElem?_cons_succ] at c2 e2
      have HC3 := hide C3
      have HB2 := hide b2
      clear C3 b2
      go_wp2_with fail
      refine HC3.out.mono ?_
      rintro e w3 ⟨rfl, b3⟩
      have HBB := hide (HB1.out.trans ((HB2.out.trans (b3.mono HB2.out.size)).mono HB1.out.size))
      clear b3
      go_wp2
      go_ret
      refine ⟨?_, HBB.out⟩
      have h1 := HE.out
      have h2 := HL.out
      subst h1 h2
      simp
    · rw [show decide (es = es2) = false by simpa using he] at C1
      have HC1 := hide C1
      have HE := hide he
      clear C1 hx hy k1 k2 b1 he hl
      go_enter Try.func15, Try.ntmps15
      rw [hW1] at HC1 HC2 HK1 HK2 HB1 c0 c1 e0 e1
      go_wp2_with fail
      refine HC1.out.mono ?_
      rintro e w2 ⟨rfl, b2⟩
      have HBB := hide (HB1.out.trans (b2.mono HB1.out.size))
      clear b2
      go_wp2
      go_ret
      refine ⟨?_, HBB.out⟩
      simp [HE.out]
  · have dl : (lv == lv2) = false := by simpa using hl
    have HL := hide hl
    clear C1 hx hy k1 k2 b1 hl
    go_enter Try.func15, Try.ntmps15
    rw [hW1] at HC2 HK1 HK2 HB1 c0 c1 e0 e1
    go_wp2
    go_ret
    refine ⟨?_, HB1.out⟩
    simp [HL.out]
end Go.Proofs.Ytandjkogpdamcaa
