/- What the document's Free does when pages are set, claimed, given and taken, over the translation. -/
import Derived.Test.YtlomnpeelpmhiaaRFr
namespace Go.Proofs.Ytlomnpeelpmhiaa
open Go.RowKit Apo

theorem setR_next (L : List Bool) {A I : Nat} (h : A ≤ I) (b : Bool) : setR L A b (I + 1 - A) = (setR L A b (I - A)).set I b := by
  rw [show I + 1 - A = (I - A) + 1 by omega, setR, show A + (I - A) = I by omega]

set_option maxRecDepth 100000 in
set_option maxHeartbeats 4000000 in
theorem rset_nat {O : Nat → Prop} {w : World} {p : Nat} {f : Fr} (h : RFr O w p f) (hO : ∀ i, O i → i < w.heap.size) (A K : Nat) (b : Bool) (hlo : f.lo ≤ A) (hK : 1 ≤ K) (hAK : A + K ≤ f.L.length) :
    Calls Try.prog 30 #[.pointer (some ⟨p, 0, none⟩), .agg #[.int .i64 A, .int .i64 K], .bool b] w fun e w' => e = .returned (.tuple #[]) ∧ RFr O w' p { f with L := setR f.L A b K } ∧ Onl O w w' := by
  have hok := h.ok.len
  have okp := put_ok h.ok (s := ⟨A, K⟩) (by simp only; omega) b
  have O0 : Onl O w (w.alloc (.cells #[.int .i64 A, .int .i64 K] 29)) := (Onl.refl _ w).alloc _
  have k0 : Ob (w.alloc (.cells #[.int .i64 A, .int .i64 K] 29)) w.heap.size 29 [.int .i64 A, .int .i64 K] := Ob.new w [.int .i64 A, .int .i64 K] 29
  have h0 := h.below ((Below.refl _ w).alloc (Nat.le_refl _) (.cells #[.int .i64 A, .int .i64 K] 29))
  generalize hW0 : w.alloc (.cells #[.int .i64 A, .int .i64 K] 29) = W0 at O0 k0 h0
  obtain ⟨v, hob, hp, hrow, okf⟩ := h0
  obtain ⟨g, vc, hv, hg, hgl, hvc, hvm, _, _⟩ := hrow.shape (by omega)
  subst hv
  have hgp : g ≠ p := fun e => hrow.apartOb hob (by decide) (by simp [Value.ownBlock, e])
  have hgw : g < w.heap.size := hO g hg
  have hpw : p < w.heap.size := hO p hp
  have HO0 := hide O0
  have HK0 := hide k0
  have HOB := hide hob
  have HR := hide hrow
  have HGP := hide hgp
  have HP := hide hp
  have HG := hide hg
  have HOKP := hide okp
  clear O0 k0 hob hrow hgp okf h okp hO hp hg
  go_enter Try.func30, Try.ntmps30
  have x0 := HK0.out.cell 0
  have x1 := HK0.out.cell 1
  simp only [List.getElem?_cons_zero, List.getElem?_cons_succ] at x0 x1
  go_wp2
  go_loopw [6] (fun i wr => ∃ I : Nat, A ≤ I ∧ I ≤ A + K ∧ i = .int .i64 I ∧ Hid (Ob wr w.heap.size 29 [.int .i64 A, .int .i64 K]) ∧ Hid (Ob wr p 54 [.int .i64 f.lo, .slice (some ⟨g, 0, none⟩) f.L.length vc]) ∧ Hid (Row O wr 4 1 (.slice (some ⟨g, 0, none⟩) f.L.length vc) f.L.length ((setR f.L A b (I - A)).map Value.bool)) ∧ Hid (Onl O w wr)) (fun i _ => ((A : Int) + K - intOf i).toNat)
  case atStart => exact ⟨A, Nat.le_refl _, by omega, rfl, HK0, HOB, by rw [Nat.sub_self]; exact HR, HO0⟩
  case round =>
    obtain ⟨I, hI0, hI1, rfl, hK0, hOB, hR, hOn⟩ := hrel
    have x0 := hK0.out.cell 0
    have x1 := hK0.out.cell 1
    have y1 := hOB.out.cell 1
    simp only [List.getElem?_cons_zero, List.getElem?_cons_succ] at x0 x1 y1
    by_cases hlt : I < A + K
    · have hlt2 : (I : Int) < (A : Int) + (K : Int) := by omega
      have hlen : I < f.L.length := by omega
      obtain ⟨_, _, hv, _, _, _, _, hcell, hfz⟩ := hR.out.shape (by omega)
      cases hv
      have hc := hcell I (by omega)
      rw [List.getElem?_map, List.getElem?_eq_getElem (by rw [setR_len]; omega)] at hc
      simp only [Option.map_some] at hc
      have hf := hfz I
      have r1 := hR.out.stored I (.bool b)
      have em : ((setR f.L A b (I - A)).map Value.bool).set I (.bool b) = (setR f.L A b (I + 1 - A)).map Value.bool := by
        rw [setR_next f.L hI0, List.map_set]
      rw [em] at r1
      have o1 : Onl O w (wr.setCell ⟨g, I, none⟩ (.bool b)) := hOn.out.set (.inl HG.out) _
      have k1 := hK0.out.set_other (q := g) (i := I) (by omega) (.bool b)
      have b1 := hOB.out.set_other (q := g) (i := I) (Ne.symm HGP.out) (.bool b)
      generalize (setR f.L A b (I - A))[I]'(by rw [setR_len]; omega) = c at hc
      have R1 := hide r1
      have O1 := hide o1
      have K1 := hide k1
      have B1 := hide b1
      clear hcell hfz r1 em o1 k1 b1
      go_wp2
      go_roundw
      case rel => exact ⟨I + 1, by omega, by omega, by simp, K1, B1, R1, O1⟩
      case measure => simp [intOf]; omega
    · have hlt2 : ¬ (I : Int) < (A : Int) + (K : Int) := by omega
      have hIA : I - A = K := by omega
      rw [hIA] at hR
      clear hIA
      go_wp2
      go_end0
      refine ⟨rfl, ⟨_, hOB.out, HP.out, ?_, ?_⟩, hOn.out⟩
      · rw [setR_len]
        exact hR.out
      · have := HOKP.out
        simpa [Fr.put] using this

set_option maxRecDepth 100000 in
theorem rhas_any {O : Nat → Prop} {w : World} {p : Nat} {f : Fr} (h : RFr O w p f) (s : Spn) :
    Calls Try.prog 16 #[.pointer (some ⟨p, 0, none⟩), .agg #[.int .i64 s.a, .int .i64 s.k]] w fun e w' => e = .returned (.bool (f.all s true)) ∧ Below w.heap.size w w' := by
  have B0 : Below w.heap.size w (w.alloc (.cells #[.int .i64 s.a, .int .i64 s.k] 29)) := (Below.refl _ w).alloc (Nat.le_refl _) _
  have h0 := h.below B0
  generalize hW0 : w.alloc (.cells #[.int .i64 s.a, .int .i64 s.k] 29) = W0 at B0 h0
  have HW0 := hide hW0
  have HB0 := hide B0
  have H0 := hide h0
  clear B0 h0 h hW0
  go_enter Try.func16, Try.ntmps16
  go_wp2_with fail
  rw [HW0.out]
  refine (rall_any H0.out s true).mono ?_
  rintro e w1 ⟨rfl, b1⟩
  have B1 := hide (HB0.out.trans (b1.mono HB0.out.size))
  clear b1
  go_wp2
  go_ret
  exact ⟨rfl, B1.out⟩

set_option maxRecDepth 100000 in
set_option maxHeartbeats 4000000 in
theorem rclaim_any {O : Nat → Prop} {w : World} {p : Nat} {f : Fr} (h : RFr O w p f) (hO : ∀ i, O i → i < w.heap.size) (s : Spn) :
    Calls Try.prog 12 #[.pointer (some ⟨p, 0, none⟩), .agg #[.int .i64 s.a, .int .i64 s.k]] w fun e w' => e = .returned (.bool (f.claim s).1) ∧ RFr O w' p (f.claim s).2 ∧ Onl O w w' := by
  have k0 : Ob (w.alloc (.cells #[.int .i64 s.a, .int .i64 s.k] 29)) w.heap.size 29 [.int .i64 s.a, .int .i64 s.k] := Ob.new w [.int .i64 s.a, .int .i64 s.k] 29
  have B0 : Below w.heap.size w (w.alloc (.cells #[.int .i64 s.a, .int .i64 s.k] 29)) := (Below.refl _ w).alloc (Nat.le_refl _) _
  have h0 := h.below B0
  generalize hW0 : w.alloc (.cells #[.int .i64 s.a, .int .i64 s.k] 29) = W0 at k0 B0 h0
  have HK0 := hide k0
  have HB0 := hide B0
  have H0 := hide h0
  have HO := hide hO
  have a0 := k0.cell 0
  have a1 := k0.cell 1
  simp only [List.getElem?_cons_zero, List.getElem?_cons_succ] at a0 a1
  clear k0 B0 h0 h hO
  go_enter Try.func12, Try.ntmps12
  go_wp2_with fail
  refine (rall_any H0.out s true).mono ?_
  rintro e w1 ⟨rfl, b1⟩
  have k1 := HK0.out.old b1
  have x0 := k1.cell 0
  have x1 := k1.cell 1
  simp only [List.getElem?_cons_zero, List.getElem?_cons_succ] at x0 x1
  have H1 := hide (H0.out.below b1)
  have B1 := hide (HB0.out.trans (b1.mono HB0.out.size))
  clear b1 k1
  cases hal : f.all s true
  · have hr : f.claim s = (false, f) := by
      unfold Fr.claim
      rw [if_neg (by rw [hal]; decide)]
    have HRR := hide hr
    clear hal hr
    go_wp2
    go_ret
    refine ⟨by rw [HRR.out]; rfl, by rw [HRR.out]; exact H1.out, Onl.ofBelow B1.out⟩
  · have hr : f.claim s = (true, f.put s false) := by
      unfold Fr.claim
      rw [if_pos hal]
    obtain ⟨g1, g2, g3, _⟩ := all_iff.1 hal
    have hz := B1.out.size
    have KS := rset_nat H1.out (fun i hi => Nat.lt_of_lt_of_le (HO.out i hi) hz) s.a.toNat s.k.toNat false (by omega) (by omega) g3
    rw [show ((s.a.toNat : Nat) : Int) = s.a by omega, show ((s.k.toNat : Nat) : Int) = s.k by omega] at KS
    have HKS := hide KS
    have HRR := hide hr
    clear hal hr KS g1 g2 g3
    go_wp2_with fail
    refine HKS.out.mono ?_
    rintro e w2 ⟨rfl, r2, o2⟩
    have R2 := hide r2
    have O2 := hide ((Onl.ofBelow B1.out).trans o2)
    clear r2 o2
    go_wp2
    go_ret
    refine ⟨by rw [HRR.out]; rfl, by rw [HRR.out]; exact R2.out, O2.out⟩

set_option maxRecDepth 100000 in
set_option maxHeartbeats 4000000 in
theorem rgive_any {O : Nat → Prop} {w : World} {p : Nat} {f : Fr} (h : RFr O w p f) (hO : ∀ i, O i → i < w.heap.size) (s : Spn) :
    Calls Try.prog 14 #[.pointer (some ⟨p, 0, none⟩), .agg #[.int .i64 s.a, .int .i64 s.k]] w fun e w' => e = .returned (.bool (f.give s).1) ∧ RFr O w' p (f.give s).2 ∧ Onl O w w' := by
  have k0 : Ob (w.alloc (.cells #[.int .i64 s.a, .int .i64 s.k] 29)) w.heap.size 29 [.int .i64 s.a, .int .i64 s.k] := Ob.new w [.int .i64 s.a, .int .i64 s.k] 29
  have B0 : Below w.heap.size w (w.alloc (.cells #[.int .i64 s.a, .int .i64 s.k] 29)) := (Below.refl _ w).alloc (Nat.le_refl _) _
  have h0 := h.below B0
  generalize hW0 : w.alloc (.cells #[.int .i64 s.a, .int .i64 s.k] 29) = W0 at k0 B0 h0
  have HK0 := hide k0
  have HB0 := hide B0
  have H0 := hide h0
  have HO := hide hO
  have a0 := k0.cell 0
  have a1 := k0.cell 1
  simp only [List.getElem?_cons_zero, List.getElem?_cons_succ] at a0 a1
  clear k0 B0 h0 h hO
  go_enter Try.func14, Try.ntmps14
  go_wp2_with fail
  refine (rall_any H0.out s false).mono ?_
  rintro e w1 ⟨rfl, b1⟩
  have k1 := HK0.out.old b1
  have x0 := k1.cell 0
  have x1 := k1.cell 1
  simp only [List.getElem?_cons_zero, List.getElem?_cons_succ] at x0 x1
  have H1 := hide (H0.out.below b1)
  have B1 := hide (HB0.out.trans (b1.mono HB0.out.size))
  clear b1 k1
  cases hal : f.all s false
  · have hr : f.give s = (false, f) := by
      unfold Fr.give
      rw [if_neg (by rw [hal]; decide)]
    have HRR := hide hr
    clear hal hr
    go_wp2
    go_ret
    refine ⟨by rw [HRR.out]; rfl, by rw [HRR.out]; exact H1.out, Onl.ofBelow B1.out⟩
  · have hr : f.give s = (true, f.put s true) := by
      unfold Fr.give
      rw [if_pos hal]
    obtain ⟨g1, g2, g3, _⟩ := all_iff.1 hal
    have hz := B1.out.size
    have KS := rset_nat H1.out (fun i hi => Nat.lt_of_lt_of_le (HO.out i hi) hz) s.a.toNat s.k.toNat true (by omega) (by omega) g3
    rw [show ((s.a.toNat : Nat) : Int) = s.a by omega, show ((s.k.toNat : Nat) : Int) = s.k by omega] at KS
    have HKS := hide KS
    have HRR := hide hr
    clear hal hr KS g1 g2 g3
    go_wp2_with fail
    refine HKS.out.mono ?_
    rintro e w2 ⟨rfl, r2, o2⟩
    have R2 := hide r2
    have O2 := hide ((Onl.ofBelow B1.out).trans o2)
    clear r2 o2
    go_wp2
    go_ret
    refine ⟨by rw [HRR.out]; rfl, by rw [HRR.out]; exact R2.out, O2.out⟩

set_option maxRecDepth 100000 in
set_option maxHeartbeats 4000000 in
theorem rtake_any {O : Nat → Prop} {w : World} {p : Nat} {f : Fr} (h : RFr O w p f) (hO : ∀ i, O i → i < w.heap.size) (n : Int) :
    Calls Try.prog 10 #[.pointer (some ⟨p, 0, none⟩), .int .i64 n] w fun e w' => e = .returned (.tuple #[.int .i64 (f.take n).1.1, .bool (f.take n).1.2]) ∧ RFr O w' p (f.take n).2 ∧ Onl O w w' := by
  have hok := h.ok.len
  have H := hide h
  have HO := hide hO
  clear h hO
  go_enter Try.func10, Try.ntmps10
  go_wp2
  go_loopw [6] (fun i wr => ∃ I : Nat, I ≤ f.L.length ∧ i = .int .i64 I ∧ Hid (∀ j : Nat, j < I → f.all ⟨j, n⟩ true = false) ∧ Hid (RFr O wr p f) ∧ Hid (Below w.heap.size w wr)) (fun i _ => f.L.length - (intOf i).toNat)
  case atStart => exact ⟨0, Nat.zero_le _, rfl, fun j hj => by omega, H, Below.refl _ _⟩
  case round =>
    obtain ⟨I, hI, rfl, hno, hR, hB⟩ := hrel
    obtain ⟨v, hob, hp, hrow, okf⟩ := hR.out
    obtain ⟨va, vc, hv, hvc, _, _, _⟩ := hrow.form
    subst hv
    have y1 := hob.cell 1
    simp only [List.getElem?_cons_zero, List.getElem?_cons_succ] at y1
    clear hob hrow okf
    by_cases hlt : I < f.L.length
    · have B0 := (Below.refl wr.heap.size wr).alloc (Nat.le_refl _) (.cells #[.int .i64 I, .int .i64 n] 29)
      have k0 : Ob (wr.alloc (.cells #[.int .i64 I, .int .i64 n] 29)) wr.heap.size 29 [.int .i64 I, .int .i64 n] := Ob.new wr [.int .i64 I, .int .i64 n] 29
      have hr0 := hR.out.below B0
      have hb0 := hB.out.trans (B0.mono hB.out.size)
      generalize hW0 : wr.alloc (.cells #[.int .i64 I, .int .i64 n] 29) = W0 at k0 B0 hr0 hb0
      have HK0 := hide k0
      have HR0 := hide hr0
      have HB0 := hide hb0
      have HCA := hide (rall_any hr0 ⟨I, n⟩ true)
      have a0 := k0.cell 0
      have a1 := k0.cell 1
      simp only [List.getElem?_cons_zero, List.getElem?_cons_succ] at a0 a1
      clear k0 B0 hr0 hb0
      go_wp2_with fail
      refine HCA.out.mono ?_
      rintro e w1 ⟨rfl, b1⟩
      have k1 := HK0.out.old b1
      have x0 := k1.cell 0
      have x1 := k1.cell 1
      simp only [List.getElem?_cons_zero, List.getElem?_cons_succ] at x0 x1
      have H1 := hide (HR0.out.below b1)
      have B1 := hide (HB0.out.trans (b1.mono HB0.out.size))
      clear b1 k1
      cases hal : f.all ⟨I, n⟩ true
      · have hno2 : ∀ j : Nat, j < I + 1 → f.all ⟨j, n⟩ true = false := fun j hj => by
          rcases Nat.lt_or_ge j I with q | q
          · exact hno.out j q
          · rw [show j = I by omega]; exact hal
        have HN2 := hide hno2
        clear hal hno2
        go_wp2
        go_roundw
        case rel => exact ⟨I + 1, hlt, by simp, HN2, H1, B1⟩
        case measure => simp [intOf]; omega
      · have hf : f.first n = some I := by
          unfold Fr.first
          rw [List.find?_range_eq_some]
          exact ⟨hal, by simpa using hlt, fun j hj => by rw [hno.out j hj]; rfl⟩
        have hr : f.take n = (((I : Int), true), f.put ⟨I, n⟩ false) := by
          unfold Fr.take
          rw [hf]
        obtain ⟨g1, g2, g3, _⟩ := all_iff.1 hal
        simp only [Int.toNat_natCast] at g1 g2 g3
        have hz := B1.out.size
        have KS := rset_nat H1.out (fun i hi => Nat.lt_of_lt_of_le (HO.out i hi) hz) I n.toNat false (by omega) (by omega) g3
        rw [show ((n.toNat : Nat) : Int) = n by omega] at KS
        have HKS := hide KS
        have HRR := hide hr
        clear hal hr KS g1 g2 g3 hf
        go_wp2_with fail
        refine HKS.out.mono ?_
        rintro e w2 ⟨rfl, r2, o2⟩
        have R2 := hide r2
        have O2 := hide ((Onl.ofBelow B1.out).trans o2)
        clear r2 o2
        go_wp2
        go_ret2
        refine ⟨by rw [HRR.out]; rfl, ?_, O2.out⟩
        rw [HRR.out]
        simp only [Fr.put, Int.toNat_natCast]
        exact R2.out
    · have hf : f.first n = none := by
        unfold Fr.first
        rw [List.find?_eq_none]
        intro j hj
        rw [hno.out j (by have := List.mem_range.1 hj; omega)]
        decide
      have hr : f.take n = ((0, false), f) := by
        unfold Fr.take
        rw [hf]
      have HRR := hide hr
      clear hf hr
      go_wp2
      go_ret2
      refine ⟨by rw [HRR.out]; rfl, by rw [HRR.out]; exact hR.out, Onl.ofBelow hB.out⟩
end Go.Proofs.Ytlomnpeelpmhiaa
