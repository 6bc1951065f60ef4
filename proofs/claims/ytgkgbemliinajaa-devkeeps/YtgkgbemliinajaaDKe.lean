/- DevKeeps, over the translation: behind a crash each sector but one is as it was at the last flush, or as one of the writes behind it had it. -/
import Derived.Test.YtgkgbemliinajaaDAr
import Derived.Test.YtgkgbemliinajaaDKm
namespace Go.Proofs.Ytgkgbemliinajaa
open Go.RowKit Apo Go.Maps

/-- the other device, beside the first -/
structure Oth (w wr : World) (q : Nat) (U O : Nat → Prop) (st : Sd) : Prop where
  dev : CDev U wr q st
  hi : ∀ i, U i → i < wr.heap.size
  apart : ∀ i, U i → ¬ O i
theorem Oth.turn {w wr wq : World} {q : Nat} {U O : Nat → Prop} {st : Sd} (h : Oth w wr q U O st) (ho : Onl O wr wq) : Oth w wq q U (Gro O wr wq) st :=
  ⟨h.dev.onl ho h.apart, fun i hi => Nat.lt_of_lt_of_le (h.hi i hi) ho.size, Gro.apart h.apart h.hi⟩
theorem Oth.turn0 {w wr wq : World} {q : Nat} {U O : Nat → Prop} {st : Sd} (h : Oth w wr q U O st) (ho : Onl O wr wq) : Oth w wq q U O st :=
  ⟨h.dev.onl ho h.apart, fun i hi => Nat.lt_of_lt_of_le (h.hi i hi) ho.size, h.apart⟩
theorem Oth.below {w wr wq : World} {q : Nat} {U O : Nat → Prop} {st : Sd} (h : Oth w wr q U O st) (hb : Below wr.heap.size wr wq) : Oth w wq q U O st :=
  ⟨h.dev.onl (F := fun _ => False) (Onl.ofBelow hb) (fun _ _ q => q), fun i hi => Nat.lt_of_lt_of_le (h.hi i hi) hb.size, h.apart⟩
theorem ArmW.below {w wr wq : World} {p : Nat} {f : Fat} {O : Nat → Prop} {st : Sd} (h : ArmW w wr p f O st) (hb : Below wr.heap.size wr wq) : ArmW w wq p f O st := h.onl (F := fun _ => False) (Onl.ofBelow hb) (fun _ q => q.elim)

/-- what is kept: the last of it -/
theorem kept_each {st2 : Sd} {f : Fat} {l : List Dd} (hL : Live st2) (hC : st2.C = []) {i : Nat} (h4 : i < ((writes st2 l).crashed f).S.length) (h2 : i < st2.S.length) (hne : ((writes st2 l).crashed f).S[i] ≠ st2.S[i]) (hno : ∀ (r : Nat) (d : Dd), l[r]? = some d → d.at' = (i : Int) → d.b ≠ ((writes st2 l).crashed f).S[i]) : TornAt (writes st2 l) f i := by
  have hw := writes_all l hL
  have e := crashK_each (keep := f.keep) (torn := f.torn) (bytes := f.bytes) (C := (writes st2 l).C) (S := (writes st2 l).S) i (writes st2 l).C.length
  have hg : (crashK f.keep f.torn f.bytes (writes st2 l).C (writes st2 l).S (writes st2 l).C.length)[i]? = some ((writes st2 l).crashed f).S[i] := List.getElem?_eq_getElem h4
  rcases e with e | ⟨x, hx, hxi, e⟩ | e
  · rw [hg, hw.S, List.getElem?_eq_getElem h2] at e
    exact absurd (Option.some.inj e) hne
  · rw [hg] at e
    have e' := Option.some.inj e
    rcases hw.mem x hx with h | ⟨d, hd, q1, q2⟩
    · rw [hC] at h; cases h
    · obtain ⟨r, hr⟩ := List.getElem?_of_mem hd
      exact absurd (q2.trans e'.symm) (hno r d hr (by rw [q1, hxi]))
  · exact e

set_option maxRecDepth 100000 in
set_option maxHeartbeats 16000000 in
theorem keepsLaw (n : Int) (a : Option Addr) (cap : Nat) (l : List Dd) (a2 : Option Addr) (cap2 : Nat) (l2 : List Dd) (f : Fat) (w : World) (hr : RdD w a l) (hl : l.length ≤ maxLen) (hr2 : RdD w a2 l2) (hl2 : l2.length ≤ maxLen) (hf : OkT w f) :
    Calls Try.prog 4 #[.int .i64 n, .slice a l.length cap, .slice a2 l2.length cap2, f.val] w fun e w' => e = .returned (.bool true) ∧ Below w.heap.size w w' := by
  have HR := hide hr
  have HR2 := hide hr2
  have HF := hide hf
  have hfl := hf.len
  unfold maxLen at hl hl2 hfl
  clear hr hr2 hf
  unfold Fat.val Fat.cells
  have B0 : Below w.heap.size w (w.alloc (.cells f.cells.toArray 32)) := (Below.refl _ w).alloc (Nat.le_refl _) _
  have k0 : Ob (w.alloc (.cells f.cells.toArray 32)) w.heap.size 32 f.cells := Ob.new w f.cells 32
  have z0 : (w.alloc (.cells f.cells.toArray 32)).heap.size = w.heap.size + 1 := by simp
  unfold Fat.cells at B0 k0 z0
  generalize hW0 : w.alloc (.cells [.slice f.ka f.keep.length f.kc, .int .i64 f.torn, .int .i64 f.bytes].toArray 32) = W0 at B0 k0 z0
  have HW0 := hide hW0
  clear hW0
  by_cases hfew : fewD l = true
  · have hll : l.length ≤ 40 := by simp [fewD] at hfew; exact hfew.2
    by_cases hfew2 : fewD l2 = true
    · have hll2 : l2.length ≤ 40 := by simp [fewD] at hfew2; exact hfew2.2
      by_cases hn : 50 < n
      · go_enter Try.func4, Try.ntmps4
        go_wp2_with fail
        rw [HW0.out]
        refine (awake_any W0).mono ?_
        rintro e w1 ⟨rfl, b1⟩
        have B1 := B0.trans (b1.mono B0.size)
        have k1 := k0.old b1
        go_wp2_with fail
        refine (fewD_any a cap l w1 (HR.out.below B1) (by unfold maxLen; omega)).mono ?_
        rintro e w2 ⟨rfl, b2⟩
        have B2 := B1.trans (b2.mono B1.size)
        have k2 := k1.old b2
        rw [hfew]
        go_wp2_with fail
        refine (fewD_any a2 cap2 l2 w2 (HR2.out.below B2) (by unfold maxLen; omega)).mono ?_
        rintro e w3 ⟨rfl, b3⟩
        have B3 := B2.trans (b3.mono B2.size)
        have k3 := k2.old b3
        rw [hfew2]
        have HB2 := hide B3
        have HK2 := hide k3
        clear b1 B1 b2 B2 B0 k0 k1 k2 b3 B3 k3
        clear HK2
        go_wp2
        go_ret
        exact ⟨rfl, HB2.out⟩
      · by_cases hk : 100 < f.keep.length
        · go_enter Try.func4, Try.ntmps4
          go_wp2_with fail
          rw [HW0.out]
          refine (awake_any W0).mono ?_
          rintro e w1 ⟨rfl, b1⟩
          have B1 := B0.trans (b1.mono B0.size)
          have k1 := k0.old b1
          go_wp2_with fail
          refine (fewD_any a cap l w1 (HR.out.below B1) (by unfold maxLen; omega)).mono ?_
          rintro e w2 ⟨rfl, b2⟩
          have B2 := B1.trans (b2.mono B1.size)
          have k2 := k1.old b2
          rw [hfew]
          go_wp2_with fail
          refine (fewD_any a2 cap2 l2 w2 (HR2.out.below B2) (by unfold maxLen; omega)).mono ?_
          rintro e w3 ⟨rfl, b3⟩
          have B3 := B2.trans (b3.mono B2.size)
          have k3 := k2.old b3
          rw [hfew2]
          have HB2 := hide B3
          have HK2 := hide k3
          clear b1 B1 b2 B2 B0 k0 k1 k2 b3 B3 k3
          have c0 := HK2.out.cell 0
          simp only [List.getElem?_cons_zero] at c0
          clear HK2
          go_wp2
          go_ret
          exact ⟨rfl, HB2.out⟩
        · go_enter Try.func4, Try.ntmps4
          go_wp2_with fail
          rw [HW0.out]
          refine (awake_any W0).mono ?_
          rintro e w1 ⟨rfl, b1⟩
          have B1 := B0.trans (b1.mono B0.size)
          have k1 := k0.old b1
          go_wp2_with fail
          refine (fewD_any a cap l w1 (HR.out.below B1) (by unfold maxLen; omega)).mono ?_
          rintro e w2 ⟨rfl, b2⟩
          have B2 := B1.trans (b2.mono B1.size)
          have k2 := k1.old b2
          rw [hfew]
          go_wp2_with fail
          refine (fewD_any a2 cap2 l2 w2 (HR2.out.below B2) (by unfold maxLen; omega)).mono ?_
          rintro e w3 ⟨rfl, b3⟩
          have B3 := B2.trans (b3.mono B2.size)
          have k3 := k2.old b3
          rw [hfew2]
          have HB2 := hide B3
          have HK2 := hide k3
          clear b1 B1 b2 B2 B0 k0 k1 k2 b3 B3 k3
          have c0 := HK2.out.cell 0
          simp only [List.getElem?_cons_zero] at c0
          have z2 : w.heap.size < w3.heap.size := HK2.out.lt
          go_wp2_with fail
          refine (cnew_any n w3).mono ?_
          rintro e w4 ⟨p, rfl, D4, b4⟩
          have A4 : ArmW w w4 p f (Fresh w3 w4) (newSd n) := ⟨D4, HB2.out.trans (b4.mono HB2.out.size), HK2.out.old b4, fun i hi => Nat.lt_of_lt_of_le z2 hi.1, fun i hi => hi.2⟩
          generalize Fresh w3 w4 = O4 at A4
          have HA4 := hide A4
          clear D4 b4 A4 HB2 HK2 c0
          go_wp2
          go_loopw [48] (fun i wr => ∃ (k : Nat) (O : Nat → Prop), k ≤ l.length ∧ i = .int .i64 k ∧ Hid (ArmW w wr p f O (writes (newSd n) (l.take k)))) (fun i _ => l.length - (intOf i).toNat)
          case atStart => exact ⟨0, O4, Nat.zero_le _, rfl, HA4⟩
          case round =>
            obtain ⟨k, O, hk', rfl, hAw⟩ := hrel
            by_cases hlt : k < l.length
            · obtain ⟨d, hd⟩ : ∃ d, l[k]? = some d := ⟨_, List.getElem?_eq_getElem hlt⟩
              obtain ⟨b', off', ha', q0, q1, q2, q3, q4, q5, q6, okd⟩ := HR.out.below hAw.out.bel k d hd
              subst ha'
              have okd0 : OkD w d := by
                obtain ⟨_, _, _, _, _, _, _, _, _, _, ok⟩ := HR.out k d hd
                exact ok
              have hdl := okd.len
              have hdk := okd.fat.len
              have A5 : ArmW w (wr.alloc (.cells #[.int .i64 d.k, .int .i64 d.at', .slice d.ba d.b.length d.bc, .int .i64 d.n, .slice d.f.ka d.f.keep.length d.f.kc, .int .i64 d.f.torn, .int .i64 d.f.bytes] 34)) p f O (writes (newSd n) (l.take k)) := hAw.out.onl (F := fun _ => False) ((Onl.refl _ _).alloc _) (fun _ q => q.elim)
              have hcl := (writes_all (l.take k) (Live.new n)).len
              have hc0 : (newSd n).C.length = 0 := rfl
              have htl : (l.take k).length ≤ k := by simp; omega
              have HA5 := hide A5
              have HOK := hide okd0
              have HQ := hide hd
              clear A5 okd okd0 hd
              go_wp2_with fail
              refine (cwrite_any HA5.out.dev (by omega) d.at' d.ba d.bc d.b (HOK.out.rd.below HA5.out.bel) (HA5.out.byt HOK.out.rd) HOK.out.byt).mono ?_
              rintro e w6 ⟨rfl, D6, o6⟩
              have A6 := HA5.out.turn o6 D6
              rw [← writes_snoc (newSd n) HQ.out] at A6
              have HA6 := hide A6
              clear D6 o6 A6
              go_wp2
              go_roundw
              case rel => exact ⟨k + 1, _, hlt, rfl, HA6⟩
              case measure => simp [intOf]; omega
            · have ek : l.take k = l := List.take_of_length_le (by omega)
              have A1 := hAw.out
              rw [ek] at A1
              have W1 := writes_all l (Live.new n)
              have hc0 : (newSd n).C.length = 0 := rfl
              have hcl := W1.len
              have hS1 := W1.S
              have hB1 := W1.bad
              have hL1 := W1.live
              generalize writes (newSd n) l = st1 at A1 hcl hS1 hB1 hL1
              have HA1 := hide A1
              have HL1 := hide hL1
              have HS1 := hide hS1
              have HBD1 := hide hB1
              clear A1 W1 hL1 hS1 hB1 hAw ek HR
              go_wp2_with fail
              refine (cflush_any HA1.out.dev (by omega)).mono ?_
              rintro e w5 ⟨rfl, D5, o5⟩
              have A5 := HA1.out.turn0 o5 D5
              have e5 : st1.flushed = (0, { st1 with S := putAll st1.C st1.S, C := [] }) := by
                rcases flushed_cases st1 with ⟨_, h⟩ | ⟨h, _⟩
                · rw [h, HL1.out.acted]
                · rw [HL1.out.acts] at h; cases h
              rw [e5] at A5 ⊢
              simp only at A5 ⊢
              have hL2 : Live ({ st1 with S := putAll st1.C st1.S, C := [] } : Sd) := HL1.out
              have hC2 : ({ st1 with S := putAll st1.C st1.S, C := [] } : Sd).C = [] := rfl
              have hB2 : ∀ j, ({ st1 with S := putAll st1.C st1.S, C := [] } : Sd).bad.getD j false = false := by
                intro j
                simp only
                rw [HBD1.out]
                simp only [newSd, List.getD, List.getElem?_replicate]
                split <;> rfl
              generalize ({ st1 with S := putAll st1.C st1.S, C := [] } : Sd) = st2 at A5 hL2 hC2 hB2
              have HA5 := hide A5
              have HL2 := hide hL2
              have HC2 := hide hC2
              have HB2 := hide hB2
              clear D5 o5 A5 e5 hL2 hC2 hB2 HA1 HL1 HS1 HBD1 hcl hc0
              go_wp2_with fail
              refine (ccopy_any HA5.out.dev (by rw [HC2.out]; simp)).mono ?_
              rintro e w6 ⟨q, rfl, C6, b6⟩
              have A6 := HA5.out.below b6
              have Q6 : Oth w w6 q (Fresh w5 w6) O st2 := ⟨C6, fun i hi => hi.2, fun i hi ho => by have := HA5.out.hi i ho; have := hi.1; omega⟩
              generalize Fresh w5 w6 = U at Q6
              have HA6 := hide A6
              have HQ6 := hide Q6
              clear C6 b6 A6 Q6 HA5
              go_wp2
              go_loopw [66] (fun i wr => ∃ (k : Nat) (O : Nat → Prop), k ≤ l2.length ∧ i = .int .i64 k ∧ Hid (ArmW w wr p f O (writes st2 (l2.take k))) ∧ Hid (Oth w wr q U O st2)) (fun i _ => l2.length - (intOf i).toNat)
              case atStart => exact ⟨0, O, Nat.zero_le _, rfl, HA6, HQ6⟩
              case round =>
                obtain ⟨k2, O2, hk2', rfl, hAw2, hQw2⟩ := hrel
                have bx := hAw2.out.box
                have g0 := bx.cell 0
                have g1 := bx.cell 1
                have g2 := bx.cell 2
                simp only [List.getElem?_cons_zero, List.getElem?_cons_succ, Fat.cells] at g0 g1 g2
                clear bx
                by_cases hlt2 : k2 < l2.length
                · obtain ⟨d, hd⟩ : ∃ d, l2[k2]? = some d := ⟨_, List.getElem?_eq_getElem hlt2⟩
                  obtain ⟨b', off', ha', q0, q1, q2, q3, q4, q5, q6, okd⟩ := HR2.out.below hAw2.out.bel k2 d hd
                  subst ha'
                  have okd0 : OkD w d := by
                    obtain ⟨_, _, _, _, _, _, _, _, _, _, ok⟩ := HR2.out k2 d hd
                    exact ok
                  have hdl := okd.len
                  have hdk := okd.fat.len
                  have o7 : Onl (fun _ => False) wr (wr.alloc (.cells #[.int .i64 d.k, .int .i64 d.at', .slice d.ba d.b.length d.bc, .int .i64 d.n, .slice d.f.ka d.f.keep.length d.f.kc, .int .i64 d.f.torn, .int .i64 d.f.bytes] 34)) := (Onl.refl _ _).alloc _
                  have A7 := hAw2.out.onl o7 (fun _ q => q.elim)
                  have Q7 := hQw2.out.turn0 (o7.mono (fun _ q => q.elim))
                  have hcl := (writes_all (l2.take k2) HL2.out).len
                  have hc0 : st2.C.length = 0 := by rw [HC2.out]; rfl
                  have htl : (l2.take k2).length ≤ k2 := by simp; omega
                  have HA7 := hide A7
                  have HQ7 := hide Q7
                  have HOK := hide okd0
                  have HQ := hide hd
                  clear A7 Q7 okd okd0 hd o7
                  go_wp2_with fail
                  refine (cwrite_any HA7.out.dev (by omega) d.at' d.ba d.bc d.b (HOK.out.rd.below HA7.out.bel) (HA7.out.byt HOK.out.rd) HOK.out.byt).mono ?_
                  rintro e w8 ⟨rfl, D8, o8⟩
                  have A8 := HA7.out.turn o8 D8
                  have HQ8 := hide (HQ7.out.turn o8)
                  rw [← writes_snoc st2 HQ.out] at A8
                  have HA8 := hide A8
                  clear D8 o8 A8
                  go_wp2
                  go_roundw
                  case rel => exact ⟨k2 + 1, _, hlt2, rfl, HA8, HQ8⟩
                  case measure => simp [intOf]; omega
                · have ek : l2.take k2 = l2 := List.take_of_length_le (by omega)
                  have A7 := hAw2.out
                  rw [ek] at A7
                  have W3 := writes_all l2 HL2.out
                  have hcl := W3.len
                  have hc0 : st2.C.length = 0 := by rw [HC2.out]; rfl
                  have HA7 := hide A7
                  clear A7 ek hAw2
                  go_wp2_with fail
                  refine (ccrash_any HA7.out.dev HA7.out.hi (by omega) f (HF.out.below HA7.out.bel) (HA7.out.fat HF.out)).mono ?_
                  rintro e w8 ⟨rfl, D8, o8⟩
                  have HA8 := hide (HA7.out.turn0 o8 D8)
                  have HQ8 := hide (hQw2.out.turn0 o8)
                  have okc := HA8.out.dev.ok
                  have ok2 := HQ8.out.dev.ok
                  have hlen : ((writes st2 l2).crashed f).S.length = st2.S.length := by
                    have := (crashK_ok (keep := f.keep) (torn := f.torn) (bytes := f.bytes) HA7.out.dev.ok.secs HA7.out.dev.ok.cach (writes st2 l2).C.length).1
                    exact this.trans (by rw [W3.S])
                  have hsz := ok2.size
                  have HLEN := hide hlen
                  have HL4 : Hid (Live ((writes st2 l2).crashed f)) := ⟨rfl, rfl⟩
                  have HB4 : Hid (∀ j, ((writes st2 l2).crashed f).bad.getD j false = false) := by
                    intro j
                    show (writes st2 l2).bad.getD j false = false
                    rw [W3.bad]
                    exact HB2.out j
                  have HT : Hid (∀ i : Nat, ∀ (h4 : i < ((writes st2 l2).crashed f).S.length) (h2 : i < st2.S.length), ((writes st2 l2).crashed f).S[i] ≠ st2.S[i] → (∀ (r : Nat) (d : Dd), l2[r]? = some d → d.at' = (i : Int) → d.b ≠ ((writes st2 l2).crashed f).S[i]) → TornAt (writes st2 l2) f i) := fun i h4 h2 => kept_each HL2.out HC2.out h4 h2
                  have hC4 : ((writes st2 l2).crashed f).C = [] := rfl
                  generalize (writes st2 l2).crashed f = st4 at *
                  have HC4 := hide hC4
                  generalize writes st2 l2 = st3 at *
                  clear D8 o8 W3 okc ok2 hlen hcl hQw2 HA7 hC4
                  go_wp2
                  go_loopw [15, 16] (fun t i wr => ∃ (tc k3 : Nat), t = .int .i64 tc ∧ i = .int .i64 k3 ∧ k3 ≤ st2.S.length ∧ tc ≤ 1 ∧ Hid (tc = 0 ∨ ∃ q, q < k3 ∧ TornAt st3 f q) ∧ Hid (ArmW w wr p f O2 st4) ∧ Hid (Oth w wr q U O2 st2)) (fun _ i _ => st2.S.length - (intOf i).toNat)
                  case atStart => exact ⟨0, 0, rfl, rfl, Nat.zero_le _, by omega, .inl rfl, HA8, HQ8⟩
                  case round =>
                    obtain ⟨tc, k3, rfl, rfl, hk3, htc, hTo, hA9, hQ9⟩ := hrel
                    go_wp2_with fail
                    refine (csize_any hA9.out.dev).mono ?_
                    rintro e w9 ⟨rfl, rfl⟩
                    rw [HLEN.out]
                    by_cases hlt3 : k3 < st2.S.length
                    · have h4 : k3 < st4.S.length := by rw [HLEN.out]; exact hlt3
                      have t4 := told_plain HL4.out HC4.out HB4.out h4
                      have t2 := told_plain HL2.out HC2.out HB2.out hlt3
                      have hT := HT.out k3 h4 hlt3
                      generalize st4.S[k3] = r4 at t4 hT
                      generalize st2.S[k3] = r2 at t2 hT
                      have HT4 := hide t4
                      have HT2 := hide t2
                      have HTT := hide hT
                      clear t4 t2 hT h4
                      go_wp2_with fail
                      refine (cread_any hA9.out.dev (by rw [HC4.out]; simp) k3).mono ?_
                      rintro e w10 ⟨v1, rfl, T1, b10⟩
                      rw [HT4.out] at T1 ⊢
                      have HA10 := hide (hA9.out.below b10)
                      have HQ10 := hide (hQ9.out.below b10)
                      have cv1 := conv_own T1
                      obtain ⟨va1, vc1, rfl⟩ : ∃ a' c', v1 = .slice a' r4.length c' := by
                        rcases T1.2 with ⟨h, hz⟩ | ⟨g, c, cur, h, _⟩
                        · exact ⟨none, 0, by rw [hz]; exact h⟩
                        · exact ⟨_, c, h⟩
                      clear T1 b10
                      go_wp2_with fail
                      refine (cread_any HQ10.out.dev (by rw [HC2.out]; simp) k3).mono ?_
                      rintro e w11 ⟨v2, rfl, T2, b11⟩
                      rw [HT2.out] at T2 ⊢
                      have HA11 := hide (HA10.out.below b11)
                      have HQ11 := hide (HQ10.out.below b11)
                      have cv2 := conv_own T2
                      obtain ⟨va2, vc2, rfl⟩ : ∃ a' c', v2 = .slice a' r2.length c' := by
                        rcases T2.2 with ⟨h, hz⟩ | ⟨g, c, cur, h, _⟩
                        · exact ⟨none, 0, by rw [hz]; exact h⟩
                        · exact ⟨_, c, h⟩
                      have d1 := cv1 w11 b11
                      have d2 := cv2 w11 (Below.refl _ _)
                      have HB11 := hide b11
                      have CV1 := hide cv1
                      clear T2 b11 cv1 cv2 HA10 HQ10
                      go_wp2
                      go_loopw [21, 111] (fun is j wr => ∃ (qb : Bool) (m : Nat), is = .bool qb ∧ j = .int .i64 m ∧ m ≤ l2.length ∧ Hid (r4 = r2 → qb = true) ∧ Hid (∀ (r : Nat) (d : Dd), r < m → l2[r]? = some d → d.at' = (k3 : Int) → d.b = r4 → qb = true) ∧ Hid (Below w11.heap.size w11 wr)) (fun _ j _ => l2.length - (intOf j).toNat)
                      case atStart => exact ⟨_, 0, rfl, rfl, Nat.zero_le _, fun h => by rw [h]; simp, fun r d h => by omega, Below.refl _ _⟩
                      case round =>
                        obtain ⟨qb, m, rfl, rfl, hm, hq1, hq2, hBr⟩ := hrel
                        by_cases hltm : m < l2.length
                        · obtain ⟨d, hd⟩ : ∃ d, l2[m]? = some d := ⟨_, List.getElem?_eq_getElem hltm⟩
                          have bW : Below w.heap.size w wr := HA11.out.bel.trans (hBr.out.mono HA11.out.bel.size)
                          obtain ⟨b', off', ha', q0, q1, q2, q3, q4, q5, q6, okd⟩ := HR2.out.below bW m d hd
                          subst ha'
                          have okd0 : OkD w d := by
                            obtain ⟨_, _, _, _, _, _, _, _, _, _, ok⟩ := HR2.out m d hd
                            exact ok
                          have hdl := okd.len
                          have hdk := okd.fat.len
                          have b12 : Below w11.heap.size w11 (wr.alloc (.cells #[.int .i64 d.k, .int .i64 d.at', .slice d.ba d.b.length d.bc, .int .i64 d.n, .slice d.f.ka d.f.keep.length d.f.kc, .int .i64 d.f.torn, .int .i64 d.f.bytes] 34)) := hBr.out.alloc hBr.out.size _
                          have bW2 := HA11.out.bel.trans (b12.mono HA11.out.bel.size)
                          have x1 := CV1.out _ (HB11.out.trans (b12.mono HB11.out.size))
                          have x2 := (okd0.rd.below bW2).conv (P := Try.prog) 29 5 9 Try.underlying29 Try.underlying5 Try.underlying9 d.bc
                          have HB12 := hide b12
                          have HQ := hide hd
                          clear okd okd0 hd b12 bW bW2
                          cases qb with
                          | true =>
                            clear x1 x2
                            go_wp2
                            go_roundw
                            case rel => exact ⟨true, m + 1, rfl, rfl, hltm, fun _ => rfl, fun _ _ _ _ _ _ => rfl, HB12⟩
                            case measure => simp [intOf]; omega
                          | false =>
                            by_cases hat : d.at' = (k3 : Int)
                            · have hab : (d.at' == (k3 : Int)) = true := by simp [hat]
                              have HAT := hide hat
                              clear hat
                              go_wp2
                              go_roundw
                              case rel =>
                                refine ⟨_, m + 1, rfl, rfl, hltm, fun h => (by have := hq1.out h; cases this), fun r d' hr' hd' ha' hb' => ?_, HB12⟩
                                by_cases hrm : r = m
                                · subst hrm
                                  have h1 := HQ.out
                                  rw [hd'] at h1
                                  cases h1
                                  rw [hb']
                                  simp
                                · have := hq2.out r d' (by omega) hd' ha' hb'
                                  cases this
                              case measure => simp [intOf]; omega
                            · have hab : (d.at' == (k3 : Int)) = false := by simpa using hat
                              have HAT := hide hat
                              clear hat x1 x2
                              go_wp2
                              go_roundw
                              case rel =>
                                refine ⟨false, m + 1, rfl, rfl, hltm, hq1.out, fun r d' hr' hd' ha' hb' => ?_, HB12⟩
                                by_cases hrm : r = m
                                · subst hrm
                                  have h1 := HQ.out
                                  rw [hd'] at h1
                                  cases h1
                                  exact absurd ha' HAT.out
                                · exact hq2.out r d' (by omega) hd' ha' hb'
                              case measure => simp [intOf]; omega
                        · have hmm : m = l2.length := by omega
                          have HMM := hide hmm
                          clear hmm
                          have HA12 := hide (HA11.out.below hBr.out)
                          have HQ12 := hide (HQ11.out.below hBr.out)
                          cases qb with
                          | true =>
                            go_wp2
                            go_roundw
                            case rel => exact ⟨tc, k3 + 1, rfl, rfl, hlt3, htc, hTo.out.imp id (fun ⟨q, h1, h2⟩ => ⟨q, by omega, h2⟩), HA12, HQ12⟩
                            case measure => simp [intOf]; omega
                          | false =>
                            have hta : TornAt st3 f k3 := HTT.out (fun h => (by have := hq1.out h; cases this)) (fun r d hr' ha' hb' => by
                              have hrl := (List.getElem?_eq_some_iff.1 hr').1
                              have := hq2.out r d (by rw [HMM.out]; exact hrl) hr' ha' hb'
                              cases this)
                            have htc0 : tc = 0 := by
                              rcases hTo.out with h | ⟨q', h1, h2⟩
                              · exact h
                              · have := h2.one hta
                                omega
                            have HTA := hide hta
                            subst htc0
                            clear hta
                            go_wp2
                            go_roundw
                            case rel => exact ⟨1, k3 + 1, rfl, rfl, hlt3, by omega, .inr ⟨k3, by omega, HTA.out⟩, HA12, HQ12⟩
                            case measure => simp [intOf]; omega
                    · go_wp2_with fail
                      refine (ccached_any hA9.out.dev).mono ?_
                      rintro e wz ⟨rfl, rfl⟩
                      rw [HC4.out]
                      go_wp2
                      go_ret
                      refine ⟨?_, hA9.out.bel⟩
                      simp
    · have hfew2' : fewD l2 = false := by simpa using hfew2
      go_enter Try.func4, Try.ntmps4
      go_wp2_with fail
      rw [HW0.out]
      refine (awake_any W0).mono ?_
      rintro e w1 ⟨rfl, b1⟩
      have B1 := B0.trans (b1.mono B0.size)
      have k1 := k0.old b1
      go_wp2_with fail
      refine (fewD_any a cap l w1 (HR.out.below B1) (by unfold maxLen; omega)).mono ?_
      rintro e w2 ⟨rfl, b2⟩
      have B2 := B1.trans (b2.mono B1.size)
      have k2 := k1.old b2
      rw [hfew]
      go_wp2_with fail
      refine (fewD_any a2 cap2 l2 w2 (HR2.out.below B2) (by unfold maxLen; omega)).mono ?_
      rintro e w3 ⟨rfl, b3⟩
      have B3 := B2.trans (b3.mono B2.size)
      have k3 := k2.old b3
      rw [hfew2']
      have HB2 := hide B3
      have HK2 := hide k3
      clear b1 B1 b2 B2 B0 k0 k1 k2 b3 B3 k3 HK2
      go_wp2
      go_ret
      exact ⟨rfl, HB2.out⟩
  · have hfew' : fewD l = false := by simpa using hfew
    go_enter Try.func4, Try.ntmps4
    go_wp2_with fail
    rw [HW0.out]
    refine (awake_any W0).mono ?_
    rintro e w1 ⟨rfl, b1⟩
    have B1 := B0.trans (b1.mono B0.size)
    have k1 := k0.old b1
    go_wp2_with fail
    refine (fewD_any a cap l w1 (HR.out.below B1) (by unfold maxLen; omega)).mono ?_
    rintro e w2 ⟨rfl, b2⟩
    have B2 := B1.trans (b2.mono B1.size)
    have k2 := k1.old b2
    rw [hfew']
    have HB2 := hide B2
    clear b1 B1 b2 B2 B0 k0 k1 k2
    go_wp2
    go_ret
    exact ⟨rfl, HB2.out⟩
end Go.Proofs.Ytgkgbemliinajaa
