/- DevArms, over the translation: behind as many writes and flushes as it is armed for a device is dead, until a crash. -/
import Derived.Test.YtgkgbemliinajaaDAw
import Derived.Test.YtgkgbemliinajaaFewD
import Derived.Test.YtgkgbemliinajaaDOw
namespace Go.Proofs.Ytgkgbemliinajaa
open Go.RowKit Apo Go.Maps

/-- how the device's count stands to the law's -/
def Arm (arm left : Int) (st : Sd) : Prop := st.dead = false ∧ ((arm < 0 ∧ st.left = -1 ∧ left = arm) ∨ (0 ≤ arm ∧ st.left = left ∧ 0 ≤ left))
theorem Arm.acts {arm left : Int} {st : Sd} (h : Arm arm left st) (ha : st.acts = true) : (decide (0 ≤ arm) && decide (left ≤ 0)) = false ∧ st.acted.dead = false ∧ (0 < left → Arm arm (left - 1) st.acted) ∧ (left ≤ 0 → Arm arm left st.acted) := by
  obtain ⟨hd, h⟩ := h
  have e : st.acted = { st with left := if 0 < st.left then st.left - 1 else st.left } := by unfold Sd.acted; rw [ha]; rfl
  have hz : st.left ≠ 0 := by intro hz; simp [Sd.acts, hz] at ha
  rw [e]
  rcases h with ⟨h1, h2, h3⟩ | ⟨h1, h2, h3⟩
  · refine ⟨by simp; omega, hd, fun h => by omega, fun _ => ⟨hd, .inl ⟨h1, ?_, h3⟩⟩⟩
    simp only
    rw [if_neg (by omega)]
    exact h2
  · refine ⟨by simp; omega, hd, fun h => ⟨hd, .inr ⟨h1, ?_, by omega⟩⟩, fun h => by omega⟩
    simp only
    rw [if_pos (by omega)]
    omega
theorem Arm.dies {arm left : Int} {st : Sd} (h : Arm arm left st) (ha : st.acts = false) : (decide (0 ≤ arm) && decide (left ≤ 0)) = true ∧ st.acted.dead = true := by
  obtain ⟨hd, h⟩ := h
  have e : st.acted = { st with dead := true } := by unfold Sd.acted; rw [ha]; rfl
  have hz : st.left = 0 := by simpa [Sd.acts, hd] using ha
  rw [e]
  refine ⟨?_, rfl⟩
  rcases h with ⟨h1, h2, h3⟩ | ⟨h1, h2, h3⟩
  · omega
  · simp; omega
theorem Arm.parts {arm left : Int} {st : Sd} (h : Arm arm left st) (ha : st.acts = true) : (arm < 0 ∧ left < 0) ∨ (0 ≤ arm ∧ 0 < left) := by
  have hz : st.left ≠ 0 := by intro hz; simp [Sd.acts, hz] at ha
  rcases h.2 with ⟨h1, h2, h3⟩ | ⟨h1, h2, h3⟩
  · exact .inl ⟨h1, by omega⟩
  · exact .inr ⟨h1, by omega⟩
theorem Arm.part0 {arm left : Int} {st : Sd} (h : Arm arm left st) (ha : st.acts = false) : 0 ≤ arm ∧ left ≤ 0 := by
  have := (h.dies ha).1
  simp at this
  exact this
theorem wrote_cases {st : Sd} (hd : st.dead = false) (a : Int) (b : List Int) : (st.wrote a b = (1, st)) ∨ (st.acts = true ∧ st.wrote a b = (0, { st.acted with C := st.C ++ [(a.toNat, b)] })) ∨ (st.acts = false ∧ st.wrote a b = (40, st.acted)) := by
  unfold Sd.wrote
  rw [hd]
  simp only [Bool.false_eq_true, if_false]
  split
  · split
    · next h => exact .inr (.inl ⟨h, rfl⟩)
    · next h => exact .inr (.inr ⟨by simpa using h, rfl⟩)
  · exact .inl rfl
theorem flushed_cases (st : Sd) : (st.acts = true ∧ st.flushed = (0, { st.acted with S := putAll st.C st.S, C := [] })) ∨ (st.acts = false ∧ st.flushed = (40, st.acted)) := by
  unfold Sd.flushed
  split
  · next h => exact .inl ⟨h, rfl⟩
  · next h => exact .inr ⟨by simpa using h, rfl⟩
theorem Arm.same {arm left : Int} {st st' : Sd} (h : Arm arm left st) (h1 : st'.dead = st.dead) (h2 : st'.left = st.left) : Arm arm left st' := by
  unfold Arm
  rw [h1, h2]
  exact h
theorem crashed_flush (st : Sd) (f : Fat) : (st.crashed f).dead = false ∧ (st.crashed f).flushed.1 = 0 := by
  refine ⟨rfl, ?_⟩
  simp [Sd.flushed, Sd.acts, Sd.crashed]

/-- what holds of the device and the fate's box between two rounds -/
structure ArmW (w wr : World) (p : Nat) (f : Fat) (O : Nat → Prop) (st : Sd) : Prop where
  dev : CDev O wr p st
  bel : Below w.heap.size w wr
  box : Ob wr w.heap.size 32 f.cells
  lo : ∀ i, O i → w.heap.size < i
  hi : ∀ i, O i → i < wr.heap.size
theorem ArmW.onl {w wr wq : World} {p : Nat} {f : Fat} {O F : Nat → Prop} {st : Sd} (h : ArmW w wr p f O st) (ho : Onl F wr wq) (hF : ∀ i, F i → wr.heap.size ≤ i) : ArmW w wq p f O st :=
  ⟨h.dev.onl ho (fun i hi q => absurd (h.hi i hi) (Nat.not_lt.2 (hF i q))), Below.onl h.bel ho (fun i hi => Nat.le_trans h.bel.size (hF i hi)) (Nat.le_refl _), h.box.onl ho (fun q => absurd h.box.lt (Nat.not_lt.2 (hF _ q))), h.lo, fun i hi => Nat.lt_of_lt_of_le (h.hi i hi) ho.size⟩
theorem ArmW.turn {w wr wq : World} {p : Nat} {f : Fat} {O : Nat → Prop} {st st' : Sd} (h : ArmW w wr p f O st) (ho : Onl O wr wq) (hd : CDev (Gro O wr wq) wq p st') : ArmW w wq p f (Gro O wr wq) st' :=
  ⟨hd, Below.onl h.bel ho (fun i hi => Nat.le_of_lt (h.lo i hi)) (Nat.le_refl _), h.box.onl ho (fun q => absurd (h.lo _ q) (Nat.lt_irrefl _)), fun i hi => hi.elim (h.lo i) (fun q => Nat.lt_of_lt_of_le h.box.lt q.1), Gro.lt h.hi ho.size⟩
theorem ArmW.turn0 {w wr wq : World} {p : Nat} {f : Fat} {O : Nat → Prop} {st st' : Sd} (h : ArmW w wr p f O st) (ho : Onl O wr wq) (hd : CDev O wq p st') : ArmW w wq p f O st' :=
  ⟨hd, Below.onl h.bel ho (fun i hi => Nat.le_of_lt (h.lo i hi)) (Nat.le_refl _), h.box.onl ho (fun q => absurd (h.lo _ q) (Nat.lt_irrefl _)), h.lo, fun i hi => Nat.lt_of_lt_of_le (h.hi i hi) ho.size⟩
/-- bytes and fates that came in are nobody's here -/
theorem ArmW.byt {w wr : World} {p : Nat} {f : Fat} {O : Nat → Prop} {st : Sd} (h : ArmW w wr p f O st) {k : IntKind} {a : Option Addr} {l : List Int} (hr : Rd k w a l) : ∀ x, a = some x → 0 < l.length → ¬ O x.block := fun x hx h0 q => by
  subst hx
  have := hr.lt h0
  have := h.lo _ q
  omega
theorem ArmW.fat {w wr : World} {p : Nat} {f : Fat} {O : Nat → Prop} {st : Sd} (h : ArmW w wr p f O st) {g : Fat} (hr : OkT w g) : ∀ x, g.ka = some x → 0 < g.keep.length → ¬ O x.block := fun x hx h0 q => by
  obtain ⟨b, off, e, hc⟩ := hr.rd 0 h0
  rw [hx] at e
  cases e
  have := World.block_lt_of_cell? w _ hc
  have := h.lo _ q
  simp only at *
  omega

set_option maxHeartbeats 8000000 in
theorem armsLaw (n : Int) (a : Option Addr) (cap : Nat) (l : List Dd) (arm : Int) (f : Fat) (w : World) (hr : RdD w a l) (hl : l.length ≤ maxLen) (hf : OkT w f) (ha1 : arm ≤ 9223372036854775807) :
    Calls Try.prog 6 #[.int .i64 n, .slice a l.length cap, .int .i64 arm, f.val] w fun e w' => e = .returned (.bool true) ∧ Below w.heap.size w w' := by
  have HR := hide hr
  have HF := hide hf
  have hfl := hf.len
  unfold maxLen at hl hfl
  clear hr hf
  unfold Fat.val Fat.cells
  have B0 : Below w.heap.size w (w.alloc (.cells f.cells.toArray 32)) := (Below.refl _ w).alloc (Nat.le_refl _) _
  have k0 : Ob (w.alloc (.cells f.cells.toArray 32)) w.heap.size 32 f.cells := Ob.new w f.cells 32
  have z0 : (w.alloc (.cells f.cells.toArray 32)).heap.size = w.heap.size + 1 := by simp
  unfold Fat.cells at B0 k0 z0
  generalize hW0 : w.alloc (.cells [.slice f.ka f.keep.length f.kc, .int .i64 f.torn, .int .i64 f.bytes].toArray 32) = W0 at B0 k0 z0
  have HW0 := hide hW0
  clear hW0
  by_cases hfew : fewD l = true
  · have hll : l.length ≤ 40 := by simp [fewD] at hfew; exact hfew.2
    by_cases hn : 50 < n
    · go_enter Try.func6, Try.ntmps6
      go_wp2_with fail
      rw [HW0.out]
      refine (awake_any W0).mono ?_
      rintro e w1 ⟨rfl, b1⟩
      have B1 := B0.trans (b1.mono B0.size)
      go_wp2_with fail
      refine (fewD_any a cap l w1 (HR.out.below B1) (by unfold maxLen; omega)).mono ?_
      rintro e w2 ⟨rfl, b2⟩
      have B2 := B1.trans (b2.mono B1.size)
      rw [hfew]
      have HB2 := hide B2
      clear b1 B1 b2 B2 B0 k0
      go_wp2
      go_ret
      exact ⟨rfl, HB2.out⟩
    · by_cases hk : 100 < f.keep.length
      · go_enter Try.func6, Try.ntmps6
        go_wp2_with fail
        rw [HW0.out]
        refine (awake_any W0).mono ?_
        rintro e w1 ⟨rfl, b1⟩
        have B1 := B0.trans (b1.mono B0.size)
        have k1 := k0.old b1
        go_wp2_with fail
        refine (fewD_any a cap l w1 (HR.out.below B1) (by unfold maxLen; omega)).mono ?_
        rintro e w2 ⟨rfl, b2⟩
        have B2 := B1.trans (b2.mono B1.size)
        have k2 := k1.old b2
        have c0 := k2.cell 0
        simp only [List.getElem?_cons_zero] at c0
        rw [hfew]
        have HB2 := hide B2
        clear b1 B1 b2 B2 B0 k0 k1 k2
        go_wp2
        go_ret
        exact ⟨rfl, HB2.out⟩
      · go_enter Try.func6, Try.ntmps6
        go_wp2_with fail
        rw [HW0.out]
        refine (awake_any W0).mono ?_
        rintro e w1 ⟨rfl, b1⟩
        have B1 := B0.trans (b1.mono B0.size)
        have k1 := k0.old b1
        go_wp2_with fail
        refine (fewD_any a cap l w1 (HR.out.below B1) (by unfold maxLen; omega)).mono ?_
        rintro e w2 ⟨rfl, b2⟩
        have B2 := B1.trans (b2.mono B1.size)
        have k2 := k1.old b2
        have c0 := k2.cell 0
        simp only [List.getElem?_cons_zero] at c0
        rw [hfew]
        have HB2 := hide B2
        have HK2 := hide k2
        have z2 : w.heap.size < w2.heap.size := k2.lt
        clear b1 B1 b2 B2 B0 k0 k1 k2
        go_wp2_with fail
        refine (cnew_any n w2).mono ?_
        rintro e w3 ⟨p, rfl, D3, b3⟩
        have A3 : ArmW w w3 p f (Fresh w2 w3) (newSd n) := ⟨D3, HB2.out.trans (b3.mono HB2.out.size), HK2.out.old b3, fun i hi => Nat.lt_of_lt_of_le z2 hi.1, fun i hi => hi.2⟩
        generalize Fresh w2 w3 = O3 at A3
        have HA3 := hide A3
        clear D3 b3 A3 HB2 HK2
        go_wp2_with fail
        refine (carm_any HA3.out.dev arm ha1).mono ?_
        rintro e w4 ⟨rfl, D4, o4⟩
        have A4 := HA3.out.turn0 o4 D4
        have hA0 : Arm arm arm ((newSd n).armed arm) := by
          refine ⟨rfl, ?_⟩
          by_cases h : 0 ≤ arm
          · exact .inr ⟨h, by simp [Sd.armed, h], h⟩
          · exact .inl ⟨by omega, by simp [Sd.armed, h], rfl⟩
        have hC0 : ((newSd n).armed arm).C.length = 0 := rfl
        generalize (newSd n).armed arm = st4 at A4 hA0 hC0
        have HA4 := hide A4
        have HAR := hide hA0
        clear D4 o4 A4 hA0
        go_wp2
        go_loopw [10, 37] (fun lf i wr => ∃ (k : Nat) (left : Int) (O : Nat → Prop) (st : Sd), k ≤ l.length ∧ lf = .int .i64 left ∧ i = .int .i64 k ∧ left ≤ 9223372036854775807 ∧ st.C.length ≤ k ∧ Hid (Arm arm left st) ∧ Hid (ArmW w wr p f O st)) (fun _ i _ => l.length - (intOf i).toNat)
        case atStart => exact ⟨0, arm, O3, st4, Nat.zero_le _, rfl, rfl, ha1, by omega, HAR, HA4⟩
        case round =>
          obtain ⟨k, left, O, st, hk', rfl, rfl, hleft, hCl, hAr, hAw⟩ := hrel
          have bx := hAw.out.box
          have g0 := bx.cell 0
          have g1 := bx.cell 1
          have g2 := bx.cell 2
          simp only [List.getElem?_cons_zero, List.getElem?_cons_succ, Fat.cells] at g0 g1 g2
          clear bx
          by_cases hlt : k < l.length
          · obtain ⟨d, hd⟩ : ∃ d, l[k]? = some d := ⟨_, List.getElem?_eq_getElem hlt⟩
            obtain ⟨b', off', ha', q0, q1, q2, q3, q4, q5, q6, okd⟩ := HR.out.below hAw.out.bel k d hd
            subst ha'
            have okd0 : OkD w d := by
              obtain ⟨_, _, _, _, _, _, _, _, _, _, ok⟩ := HR.out k d hd
              exact ok
            have hdl := okd.len
            have hdk := okd.fat.len
            have A5 : ArmW w (wr.alloc (.cells #[.int .i64 d.k, .int .i64 d.at', .slice d.ba d.b.length d.bc, .int .i64 d.n, .slice d.f.ka d.f.keep.length d.f.kc, .int .i64 d.f.torn, .int .i64 d.f.bytes] 34)) p f O st := hAw.out.onl (F := fun _ => False) ((Onl.refl _ _).alloc _) (fun _ q => q.elim)
            have HA5 := hide A5
            have HOK := hide okd0
            have HQ := hide hd
            clear A5 okd okd0 hd
            by_cases hk0 : d.k = 0
            · rw [hk0] at q0 HA5
              have H0 := hide hk0
              clear hk0
              rcases wrote_cases hAr.out.1 d.at' d.b with hw | ⟨hact, hw⟩ | ⟨hact, hw⟩
              · go_wp2_with fail
                refine (cwrite_any HA5.out.dev (by omega) d.at' d.ba d.bc d.b (HOK.out.rd.below HA5.out.bel) (HA5.out.byt HOK.out.rd) HOK.out.byt).mono ?_
                rintro e w6 ⟨rfl, D6, o6⟩
                rw [hw] at D6 ⊢
                have HA6 := hide (HA5.out.turn o6 D6)
                clear D6 o6
                go_wp2
                go_roundw
                case rel => exact ⟨k + 1, left, _, st, hlt, rfl, rfl, hleft, by omega, hAr, HA6⟩
                case measure => simp [intOf]; omega
              · obtain ⟨c1, c2, c3, c4⟩ := hAr.out.acts hact
                have C2 := hide c2
                have C3 := hide c3
                have C4 := hide c4
                clear c1 c2 c3 c4
                rcases hAr.out.parts hact with ⟨h1, h2⟩ | ⟨h1, h2⟩
                · go_wp2_with fail
                  refine (cwrite_any HA5.out.dev (by omega) d.at' d.ba d.bc d.b (HOK.out.rd.below HA5.out.bel) (HA5.out.byt HOK.out.rd) HOK.out.byt).mono ?_
                  rintro e w6 ⟨rfl, D6, o6⟩
                  rw [hw] at D6 ⊢
                  have HA6 := hide (HA5.out.turn o6 D6)
                  have HW := hide hw
                  clear D6 o6 hw
                  go_wp2_with fail
                  refine (cdead_any HA6.out.dev).mono ?_
                  rintro e w7 ⟨rfl, rfl⟩
                  simp only
                  rw [C2.out]
                  go_wp2
                  go_roundw
                  case rel => exact ⟨k + 1, left, _, { st.acted with C := st.C ++ [(d.at'.toNat, d.b)] }, hlt, rfl, rfl, by omega, by simp; omega, (C4.out (by omega)).same rfl rfl, HA6⟩
                  case measure => simp [intOf]; omega
                · go_wp2_with fail
                  refine (cwrite_any HA5.out.dev (by omega) d.at' d.ba d.bc d.b (HOK.out.rd.below HA5.out.bel) (HA5.out.byt HOK.out.rd) HOK.out.byt).mono ?_
                  rintro e w6 ⟨rfl, D6, o6⟩
                  rw [hw] at D6 ⊢
                  have HA6 := hide (HA5.out.turn o6 D6)
                  have HW := hide hw
                  clear D6 o6 hw
                  go_wp2_with fail
                  refine (cdead_any HA6.out.dev).mono ?_
                  rintro e w7 ⟨rfl, rfl⟩
                  simp only
                  rw [C2.out]
                  go_wp2
                  go_roundw
                  case rel => exact ⟨k + 1, left - 1, _, { st.acted with C := st.C ++ [(d.at'.toNat, d.b)] }, hlt, rfl, rfl, by omega, by simp; omega, (C3.out h2).same rfl rfl, HA6⟩
                  case measure => simp [intOf]; omega
              · obtain ⟨h1, h2⟩ := hAr.out.part0 hact
                have C2 := hide (hAr.out.dies hact).2
                go_wp2_with fail
                refine (cwrite_any HA5.out.dev (by omega) d.at' d.ba d.bc d.b (HOK.out.rd.below HA5.out.bel) (HA5.out.byt HOK.out.rd) HOK.out.byt).mono ?_
                rintro e w6 ⟨rfl, D6, o6⟩
                rw [hw] at D6 ⊢
                have HA6 := hide (HA5.out.turn o6 D6)
                have HW := hide hw
                clear D6 o6 hw
                go_wp2_with fail
                refine (cdead_any HA6.out.dev).mono ?_
                rintro e w7 ⟨rfl, rfl⟩
                rw [C2.out]
                have bx6 := HA6.out.box
                have y0 := bx6.cell 0
                have y1 := bx6.cell 1
                have y2 := bx6.cell 2
                simp only [List.getElem?_cons_zero, List.getElem?_cons_succ, Fat.cells] at y0 y1 y2
                clear bx6
                go_wp2_with fail
                refine (ccrash_any HA6.out.dev HA6.out.hi (by rw [acted_C]; omega) f (HF.out.below HA6.out.bel) (HA6.out.fat HF.out)).mono ?_
                rintro e wz1 ⟨rfl, D1, o1⟩
                have A1 := HA6.out.turn0 o1 D1
                have HA1 := hide A1
                clear D1 o1 A1
                go_wp2_with fail
                refine (cdead_any HA1.out.dev).mono ?_
                rintro e wz2 ⟨rfl, rfl⟩
                rw [(crashed_flush _ f).1]
                go_wp2_with fail
                refine (cflush_any HA1.out.dev (by simp [Sd.crashed])).mono ?_
                rintro e wz3 ⟨rfl, D3, o3⟩
                rw [(crashed_flush _ f).2]
                have A3 := HA1.out.turn0 o3 D3
                have HA3 := hide A3
                clear D3 o3 A3
                go_wp2
                go_ret
                exact ⟨rfl, HA3.out.bel⟩
            · by_cases hk2 : d.k = 2
              · rw [hk2] at q0 HA5
                have H0 := hide hk2
                clear hk2 hk0
                rcases flushed_cases st with ⟨hact, hw⟩ | ⟨hact, hw⟩
                · obtain ⟨c1, c2, c3, c4⟩ := hAr.out.acts hact
                  have C2 := hide c2
                  have C3 := hide c3
                  have C4 := hide c4
                  clear c1 c2 c3 c4
                  rcases hAr.out.parts hact with ⟨h1, h2⟩ | ⟨h1, h2⟩
                  · go_wp2_with fail
                    refine (cflush_any HA5.out.dev (by omega)).mono ?_
                    rintro e w6 ⟨rfl, D6, o6⟩
                    rw [hw] at D6 ⊢
                    have HA6 := hide (HA5.out.turn0 o6 D6)
                    have HW := hide hw
                    clear D6 o6 hw
                    go_wp2_with fail
                    refine (cdead_any HA6.out.dev).mono ?_
                    rintro e w7 ⟨rfl, rfl⟩
                    simp only
                    rw [C2.out]
                    go_wp2
                    go_roundw
                    case rel => exact ⟨k + 1, left, _, { st.acted with S := putAll st.C st.S, C := [] }, hlt, rfl, rfl, by omega, by simp, (C4.out (by omega)).same rfl rfl, HA6⟩
                    case measure => simp [intOf]; omega
                  · go_wp2_with fail
                    refine (cflush_any HA5.out.dev (by omega)).mono ?_
                    rintro e w6 ⟨rfl, D6, o6⟩
                    rw [hw] at D6 ⊢
                    have HA6 := hide (HA5.out.turn0 o6 D6)
                    have HW := hide hw
                    clear D6 o6 hw
                    go_wp2_with fail
                    refine (cdead_any HA6.out.dev).mono ?_
                    rintro e w7 ⟨rfl, rfl⟩
                    simp only
                    rw [C2.out]
                    go_wp2
                    go_roundw
                    case rel => exact ⟨k + 1, left - 1, _, { st.acted with S := putAll st.C st.S, C := [] }, hlt, rfl, rfl, by omega, by simp, (C3.out h2).same rfl rfl, HA6⟩
                    case measure => simp [intOf]; omega
                · obtain ⟨h1, h2⟩ := hAr.out.part0 hact
                  have C2 := hide (hAr.out.dies hact).2
                  go_wp2_with fail
                  refine (cflush_any HA5.out.dev (by omega)).mono ?_
                  rintro e w6 ⟨rfl, D6, o6⟩
                  rw [hw] at D6 ⊢
                  have HA6 := hide (HA5.out.turn0 o6 D6)
                  have HW := hide hw
                  clear D6 o6 hw
                  go_wp2_with fail
                  refine (cdead_any HA6.out.dev).mono ?_
                  rintro e w7 ⟨rfl, rfl⟩
                  rw [C2.out]
                  have bx6 := HA6.out.box
                  have y0 := bx6.cell 0
                  have y1 := bx6.cell 1
                  have y2 := bx6.cell 2
                  simp only [List.getElem?_cons_zero, List.getElem?_cons_succ, Fat.cells] at y0 y1 y2
                  clear bx6
                  go_wp2_with fail
                  refine (ccrash_any HA6.out.dev HA6.out.hi (by rw [acted_C]; omega) f (HF.out.below HA6.out.bel) (HA6.out.fat HF.out)).mono ?_
                  rintro e wz1 ⟨rfl, D1, o1⟩
                  have A1 := HA6.out.turn0 o1 D1
                  have HA1 := hide A1
                  clear D1 o1 A1
                  go_wp2_with fail
                  refine (cdead_any HA1.out.dev).mono ?_
                  rintro e wz2 ⟨rfl, rfl⟩
                  rw [(crashed_flush _ f).1]
                  go_wp2_with fail
                  refine (cflush_any HA1.out.dev (by simp [Sd.crashed])).mono ?_
                  rintro e wz3 ⟨rfl, D3, o3⟩
                  rw [(crashed_flush _ f).2]
                  have A3 := HA1.out.turn0 o3 D3
                  have HA3 := hide A3
                  clear D3 o3 A3
                  go_wp2
                  go_ret
                  exact ⟨rfl, HA3.out.bel⟩
              · have e0 : (d.k == 0) = false := by simpa using hk0
                have e2 : (d.k == 2) = false := by simpa using hk2
                clear hk0 hk2
                go_wp2
                go_roundw
                case rel => exact ⟨k + 1, left, _, st, hlt, rfl, rfl, hleft, by omega, hAr, HA5⟩
                case measure => simp [intOf]; omega
          · go_wp2_with fail
            refine (ccrash_any hAw.out.dev hAw.out.hi (by omega) f (HF.out.below hAw.out.bel) (hAw.out.fat HF.out)).mono ?_
            rintro e wz1 ⟨rfl, D1, o1⟩
            have A1 := hAw.out.turn0 o1 D1
            have HA1 := hide A1
            clear D1 o1 A1
            go_wp2_with fail
            refine (cdead_any HA1.out.dev).mono ?_
            rintro e wz2 ⟨rfl, rfl⟩
            rw [(crashed_flush _ f).1]
            go_wp2_with fail
            refine (cflush_any HA1.out.dev (by simp [Sd.crashed])).mono ?_
            rintro e wz3 ⟨rfl, D3, o3⟩
            rw [(crashed_flush _ f).2]
            have A3 := HA1.out.turn0 o3 D3
            have HA3 := hide A3
            clear D3 o3 A3
            go_wp2
            go_ret
            exact ⟨rfl, HA3.out.bel⟩
  · have hfew' : fewD l = false := by simpa using hfew
    go_enter Try.func6, Try.ntmps6
    go_wp2_with fail
    rw [HW0.out]
    refine (awake_any W0).mono ?_
    rintro e w1 ⟨rfl, b1⟩
    have B1 := B0.trans (b1.mono B0.size)
    go_wp2_with fail
    refine (fewD_any a cap l w1 (HR.out.below B1) (by unfold maxLen; omega)).mono ?_
    rintro e w2 ⟨rfl, b2⟩
    have B2 := B1.trans (b2.mono B1.size)
    rw [hfew']
    have HB2 := hide B2
    clear b1 B1 b2 B2 B0 k0
    go_wp2
    go_ret
    exact ⟨rfl, HB2.out⟩
end Go.Proofs.Ytgkgbemliinajaa
