/- How the document's Free is made and copied, over the translation. -/
import Derived.Test.YtlomnpeelpmhiaaRFr
namespace Go.Proofs.Ytlomnpeelpmhiaa
open Go.RowKit Apo
attribute [local go_sem ↓] Apo.app_exec

theorem info_bln : (Try.prog.info? 4).map (fun i => (i.zero, i.size, i.bytes)) = some (some (.bool false), 1, 1) := by kernel_rfl
theorem bools_one (L : List Bool) : ∀ u ∈ L.map Value.bool, u.oneCell' = true := by
  intro u hu
  simp only [List.mem_map] at hu
  obtain ⟨b, _, rfl⟩ := hu
  rfl
/-- 'append(nil, v...)' of a row of bools: a new row of the same cells, or nil -/
theorem bools_clone {O : Nat → Prop} {w : World} {n : Nat} {a : Option Addr} {cap : Nat} {L : List Bool} (h : Row O w 4 1 (.slice a n cap) n (L.map Value.bool)) (h63 : n ≤ 16384) :
    ∃ a' cap' w', (Builtin.append_ #[52, 52] 52 #[.slice none 0 0, .slice a n cap]).run Try.prog w = .ok (.slice a' n cap') w' ∧ w'.ownsRow w.heap.size 4 1 (.slice a' n cap') n (L.map Value.bool) ∧ Below w.heap.size w w' := by
  obtain ⟨i, hi, hz, hsize, hby⟩ := info_parts info_bln
  rcases h.1.2 with ⟨hv, hn⟩ | ⟨g, cap0, cur, hv, hg0, hgg, hnc, hcm, hcs, htake⟩
  · cases hv
    have hx : L.map Value.bool = [] := List.eq_nil_of_length_eq_zero (by have := h.len; omega)
    rw [hx]
    have hrun := run_append_owned_none (P := Try.prog) (w := w) w.heap.size 52 52 4 i 1 Try.underlying52 hi (.slice none 0 0) 0 [] (World.ownsRow_nil w _ 4 1)
    exact ⟨none, 0, w, hrun, World.ownsRow_nil w _ 4 1, Below.refl _ _⟩
  · cases hv
    obtain ⟨v', w', q1, q2, q3, _⟩ := run_append_own (P := Try.prog) w w.heap.size 52 52 4 i (.bool false) 1 1 Try.underlying52 hi hz hsize hby rfl (by decide) (.slice none 0 0) 0 [] (World.ownsRow_nil w _ 4 1) ⟨g, 0, none⟩ n cap (L.map Value.bool) h.len (h.1.cells (g := g) rfl) (bools_one L) (by unfold maxLen; omega) (by omega) (Nat.le_refl _)
    rw [Nat.zero_add, List.nil_append] at q2
    obtain ⟨a', cap', hv'⟩ : ∃ a cap, v' = .slice a n cap := by
      rcases q2.2 with ⟨rfl, hz⟩ | ⟨g, cap, cur, rfl, _⟩
      · exact ⟨none, 0, by rw [hz]⟩
      · exact ⟨_, cap, rfl⟩
    subst hv'
    exact ⟨a', cap', w', q1, q2, (Below.refl _ w).grown q3 (Nat.le_refl _) (fun q hq => by simp [Value.ownBlock] at hq)⟩

set_option maxRecDepth 100000 in
set_option maxHeartbeats 4000000 in
theorem rcopyf_any {O : Nat → Prop} {w : World} {p : Nat} {f : Fr} (h : RFr O w p f) :
    Calls Try.prog 18 #[.pointer (some ⟨p, 0, none⟩)] w fun e w' => ∃ q, e = .returned (.pointer (some ⟨q, 0, none⟩)) ∧ w.heap.size ≤ q ∧ RFr (fun i => w.heap.size ≤ i ∧ i < w'.heap.size) w' q f ∧ Below w.heap.size w w' := by
  have hok := h.ok
  have hlen := hok.len
  obtain ⟨v, hob, hp, hrow, _⟩ := h
  obtain ⟨va, vc, hv, hvc, _, _, _⟩ := hrow.form
  subst hv
  have x0 := hob.cell 0
  have x1 := hob.cell 1
  have hrow' : Row O w.drew 4 1 (.slice va f.L.length vc) f.L.length (f.L.map Value.bool) := hrow
  obtain ⟨a', c', w1, R, r1, b1⟩ := bools_clone hrow' hlen
  have b1' : Below w.heap.size w w1 := (Below.refl _ w).drew.trans b1
  have hob1 := hob.old b1'
  have y0 := hob1.cell 0
  have y1 := hob1.cell 1
  simp only [List.getElem?_cons_zero, List.getElem?_cons_succ] at x0 x1 y0 y1
  obtain ⟨q1, q2, q3⟩ := app_runs R
  have HOK := hide hok
  have HR1 := hide r1
  have HB1 := hide b1'
  clear hob hrow hrow' R r1 b1 b1' hob1 hok
  go_enter Try.func18, Try.ntmps18
  go_wp2
  go_region
  go_wp2
  go_ret
  have hz := HB1.out.size
  refine ⟨w1.heap.size, rfl, hz, ⟨_, Ob.new w1 [.int .i64 f.lo, .slice a' f.L.length c'] 54, ⟨hz, by simp⟩, ?_, HOK.out⟩, HB1.out.alloc hz _⟩
  exact ⟨(HR1.out.alloc _).mono (Nat.zero_le _), fun g hg => ⟨by have := (HR1.out.lt g hg).1; simpa using this, by have := (HR1.out.lt g hg).2; simp; omega⟩⟩

/-- the first I of the bools that a new Free has -/
def newL (lo : Nat) (I : Nat) : List Bool := (List.range I).map (fun i => decide (lo ≤ i))
theorem newL_succ (lo I : Nat) : newL lo (I + 1) = newL lo I ++ [decide (lo ≤ I)] := by
  unfold newL
  rw [List.range_succ, List.map_append]
  rfl
theorem newL_len (lo I : Nat) : (newL lo I).length = I := by simp [newL]

set_option maxRecDepth 100000 in
set_option maxHeartbeats 8000000 in
theorem rnewf_any (m n : Int) (w : World) (hm1 : m ≤ 9223372036854775807) :
    Calls Try.prog 8 #[.int .i64 m, .int .i64 n] w fun e w' => e = .returned (.pointer (some ⟨w.heap.size, 0, none⟩)) ∧ RFr (fun i => w.heap.size ≤ i ∧ i < w'.heap.size) w' w.heap.size (newFr m n) ∧ Below w.heap.size w w' := by
  obtain ⟨i0, hi, hz0, hz1, hz2⟩ := info_parts info_bln
  have hN : lenF n ≤ 16384 := by unfold lenF; split <;> omega
  have hnew : newFr m n = ⟨m.toNat, newL m.toNat (lenF n)⟩ := rfl
  have hokn := newFr_ok m n
  have HOKN := hide hokn
  have HNEW := hide hnew
  clear hnew hokn
  have hcm : (m < 0 ∧ m.toNat = 0) ∨ (¬ m < 0 ∧ (m.toNat : Int) = m) := by omega
  have hcn : (n > 16384 ∧ lenF n = 16384) ∨ (¬ n > 16384 ∧ ∀ I : Nat, ((I : Int) < n ↔ I < lenF n)) := by
    by_cases h : n > 16384
    · exact .inl ⟨h, by unfold lenF; rw [if_pos h]⟩
    · refine .inr ⟨h, fun I => ?_⟩
      unfold lenF
      rw [if_neg h]
      omega
  generalize m.toNat = lo at *
  generalize lenF n = N at *
  have HCM := hide hcm
  have HCN := hide hcn
  clear hcm hcn
  rcases HCM.out with ⟨g1, g2⟩ | ⟨g1, g2⟩
  all_goals rcases HCN.out with ⟨g3, g4⟩ | ⟨g3, g4⟩
  · subst g2
    subst g4
    have k0 : Ob (w.alloc (.cells #[.int .i64 0, .slice none 0 0] 54)) w.heap.size 54 [.int .i64 0, .slice none 0 0] := Ob.new w [.int .i64 0, .slice none 0 0] 54
    have HK0 := hide k0
    have HB0 := hide ((Below.refl _ w).alloc (Nat.le_refl _) (.cells #[.int .i64 0, .slice none 0 0] 54))
    clear k0 HCM HCN
    go_enter Try.func8, Try.ntmps8
    go_wp2
    go_loopw [6] (fun i wr => ∃ (I : Nat) (v : Value), I ≤ 16384 ∧ i = .int .i64 I ∧ Hid (Ob wr w.heap.size 54 [.int .i64 0, v]) ∧ Hid (wr.ownsRow (w.heap.size + 1) 4 1 v I ((newL 0 I).map Value.bool)) ∧ Hid (Below w.heap.size w wr)) (fun i _ => 16384 - (intOf i).toNat)
    case atStart => exact ⟨0, .slice none 0 0, Nat.zero_le _, rfl, HK0, World.ownsRow_nil _ _ _ _, HB0⟩
    case round =>
      obtain ⟨I, v, hI, rfl, hOb, hRo, hB⟩ := hrel
      obtain ⟨a3, c3, hv3⟩ := own_len hRo.out
      subst hv3
      have y1 := hOb.out.cell 1
      simp only [List.getElem?_cons_zero, List.getElem?_cons_succ] at y1
      by_cases hlt : I < 16384
      · have hlt2 : (I : Int) < 16384 := by omega
        by_cases hle : 0 ≤ I
        · have em : (newL 0 I).map Value.bool ++ [.bool true] = (newL 0 (I + 1)).map Value.bool := by
            rw [newL_succ, List.map_append, decide_eq_true hle]
            rfl
          obtain ⟨v5, w5, R, r5, g5, _⟩ := run_append_own (P := Try.prog) (wr.alloc (.cells #[.bool true] 4)) (w.heap.size + 1) 52 52 4 i0 _ 1 1 Try.underlying52 hi hz0 hz1 hz2 rfl (by decide) (.slice a3 I c3) _ _ (hRo.out.alloc _) ⟨wr.heap.size, 0, none⟩ 1 1 [.bool true] rfl (cell_one_new _ _ _) (by simp [Value.oneCell']) (by unfold maxLen; omega) (by omega) (by have := hOb.out.lt; simp; omega)
          obtain ⟨a5, c5, hv5⟩ := own_len r5
          subst hv5
          obtain ⟨q1, q2, q3⟩ := app_runs R
          rw [em] at r5
          have hne : (Value.slice a3 I c3).ownBlock ≠ some w.heap.size := fun e => by have := (hRo.out.lt _ e).1; omega
          have ob5 := (hOb.out.alloc (.cells #[.bool true] 4)).kept g5 hne
          have z1 := ob5.cell 1
          have f1 := ob5.frozen 1
          simp only [List.getElem?_cons_zero, List.getElem?_cons_succ] at z1
          have b5 : Below w.heap.size w w5 := (hB.out.alloc hB.out.size _).grown g5 (by have := hB.out.size; simp; omega) (fun q hq => by have := (hRo.out.lt q hq).1; omega)
          have OB5 := hide (ob5.set 1 (.slice a5 (I + 1) c5))
          have R5 := hide (ownsRow_setCell_below r5 (a := ⟨w.heap.size, 1, none⟩) (by show w.heap.size < w.heap.size + 1; omega) (.slice a5 (I + 1) c5))
          have B5 := hide (b5.setCell (p := ⟨w.heap.size, 1, none⟩) (Nat.le_refl _) (.slice a5 (I + 1) c5))
          clear em R r5 g5 hne ob5 b5 hRo hOb
          have hle2 : (0 : Int) ≤ (I : Int) := by omega
          go_wp2
          go_roundw
          case rel => exact ⟨I + 1, _, hlt, by simp, OB5, R5, B5⟩
          case measure => simp [intOf]; omega
        · exact absurd (Nat.zero_le I) hle
      · have hlt2 : ¬ (I : Int) < 16384 := by omega
        have hIN : I = 16384 := by omega
        subst hIN
        go_wp2
        go_ret
        have hz := hOb.out.lt
        refine ⟨rfl, ?_, hB.out⟩
        have hok := HOKN.out
        rw [HNEW.out] at hok ⊢
        refine ⟨_, hOb.out, ⟨Nat.le_refl _, hz⟩, ?_, hok⟩
        rw [newL_len]
        exact ⟨hRo.out.mono (Nat.zero_le _), fun g hg => ⟨by have := (hRo.out.lt g hg).1; omega, (hRo.out.lt g hg).2⟩⟩
  · subst g2
    have k0 : Ob (w.alloc (.cells #[.int .i64 0, .slice none 0 0] 54)) w.heap.size 54 [.int .i64 0, .slice none 0 0] := Ob.new w [.int .i64 0, .slice none 0 0] 54
    have HK0 := hide k0
    have HB0 := hide ((Below.refl _ w).alloc (Nat.le_refl _) (.cells #[.int .i64 0, .slice none 0 0] 54))
    clear k0 HCM HCN
    go_enter Try.func8, Try.ntmps8
    go_wp2
    go_loopw [6] (fun i wr => ∃ (I : Nat) (v : Value), I ≤ N ∧ i = .int .i64 I ∧ Hid (Ob wr w.heap.size 54 [.int .i64 0, v]) ∧ Hid (wr.ownsRow (w.heap.size + 1) 4 1 v I ((newL 0 I).map Value.bool)) ∧ Hid (Below w.heap.size w wr)) (fun i _ => N - (intOf i).toNat)
    case atStart => exact ⟨0, .slice none 0 0, Nat.zero_le _, rfl, HK0, World.ownsRow_nil _ _ _ _, HB0⟩
    case round =>
      obtain ⟨I, v, hI, rfl, hOb, hRo, hB⟩ := hrel
      obtain ⟨a3, c3, hv3⟩ := own_len hRo.out
      subst hv3
      have y1 := hOb.out.cell 1
      simp only [List.getElem?_cons_zero, List.getElem?_cons_succ] at y1
      by_cases hlt : I < N
      · have hlt2 : (I : Int) < n := (g4 I).2 hlt
        by_cases hle : 0 ≤ I
        · have em : (newL 0 I).map Value.bool ++ [.bool true] = (newL 0 (I + 1)).map Value.bool := by
            rw [newL_succ, List.map_append, decide_eq_true hle]
            rfl
          obtain ⟨v5, w5, R, r5, g5, _⟩ := run_append_own (P := Try.prog) (wr.alloc (.cells #[.bool true] 4)) (w.heap.size + 1) 52 52 4 i0 _ 1 1 Try.underlying52 hi hz0 hz1 hz2 rfl (by decide) (.slice a3 I c3) _ _ (hRo.out.alloc _) ⟨wr.heap.size, 0, none⟩ 1 1 [.bool true] rfl (cell_one_new _ _ _) (by simp [Value.oneCell']) (by unfold maxLen; omega) (by omega) (by have := hOb.out.lt; simp; omega)
          obtain ⟨a5, c5, hv5⟩ := own_len r5
          subst hv5
          obtain ⟨q1, q2, q3⟩ := app_runs R
          rw [em] at r5
          have hne : (Value.slice a3 I c3).ownBlock ≠ some w.heap.size := fun e => by have := (hRo.out.lt _ e).1; omega
          have ob5 := (hOb.out.alloc (.cells #[.bool true] 4)).kept g5 hne
          have z1 := ob5.cell 1
          have f1 := ob5.frozen 1
          simp only [List.getElem?_cons_zero, List.getElem?_cons_succ] at z1
          have b5 : Below w.heap.size w w5 := (hB.out.alloc hB.out.size _).grown g5 (by have := hB.out.size; simp; omega) (fun q hq => by have := (hRo.out.lt q hq).1; omega)
          have OB5 := hide (ob5.set 1 (.slice a5 (I + 1) c5))
          have R5 := hide (ownsRow_setCell_below r5 (a := ⟨w.heap.size, 1, none⟩) (by show w.heap.size < w.heap.size + 1; omega) (.slice a5 (I + 1) c5))
          have B5 := hide (b5.setCell (p := ⟨w.heap.size, 1, none⟩) (Nat.le_refl _) (.slice a5 (I + 1) c5))
          clear em R r5 g5 hne ob5 b5 hRo hOb
          have hle2 : (0 : Int) ≤ (I : Int) := by omega
          go_wp2
          go_roundw
          case rel => exact ⟨I + 1, _, hlt, by simp, OB5, R5, B5⟩
          case measure => simp [intOf]; omega
        · exact absurd (Nat.zero_le I) hle
      · have hlt2 : ¬ (I : Int) < n := fun q => hlt ((g4 I).1 q)
        have hIN : I = N := by omega
        subst hIN
        go_wp2
        go_ret
        have hz := hOb.out.lt
        refine ⟨rfl, ?_, hB.out⟩
        have hok := HOKN.out
        rw [HNEW.out] at hok ⊢
        refine ⟨_, hOb.out, ⟨Nat.le_refl _, hz⟩, ?_, hok⟩
        rw [newL_len]
        exact ⟨hRo.out.mono (Nat.zero_le _), fun g hg => ⟨by have := (hRo.out.lt g hg).1; omega, (hRo.out.lt g hg).2⟩⟩
  · subst g4
    subst g2
    have k0 : Ob (w.alloc (.cells #[.int .i64 (lo : Int), .slice none 0 0] 54)) w.heap.size 54 [.int .i64 (lo : Int), .slice none 0 0] := Ob.new w [.int .i64 (lo : Int), .slice none 0 0] 54
    have HK0 := hide k0
    have HB0 := hide ((Below.refl _ w).alloc (Nat.le_refl _) (.cells #[.int .i64 (lo : Int), .slice none 0 0] 54))
    clear k0 HCM HCN
    go_enter Try.func8, Try.ntmps8
    go_wp2
    go_loopw [6] (fun i wr => ∃ (I : Nat) (v : Value), I ≤ 16384 ∧ i = .int .i64 I ∧ Hid (Ob wr w.heap.size 54 [.int .i64 (lo : Int), v]) ∧ Hid (wr.ownsRow (w.heap.size + 1) 4 1 v I ((newL lo I).map Value.bool)) ∧ Hid (Below w.heap.size w wr)) (fun i _ => 16384 - (intOf i).toNat)
    case atStart => exact ⟨0, .slice none 0 0, Nat.zero_le _, rfl, HK0, World.ownsRow_nil _ _ _ _, HB0⟩
    case round =>
      obtain ⟨I, v, hI, rfl, hOb, hRo, hB⟩ := hrel
      obtain ⟨a3, c3, hv3⟩ := own_len hRo.out
      subst hv3
      have y1 := hOb.out.cell 1
      simp only [List.getElem?_cons_zero, List.getElem?_cons_succ] at y1
      by_cases hlt : I < 16384
      · have hlt2 : (I : Int) < 16384 := by omega
        by_cases hle : lo ≤ I
        · have em : (newL lo I).map Value.bool ++ [.bool true] = (newL lo (I + 1)).map Value.bool := by
            rw [newL_succ, List.map_append, decide_eq_true hle]
            rfl
          obtain ⟨v5, w5, R, r5, g5, _⟩ := run_append_own (P := Try.prog) (wr.alloc (.cells #[.bool true] 4)) (w.heap.size + 1) 52 52 4 i0 _ 1 1 Try.underlying52 hi hz0 hz1 hz2 rfl (by decide) (.slice a3 I c3) _ _ (hRo.out.alloc _) ⟨wr.heap.size, 0, none⟩ 1 1 [.bool true] rfl (cell_one_new _ _ _) (by simp [Value.oneCell']) (by unfold maxLen; omega) (by omega) (by have := hOb.out.lt; simp; omega)
          obtain ⟨a5, c5, hv5⟩ := own_len r5
          subst hv5
          obtain ⟨q1, q2, q3⟩ := app_runs R
          rw [em] at r5
          have hne : (Value.slice a3 I c3).ownBlock ≠ some w.heap.size := fun e => by have := (hRo.out.lt _ e).1; omega
          have ob5 := (hOb.out.alloc (.cells #[.bool true] 4)).kept g5 hne
          have z1 := ob5.cell 1
          have f1 := ob5.frozen 1
          simp only [List.getElem?_cons_zero, List.getElem?_cons_succ] at z1
          have b5 : Below w.heap.size w w5 := (hB.out.alloc hB.out.size _).grown g5 (by have := hB.out.size; simp; omega) (fun q hq => by have := (hRo.out.lt q hq).1; omega)
          have OB5 := hide (ob5.set 1 (.slice a5 (I + 1) c5))
          have R5 := hide (ownsRow_setCell_below r5 (a := ⟨w.heap.size, 1, none⟩) (by show w.heap.size < w.heap.size + 1; omega) (.slice a5 (I + 1) c5))
          have B5 := hide (b5.setCell (p := ⟨w.heap.size, 1, none⟩) (Nat.le_refl _) (.slice a5 (I + 1) c5))
          clear em R r5 g5 hne ob5 b5 hRo hOb
          have hle2 : (lo : Int) ≤ (I : Int) := by omega
          go_wp2
          go_roundw
          case rel => exact ⟨I + 1, _, hlt, by simp, OB5, R5, B5⟩
          case measure => simp [intOf]; omega
        · have em : (newL lo I).map Value.bool ++ [.bool false] = (newL lo (I + 1)).map Value.bool := by
            rw [newL_succ, List.map_append, decide_eq_false hle]
            rfl
          obtain ⟨v5, w5, R, r5, g5, _⟩ := run_append_own (P := Try.prog) (wr.alloc (.cells #[.bool false] 4)) (w.heap.size + 1) 52 52 4 i0 _ 1 1 Try.underlying52 hi hz0 hz1 hz2 rfl (by decide) (.slice a3 I c3) _ _ (hRo.out.alloc _) ⟨wr.heap.size, 0, none⟩ 1 1 [.bool false] rfl (cell_one_new _ _ _) (by simp [Value.oneCell']) (by unfold maxLen; omega) (by omega) (by have := hOb.out.lt; simp; omega)
          obtain ⟨a5, c5, hv5⟩ := own_len r5
          subst hv5
          obtain ⟨q1, q2, q3⟩ := app_runs R
          rw [em] at r5
          have hne : (Value.slice a3 I c3).ownBlock ≠ some w.heap.size := fun e => by have := (hRo.out.lt _ e).1; omega
          have ob5 := (hOb.out.alloc (.cells #[.bool false] 4)).kept g5 hne
          have z1 := ob5.cell 1
          have f1 := ob5.frozen 1
          simp only [List.getElem?_cons_zero, List.getElem?_cons_succ] at z1
          have b5 : Below w.heap.size w w5 := (hB.out.alloc hB.out.size _).grown g5 (by have := hB.out.size; simp; omega) (fun q hq => by have := (hRo.out.lt q hq).1; omega)
          have OB5 := hide (ob5.set 1 (.slice a5 (I + 1) c5))
          have R5 := hide (ownsRow_setCell_below r5 (a := ⟨w.heap.size, 1, none⟩) (by show w.heap.size < w.heap.size + 1; omega) (.slice a5 (I + 1) c5))
          have B5 := hide (b5.setCell (p := ⟨w.heap.size, 1, none⟩) (Nat.le_refl _) (.slice a5 (I + 1) c5))
          clear em R r5 g5 hne ob5 b5 hRo hOb
          have hle2 : ¬ (lo : Int) ≤ (I : Int) := by omega
          go_wp2
          go_roundw
          case rel => exact ⟨I + 1, _, hlt, by simp, OB5, R5, B5⟩
          case measure => simp [intOf]; omega
      · have hlt2 : ¬ (I : Int) < 16384 := by omega
        have hIN : I = 16384 := by omega
        subst hIN
        go_wp2
        go_ret
        have hz := hOb.out.lt
        refine ⟨rfl, ?_, hB.out⟩
        have hok := HOKN.out
        rw [HNEW.out] at hok ⊢
        refine ⟨_, hOb.out, ⟨Nat.le_refl _, hz⟩, ?_, hok⟩
        rw [newL_len]
        exact ⟨hRo.out.mono (Nat.zero_le _), fun g hg => ⟨by have := (hRo.out.lt g hg).1; omega, (hRo.out.lt g hg).2⟩⟩
  · subst g2
    have k0 : Ob (w.alloc (.cells #[.int .i64 (lo : Int), .slice none 0 0] 54)) w.heap.size 54 [.int .i64 (lo : Int), .slice none 0 0] := Ob.new w [.int .i64 (lo : Int), .slice none 0 0] 54
    have HK0 := hide k0
    have HB0 := hide ((Below.refl _ w).alloc (Nat.le_refl _) (.cells #[.int .i64 (lo : Int), .slice none 0 0] 54))
    clear k0 HCM HCN
    go_enter Try.func8, Try.ntmps8
    go_wp2
    go_loopw [6] (fun i wr => ∃ (I : Nat) (v : Value), I ≤ N ∧ i = .int .i64 I ∧ Hid (Ob wr w.heap.size 54 [.int .i64 (lo : Int), v]) ∧ Hid (wr.ownsRow (w.heap.size + 1) 4 1 v I ((newL lo I).map Value.bool)) ∧ Hid (Below w.heap.size w wr)) (fun i _ => N - (intOf i).toNat)
    case atStart => exact ⟨0, .slice none 0 0, Nat.zero_le _, rfl, HK0, World.ownsRow_nil _ _ _ _, HB0⟩
    case round =>
      obtain ⟨I, v, hI, rfl, hOb, hRo, hB⟩ := hrel
      obtain ⟨a3, c3, hv3⟩ := own_len hRo.out
      subst hv3
      have y1 := hOb.out.cell 1
      simp only [List.getElem?_cons_zero, List.getElem?_cons_succ] at y1
      by_cases hlt : I < N
      · have hlt2 : (I : Int) < n := (g4 I).2 hlt
        by_cases hle : lo ≤ I
        · have em : (newL lo I).map Value.bool ++ [.bool true] = (newL lo (I + 1)).map Value.bool := by
            rw [newL_succ, List.map_append, decide_eq_true hle]
            rfl
          obtain ⟨v5, w5, R, r5, g5, _⟩ := run_append_own (P := Try.prog) (wr.alloc (.cells #[.bool true] 4)) (w.heap.size + 1) 52 52 4 i0 _ 1 1 Try.underlying52 hi hz0 hz1 hz2 rfl (by decide) (.slice a3 I c3) _ _ (hRo.out.alloc _) ⟨wr.heap.size, 0, none⟩ 1 1 [.bool true] rfl (cell_one_new _ _ _) (by simp [Value.oneCell']) (by unfold maxLen; omega) (by omega) (by have := hOb.out.lt; simp; omega)
          obtain ⟨a5, c5, hv5⟩ := own_len r5
          subst hv5
          obtain ⟨q1, q2, q3⟩ := app_runs R
          rw [em] at r5
          have hne : (Value.slice a3 I c3).ownBlock ≠ some w.heap.size := fun e => by have := (hRo.out.lt _ e).1; omega
          have ob5 := (hOb.out.alloc (.cells #[.bool true] 4)).kept g5 hne
          have z1 := ob5.cell 1
          have f1 := ob5.frozen 1
          simp only [List.getElem?_cons_zero, List.getElem?_cons_succ] at z1
          have b5 : Below w.heap.size w w5 := (hB.out.alloc hB.out.size _).grown g5 (by have := hB.out.size; simp; omega) (fun q hq => by have := (hRo.out.lt q hq).1; omega)
          have OB5 := hide (ob5.set 1 (.slice a5 (I + 1) c5))
          have R5 := hide (ownsRow_setCell_below r5 (a := ⟨w.heap.size, 1, none⟩) (by show w.heap.size < w.heap.size + 1; omega) (.slice a5 (I + 1) c5))
          have B5 := hide (b5.setCell (p := ⟨w.heap.size, 1, none⟩) (Nat.le_refl _) (.slice a5 (I + 1) c5))
          clear em R r5 g5 hne ob5 b5 hRo hOb
          have hle2 : (lo : Int) ≤ (I : Int) := by omega
          go_wp2
          go_roundw
          case rel => exact ⟨I + 1, _, hlt, by simp, OB5, R5, B5⟩
          case measure => simp [intOf]; omega
        · have em : (newL lo I).map Value.bool ++ [.bool false] = (newL lo (I + 1)).map Value.bool := by
            rw [newL_succ, List.map_append, decide_eq_false hle]
            rfl
          obtain ⟨v5, w5, R, r5, g5, _⟩ := run_append_own (P := Try.prog) (wr.alloc (.cells #[.bool false] 4)) (w.heap.size + 1) 52 52 4 i0 _ 1 1 Try.underlying52 hi hz0 hz1 hz2 rfl (by decide) (.slice a3 I c3) _ _ (hRo.out.alloc _) ⟨wr.heap.size, 0, none⟩ 1 1 [.bool false] rfl (cell_one_new _ _ _) (by simp [Value.oneCell']) (by unfold maxLen; omega) (by omega) (by have := hOb.out.lt; simp; omega)
          obtain ⟨a5, c5, hv5⟩ := own_len r5
          subst hv5
          obtain ⟨q1, q2, q3⟩ := app_runs R
          rw [em] at r5
          have hne : (Value.slice a3 I c3).ownBlock ≠ some w.heap.size := fun e => by have := (hRo.out.lt _ e).1; omega
          have ob5 := (hOb.out.alloc (.cells #[.bool false] 4)).kept g5 hne
          have z1 := ob5.cell 1
          have f1 := ob5.frozen 1
          simp only [List.getElem?_cons_zero, List.getElem?_cons_succ] at z1
          have b5 : Below w.heap.size w w5 := (hB.out.alloc hB.out.size _).grown g5 (by have := hB.out.size; simp; omega) (fun q hq => by have := (hRo.out.lt q hq).1; omega)
          have OB5 := hide (ob5.set 1 (.slice a5 (I + 1) c5))
          have R5 := hide (ownsRow_setCell_below r5 (a := ⟨w.heap.size, 1, none⟩) (by show w.heap.size < w.heap.size + 1; omega) (.slice a5 (I + 1) c5))
          have B5 := hide (b5.setCell (p := ⟨w.heap.size, 1, none⟩) (Nat.le_refl _) (.slice a5 (I + 1) c5))
          clear em R r5 g5 hne ob5 b5 hRo hOb
          have hle2 : ¬ (lo : Int) ≤ (I : Int) := by omega
          go_wp2
          go_roundw
          case rel => exact ⟨I + 1, _, hlt, by simp, OB5, R5, B5⟩
          case measure => simp [intOf]; omega
      · have hlt2 : ¬ (I : Int) < n := fun q => hlt ((g4 I).1 q)
        have hIN : I = N := by omega
        subst hIN
        go_wp2
        go_ret
        have hz := hOb.out.lt
        refine ⟨rfl, ?_, hB.out⟩
        have hok := HOKN.out
        rw [HNEW.out] at hok ⊢
        refine ⟨_, hOb.out, ⟨Nat.le_refl _, hz⟩, ?_, hok⟩
        rw [newL_len]
        exact ⟨hRo.out.mono (Nat.zero_le _), fun g hg => ⟨by have := (hRo.out.lt g hg).1; omega, (hRo.out.lt g hg).2⟩⟩
end Go.Proofs.Ytlomnpeelpmhiaa
