/- What the program's super.Load does, over the translation. -/
import Derived.Test.YtegadgncggbeoaaGreatQGSo
import Derived.Test.YtegadgncggbeoaaGreatQCRd
import Derived.Test.YtegadgncggbeoaaGreatQGLr
namespace Go.Proofs.YtegadgncggbeoaaGreat
open Go.RowKit Apo

/-- the best super of the first k sectors -/
def best (st : Sd) : Nat → Sup
  | 0 => Sup.none
  | k + 1 => if isSup (st.told k).1 = true ∧ (best st k).e < (supOf (st.told k).1).e then supOf (st.told k).1 else best st k
theorem load_best {st : Sd} (h0 : (st.told 0).2 = 0) (h1 : (st.told 1).2 = 0) : st.load = if (best st 2).e = 0 then (Sup.none, 50) else (best st 2, 0) := by
  unfold Sd.load pickSup
  rw [if_pos h0, if_pos h1]
  have p0 : isSup (st.told 0).1 = true → (supOf (st.told 0).1).e ≠ 0 := fun h => (isSup_bytes h).2
  have p1 : isSup (st.told 1).1 = true → (supOf (st.told 1).1).e ≠ 0 := fun h => (isSup_bytes h).2
  have e2 : best st 2 = if isSup (st.told 1).1 = true ∧ (best st 1).e < (supOf (st.told 1).1).e then supOf (st.told 1).1 else best st 1 := rfl
  have e1 : best st 1 = if isSup (st.told 0).1 = true ∧ 0 < (supOf (st.told 0).1).e then supOf (st.told 0).1 else Sup.none := rfl
  rw [e2, e1]
  generalize (st.told 0).1 = la at *
  generalize (st.told 1).1 = lb at *
  have z : Sup.none.e = 0 := rfl
  cases ha : isSup la
  · cases hb : isSup lb
    · simp [z]
    · have := p1 hb
      have h9 : 0 < (supOf lb).e := by omega
      simp [z, h9, this]
  · have := p0 ha
    have h9 : 0 < (supOf la).e := by omega
    cases hb : isSup lb
    · simp [h9, this]
    · have := p1 hb
      by_cases hlt : (supOf la).e < (supOf lb).e
      · simp [h9, hlt, this]
      · simp [h9, hlt]; omega

theorem load_err {st : Sd} {k : Nat} (hk : k < 2) (ht : ∀ j : Nat, j < k → (st.told j).2 = 0) (he : (st.told k).2 ≠ 0) : st.load = (Sup.none, (st.told k).2) := by
  unfold Sd.load
  have : k = 0 ∨ k = 1 := by omega
  rcases this with rfl | rfl
  · exact if_neg he
  · have h0 : (st.told 0).2 = 0 := ht 0 (by omega)
    rw [if_pos h0]
    exact if_neg he

theorem fin_cload {W : World} {g : Nat} {s : Sup} {z : Int} {tmps : Array Value} {Q : Ending → World → Prop} (k : Ob W g 119 s.cells) (h2 : tmps.getD 2 undef = .pointer (some ⟨g, 0, none⟩)) (h3 : tmps.getD 3 undef = .int .i64 z) (hq : Q (.returned (.tuple #[s.val, .int .i64 z])) W) :
    bodyPost Tryz.prog Tryz.f61 Q Exit.ret { tmps := tmps, defers := [] } W := by
  have hl := run_loadVar_row (P := Tryz.prog) W g 119 119 s.cells.toArray (0, 0) _ k Tryz.underlying119 rfl (by rw [size_sup]; rfl)
  have h2' : tmps[2]?.getD undef = .pointer (some ⟨g, 0, none⟩) := by simpa using h2
  have h3' : tmps[3]?.getD undef = .int .i64 z := by simpa using h3
  refine bodyPost_ret (v := .tuple #[s.val, .int .i64 z]) ?_ rfl hq
  simp [results, Tryz.results61, asAddr, h2', h3', hl, Sup.val]

set_option maxRecDepth 100000 in
set_option maxHeartbeats 4000000 in
theorem cload_any {O : Nat → Prop} {w : World} {p : Nat} {st : Sd} (h : CDev O w p st) (hO : ∀ i, O i → i < w.heap.size) (hc : st.C.length ≤ 1099511627776) :
    Calls Tryz.prog 61 #[.pointer (some ⟨p, 0, none⟩)] w fun e w' => e = .returned (.tuple #[st.load.1.val, .int .i64 st.load.2]) ∧ Below w.heap.size w w' := by
  have k0 : Ob ((w.alloc (.cells #[.int .u64 0, .int .u32 0, .int .u32 0, .int .u32 0] 119)).alloc (.cells #[.int .u64 0, .int .u32 0, .int .u32 0, .int .u32 0] 119)) w.heap.size 119 Sup.none.cells := (Ob.new w Sup.none.cells 119).alloc _
  have k1 : Ob ((w.alloc (.cells #[.int .u64 0, .int .u32 0, .int .u32 0, .int .u32 0] 119)).alloc (.cells #[.int .u64 0, .int .u32 0, .int .u32 0, .int .u32 0] 119)) (w.heap.size + 1) 119 (best st 0).cells := by
    have := Ob.new (w.alloc (.cells #[.int .u64 0, .int .u32 0, .int .u32 0, .int .u32 0] 119)) Sup.none.cells 119
    rw [World.size_alloc] at this
    exact this
  have b0 : Below w.heap.size w ((w.alloc (.cells #[.int .u64 0, .int .u32 0, .int .u32 0, .int .u32 0] 119)).alloc (.cells #[.int .u64 0, .int .u32 0, .int .u32 0, .int .u32 0] 119)) := ((Below.refl _ w).alloc (Nat.le_refl _) _).alloc (by simp) _
  have d0 : CDev O ((w.alloc (.cells #[.int .u64 0, .int .u32 0, .int .u32 0, .int .u32 0] 119)).alloc (.cells #[.int .u64 0, .int .u32 0, .int .u32 0, .int .u32 0] 119)) p st := h.onl (F := fun _ => False) (((Onl.refl _ w).alloc _).alloc _) (fun _ _ q => q)
  have hba := fun k : Int => told_byt h.ok k
  have HK0 := hide k0
  have HK1 := hide k1
  have HB0 := hide b0
  have HD0 := hide d0
  have HBA := hide hba
  have HO := hide hO
  clear k0 k1 b0 d0 h hba hO
  go_enter Tryz.func61, Tryz.ntmps61
  go_wp2
  go_loopw [10] (fun i wr => ∃ k : Nat, k ≤ 2 ∧ i = .int .i64 k ∧ Hid (∀ j : Nat, j < k → (st.told j).2 = 0) ∧ Hid (Ob wr w.heap.size 119 Sup.none.cells) ∧ Hid (Ob wr (w.heap.size + 1) 119 (best st k).cells) ∧ Hid (CDev O wr p st) ∧ Hid (Below w.heap.size w wr)) (fun i _ => (2 - intOf i).toNat)
  case atStart => exact ⟨0, by omega, rfl, (fun j hj => by omega), HK0, HK1, HD0, HB0⟩
  case round =>
    obtain ⟨k, hk, rfl, hT, hK0, hK1, hD, hB⟩ := hrel
    by_cases hlt : k < 2
    · have HC := hide (cread_any hD.out hc k)
      go_wp2_with fail
      refine HC.out.mono ?_
      rintro e w1 ⟨v1, rfl, t1, b1⟩
      have k0 := hK0.out.old b1
      have k1 := hK1.out.old b1
      have B1 := hB.out.trans (b1.mono hB.out.size)
      have d1 := hD.out.onl (F := fun _ => False) (Onl.ofBelow b1) (fun _ _ q => q)
      obtain ⟨a1, c1, hv1⟩ : ∃ a' c', v1 = .slice a' (st.told k).1.length c' ∧ (st.told k).1.length ≤ c' := by
        rcases t1.2 with ⟨h, hz⟩ | ⟨g, c, cur, h, _, _, hn, _⟩
        · exact ⟨none, 0, by rw [hz]; exact h, by omega⟩
        · exact ⟨_, c, h, hn⟩
      obtain ⟨rfl, hc1⟩ := hv1
      obtain ⟨r1, _, _⟩ := Rd.own t1
      have HK01 := hide k0
      have HK11 := hide k1
      have HB1 := hide B1
      have HD1 := hide d1
      have HR1 := hide r1
      have x0 := k0.cell 0
      have x1 := k0.cell 1
      have x2 := k0.cell 2
      have x3 := k0.cell 3
      have f0 := k0.frozen 0
      have f1 := k0.frozen 1
      have f2 := k0.frozen 2
      have f3 := k0.frozen 3
      unfold Sup.cells at x0 x1 x2 x3
      simp only [List.getElem?_cons_zero, List.getElem?_cons_succ] at x0 x1 x2 x3
      clear k0 k1 B1 d1 r1 t1 b1 hK0 hK1 hB hD HC
      by_cases hea : (st.told k).2 = 0
      · rw [hea]
        have HEA : Hid (∀ j : Nat, j < k + 1 → (st.told j).2 = 0) := fun j hj => by
          rcases Nat.lt_or_ge j k with h | h
          · exact hT.out j h
          · rw [show j = k by omega]; exact hea
        have HE : Hid (best st (k + 1) = if isSup (st.told k).1 = true ∧ (best st k).e < (supOf (st.told k).1).e then supOf (st.told k).1 else best st k) := rfl
        have HBA1 := hide (HBA.out k)
        clear hea
        generalize (st.told k).1 = la at *
        go_wp2_with fail
        refine (sup_any a1 c1 la HR1.out HBA1.out hc1).mono ?_
        rintro e w3 ⟨rfl, b3⟩
        have hv : (supOf la).val = .agg #[.int .u64 (supOf la).e, .int .u32 (supOf la).st, .int .u32 (supOf la).pg, .int .u32 (supOf la).sz] := rfl
        rw [hv]
        clear hv
        generalize hia : isSup la = ia at *
        generalize hsa : supOf la = sa at *
        have BA := (Below.refl w3.heap.size w3).alloc (Nat.le_refl _) (.cells #[.int .u64 sa.e, .int .u32 sa.st, .int .u32 sa.pg, .int .u32 sa.sz] 119)
        have ka : Ob (w3.alloc (.cells #[.int .u64 sa.e, .int .u32 sa.st, .int .u32 sa.pg, .int .u32 sa.sz] 119)) w3.heap.size 119 sa.cells := Ob.new w3 sa.cells 119
        have k0 := (HK01.out.old b3).old BA
        have k1 := (HK11.out.old b3).old BA
        have B1 := (HB1.out.trans (b3.mono HB1.out.size))
        have B2 : Below w.heap.size w (w3.alloc (.cells #[.int .u64 sa.e, .int .u32 sa.st, .int .u32 sa.pg, .int .u32 sa.sz] 119)) := B1.alloc B1.size _
        have d1 := (HD1.out.onl (F := fun _ => False) (Onl.ofBelow b3) (fun _ _ q => q)).onl (F := fun _ => False) (Onl.ofBelow BA) (fun _ _ q => q)
        clear b3 BA B1 hia hsa
        generalize hW4 : w3.alloc (.cells #[.int .u64 sa.e, .int .u32 sa.st, .int .u32 sa.pg, .int .u32 sa.sz] 119) = W4 at ka k0 k1 B2 d1
        have a0 := ka.cell 0
        have a1 := ka.cell 1
        have a2 := ka.cell 2
        have a3 := ka.cell 3
        have y0 := k1.cell 0
        have y1 := k1.cell 1
        have y2 := k1.cell 2
        have y3 := k1.cell 3
        have g0 := k1.frozen 0
        have g1 := k1.frozen 1
        have g2 := k1.frozen 2
        have g3 := k1.frozen 3
        have HK0 := hide k0
        have HK1 := hide k1
        have HB2 := hide B2
        have HD2 := hide d1
        unfold Sup.cells at a0 a1 a2 a3 y0 y1 y2 y3
        simp only [List.getElem?_cons_zero, List.getElem?_cons_succ] at a0 a1 a2 a3 y0 y1 y2 y3
        clear ka k0 k1 B2 d1
        generalize best st k = sk at *
        by_cases hb : ia = true ∧ sk.e < sa.e
        · obtain ⟨rfl, hlt2⟩ := hb
          have hd : decide ((sa.e : Int) > (sk.e : Int)) = true := by simpa using hlt2
          have HE2 : Hid (best st (k + 1) = sa) := by
            show _ = _
            rw [HE.out, if_pos ⟨rfl, hlt2⟩]
          go_wp2
          go_roundw
          case rel =>
            refine ⟨k + 1, hlt, by simp, HEA, ?_, ?_, ?_, ?_⟩
            · exact (((HK0.out.set_other (by omega) _).set_other (by omega) _).set_other (by omega) _).set_other (by omega) _
            · rw [HE2.out]; exact ob_four HK1.out rfl sa
            · have hn : ∀ i, O i → ¬ i = w.heap.size + 1 := fun i hi => by have := HO.out i hi; omega
              exact HD2.out.onl (F := fun i => i = w.heap.size + 1) (((((Onl.refl (fun i => i = w.heap.size + 1) W4).set (p := w.heap.size + 1) (.inl rfl) _).set (p := w.heap.size + 1) (.inl rfl) _).set (p := w.heap.size + 1) (.inl rfl) _).set (p := w.heap.size + 1) (.inl rfl) _) hn
            · exact (((HB2.out.setCell (p := ⟨w.heap.size + 1, 0, none⟩) (by simp) _).setCell (p := ⟨w.heap.size + 1, 1, none⟩) (by simp) _).setCell (p := ⟨w.heap.size + 1, 2, none⟩) (by simp) _).setCell (p := ⟨w.heap.size + 1, 3, none⟩) (by simp) _
          case measure => simp [intOf]; omega
        · have HE2 : Hid (best st (k + 1) = sk) := by
            show _ = _
            rw [HE.out, if_neg hb]
          have hd : ia = false ∨ ia = true := by cases ia <;> simp
          rcases hd with rfl | rfl
          · clear hb
            go_wp2
            go_roundw
            case rel => exact ⟨k + 1, hlt, by simp, HEA, HK0, by rw [HE2.out]; exact HK1, HD2, HB2⟩
            case measure => simp [intOf]; omega
          · have hlt2 : ¬ sk.e < sa.e := fun h => hb ⟨rfl, h⟩
            have hd : decide ((sa.e : Int) > (sk.e : Int)) = false := by simpa using hlt2
            clear hb
            go_wp2
            go_roundw
            case rel => exact ⟨k + 1, hlt, by simp, HEA, HK0, by rw [HE2.out]; exact HK1, HD2, HB2⟩
            case measure => simp [intOf]; omega
      · have hna : ((st.told k).2 != 0) = true := by simpa using hea
        have HLD := hide (load_err hlt hT.out hea)
        clear hea
        generalize (st.told k).2 = e1 at *
        go_wp2
        exact fin_cload (s := Sup.none) (ob_four HK01.out rfl Sup.none) rfl rfl ⟨by rw [HLD.out], below_four HB1.out Sup.none⟩
    · have ek : k = 2 := by omega
      subst ek
      have x0 := hK0.out.cell 0
      have x1 := hK0.out.cell 1
      have x2 := hK0.out.cell 2
      have x3 := hK0.out.cell 3
      have y0 := hK1.out.cell 0
      have y1 := hK1.out.cell 1
      have y2 := hK1.out.cell 2
      have y3 := hK1.out.cell 3
      have f0 := hK0.out.frozen 0
      have f1 := hK0.out.frozen 1
      have f2 := hK0.out.frozen 2
      have f3 := hK0.out.frozen 3
      unfold Sup.cells at x0 x1 x2 x3 y0 y1 y2 y3
      simp only [List.getElem?_cons_zero, List.getElem?_cons_succ] at x0 x1 x2 x3 y0 y1 y2 y3
      have HL := hide (load_best (hT.out 0 (by omega)) (hT.out 1 (by omega)))
      generalize best st 2 = s at *
      by_cases hz : s.e = 0
      · have hzb : ((s.e : Int) == 0) = true := by simp [hz]
        have HZ := hide hz
        clear hz
        go_wp2
        exact fin_cload (s := Sup.none) (ob_four hK0.out rfl Sup.none) rfl rfl ⟨by rw [HL.out, if_pos HZ.out], below_four hB.out Sup.none⟩
      · have hzb : ((s.e : Int) == 0) = false := by simp; omega
        have HZ := hide hz
        clear hz
        go_wp2
        exact fin_cload (s := s) (ob_four hK0.out rfl s) rfl rfl ⟨by rw [HL.out, if_neg HZ.out], below_four hB.out s⟩
end Go.Proofs.YtegadgncggbeoaaGreat
