/- What the document's Load of a super does, over the translation. -/
import Derived.Test.YtdpbkmbegjcgjaaRSo
import Derived.Test.YtdpbkmbegjcgjaaRLs
namespace Go.Proofs.Ytdpbkmbegjcgjaa
open Go.RowKit Apo

theorem fin_load {W : World} {g : Nat} {s : Sup} {z : Int} {tmps : Array Value} {Q : Ending → World → Prop} (k : Ob W g 25 s.cells) (h2 : tmps.getD 2 undef = .pointer (some ⟨g, 0, none⟩)) (h3 : tmps.getD 3 undef = .int .i64 z) (hq : Q (.returned (.tuple #[s.val, .int .i64 z])) W) :
    bodyPost Try.prog Try.f19 Q Exit.ret { tmps := tmps, defers := [] } W := by
  have hl := run_loadVar_row (P := Try.prog) W g 25 25 s.cells.toArray (0, 0) _ k Try.underlying25 rfl (by rw [size_sup]; rfl)
  have h2' : tmps[2]?.getD undef = .pointer (some ⟨g, 0, none⟩) := by simpa using h2
  have h3' : tmps[3]?.getD undef = .int .i64 z := by simpa using h3
  refine bodyPost_ret (v := .tuple #[s.val, .int .i64 z]) ?_ rfl hq
  simp [results, Try.results19, asAddr, h2', h3', hl, Sup.val]
theorem ob_four {W : World} {g : Nat} {t : TypeId} {cs : List Value} (k : Ob W g t cs) (hl : cs.length = 4) (s : Sup) : Ob ((((W.setCell ⟨g, 0, none⟩ (.int .u64 s.e)).setCell ⟨g, 1, none⟩ (.int .u32 s.st)).setCell ⟨g, 2, none⟩ (.int .u32 s.pg)).setCell ⟨g, 3, none⟩ (.int .u32 s.sz)) g t s.cells := by
  have h := (((k.set 0 (.int .u64 s.e)).set 1 (.int .u32 s.st)).set 2 (.int .u32 s.pg)).set 3 (.int .u32 s.sz)
  match cs, hl with
  | [a, b, c, d], _ => exact h
theorem below_four {W w : World} {g : Nat} (b : Below g w W) (s : Sup) : Below g w ((((W.setCell ⟨g, 0, none⟩ (.int .u64 s.e)).setCell ⟨g, 1, none⟩ (.int .u32 s.st)).setCell ⟨g, 2, none⟩ (.int .u32 s.pg)).setCell ⟨g, 3, none⟩ (.int .u32 s.sz)) :=
  (((b.setCell (p := ⟨g, 0, none⟩) (Nat.le_refl _) _).setCell (p := ⟨g, 1, none⟩) (Nat.le_refl _) _).setCell (p := ⟨g, 2, none⟩) (Nat.le_refl _) _).setCell (p := ⟨g, 3, none⟩) (Nat.le_refl _) _

set_option maxHeartbeats 4000000 in
theorem rload_any {O : Nat → Prop} {w : World} {p : Nat} {st : Sd} (h : RDev O w p st) (hc : st.C.length ≤ 1099511627776) :
    Calls Try.prog 19 #[.pointer (some ⟨p, 0, none⟩)] w fun e w' => e = .returned (.tuple #[st.load.1.val, .int .i64 st.load.2]) ∧ Below w.heap.size w w' := by
  have k0 : Ob (w.alloc (.cells #[.int .u64 0, .int .u32 0, .int .u32 0, .int .u32 0] 25)) w.heap.size 25 [.int .u64 0, .int .u32 0, .int .u32 0, .int .u32 0] := Ob.new w [.int .u64 0, .int .u32 0, .int .u32 0, .int .u32 0] 25
  have B0 : Below w.heap.size w (w.alloc (.cells #[.int .u64 0, .int .u32 0, .int .u32 0, .int .u32 0] 25)) := (Below.refl _ w).alloc (Nat.le_refl _) _
  have d0 : RDev O (w.alloc (.cells #[.int .u64 0, .int .u32 0, .int .u32 0, .int .u32 0] 25)) p st := h.onl (F := fun _ => False) ((Onl.refl _ w).alloc _) (fun _ _ q => q)
  have hba := told_byt h.ok 0
  have hbb := told_byt h.ok 1
  generalize hW0 : w.alloc (.cells #[.int .u64 0, .int .u32 0, .int .u32 0, .int .u32 0] 25) = W0 at k0 B0 d0
  have HK0 := hide k0
  have HB0 := hide B0
  have HD0 := hide d0
  have HBA := hide hba
  have HBB := hide hbb
  clear k0 B0 d0 h hba hbb
  go_enter Try.func19, Try.ntmps19
  go_wp2_with fail
  refine (rread_any HD0.out hc 0).mono ?_
  rintro e w1 ⟨v1, rfl, t1, b1⟩
  have k1 := HK0.out.old b1
  have B1 := HB0.out.trans (b1.mono HB0.out.size)
  have d1 := HD0.out.onl (F := fun _ => False) (Onl.ofBelow b1) (fun _ _ q => q)
  obtain ⟨a1, c1, hv1⟩ : ∃ a' c', v1 = .slice a' (st.told 0).1.length c' ∧ (st.told 0).1.length ≤ c' := by
    rcases t1.2 with ⟨h, hz⟩ | ⟨g, c, cur, h, _, _, hn, _⟩
    · exact ⟨none, 0, by rw [hz]; exact h, by omega⟩
    · exact ⟨_, c, h, hn⟩
  obtain ⟨rfl, hc1⟩ := hv1
  obtain ⟨r1, _, _⟩ := Rd.own t1
  have x0 := k1.cell 0
  have x1 := k1.cell 1
  have x2 := k1.cell 2
  have x3 := k1.cell 3
  have f0 := k1.frozen 0
  have f1 := k1.frozen 1
  have f2 := k1.frozen 2
  have f3 := k1.frozen 3
  simp only [List.getElem?_cons_zero, List.getElem?_cons_succ] at x0 x1 x2 x3
  have HK1 := hide k1
  have HB1 := hide B1
  have HD1 := hide d1
  have HR1 := hide r1
  clear k1 B1 d1 r1 t1 b1
  by_cases hea : (st.told 0).2 = 0
  · rw [hea]
    have HEA := hide hea
    clear hea
    go_wp2_with fail
    refine (rread_any HD1.out hc 1).mono ?_
    rintro e w2 ⟨v2, rfl, t2, b2⟩
    have k2 := HK1.out.old b2
    have B2 := HB1.out.trans (b2.mono HB1.out.size)
    obtain ⟨a2, c2, hv2⟩ : ∃ a' c', v2 = .slice a' (st.told 1).1.length c' ∧ (st.told 1).1.length ≤ c' := by
      rcases t2.2 with ⟨h, hz⟩ | ⟨g, c, cur, h, _, _, hn, _⟩
      · exact ⟨none, 0, by rw [hz]; exact h, by omega⟩
      · exact ⟨_, c, h, hn⟩
    obtain ⟨rfl, hc2⟩ := hv2
    obtain ⟨r2, _, _⟩ := Rd.own t2
    have r1 := HR1.out.below b2
    have y0 := k2.cell 0
    have y1 := k2.cell 1
    have y2 := k2.cell 2
    have y3 := k2.cell 3
    have g0 := k2.frozen 0
    have g1 := k2.frozen 1
    have g2 := k2.frozen 2
    have g3 := k2.frozen 3
    simp only [List.getElem?_cons_zero, List.getElem?_cons_succ] at y0 y1 y2 y3
    have HK2 := hide k2
    have HB2 := hide B2
    have HR2 := hide r2
    have HR12 := hide r1
    clear k2 B2 r2 t2 b2 r1
    by_cases heb : (st.told 1).2 = 0
    · rw [heb]
      have HLD : Hid (st.load = pickSup (st.told 0).1 (st.told 1).1) := by
        show st.load = _
        unfold Sd.load
        rw [if_pos HEA.out, if_pos heb]
      clear heb
      generalize (st.told 0).1 = la at *
      generalize (st.told 1).1 = lb at *
      go_wp2_with fail
      refine (rsup_any a1 c1 la HR12.out HBA.out hc1).mono ?_
      rintro e w3 ⟨rfl, b3⟩
      have k3 := HK2.out.old b3
      have B3 := HB2.out.trans (b3.mono HB2.out.size)
      have HR3 := hide (HR2.out.below b3)
      have HK3 := hide k3
      have HB3 := hide B3
      clear k3 B3 b3
      have hv : (supOf la).val = .agg #[.int .u64 (supOf la).e, .int .u32 (supOf la).st, .int .u32 (supOf la).pg, .int .u32 (supOf la).sz] := rfl
      rw [hv]
      clear hv
      generalize hia : isSup la = ia
      generalize hsa : supOf la = sa
      go_wp2_with fail
      have HR4 := hide (HR3.out.below ((Below.refl w3.heap.size w3).alloc (Nat.le_refl _) (.cells #[.int .u64 sa.e, .int .u32 sa.st, .int .u32 sa.pg, .int .u32 sa.sz] 25)))
      have ka : Ob (w3.alloc (.cells #[.int .u64 sa.e, .int .u32 sa.st, .int .u32 sa.pg, .int .u32 sa.sz] 25)) w3.heap.size 25 [.int .u64 sa.e, .int .u32 sa.st, .int .u32 sa.pg, .int .u32 sa.sz] := Ob.new w3 [.int .u64 sa.e, .int .u32 sa.st, .int .u32 sa.pg, .int .u32 sa.sz] 25
      have k4 := HK3.out.old ((Below.refl w3.heap.size w3).alloc (Nat.le_refl _) (.cells #[.int .u64 sa.e, .int .u32 sa.st, .int .u32 sa.pg, .int .u32 sa.sz] 25))
      have B4 : Below w.heap.size w (w3.alloc (.cells #[.int .u64 sa.e, .int .u32 sa.st, .int .u32 sa.pg, .int .u32 sa.sz] 25)) := HB3.out.alloc HB3.out.size _
      generalize hW4 : w3.alloc (.cells #[.int .u64 sa.e, .int .u32 sa.st, .int .u32 sa.pg, .int .u32 sa.sz] 25) = W4 at HR4 ka k4 B4
      refine (rsup_any a2 c2 lb HR4.out HBB.out hc2).mono ?_
      rintro e w5 ⟨rfl, b5⟩
      have ka5 := ka.old b5
      have k5 := k4.old b5
      have B5 := B4.trans (b5.mono B4.size)
      have hv : (supOf lb).val = .agg #[.int .u64 (supOf lb).e, .int .u32 (supOf lb).st, .int .u32 (supOf lb).pg, .int .u32 (supOf lb).sz] := rfl
      rw [hv]
      clear hv
      generalize hib : isSup lb = ib
      generalize hsb : supOf lb = sb
      have ka6 := ka5.old ((Below.refl w5.heap.size w5).alloc (Nat.le_refl _) (.cells #[.int .u64 sb.e, .int .u32 sb.st, .int .u32 sb.pg, .int .u32 sb.sz] 25))
      have k6 := k5.old ((Below.refl w5.heap.size w5).alloc (Nat.le_refl _) (.cells #[.int .u64 sb.e, .int .u32 sb.st, .int .u32 sb.pg, .int .u32 sb.sz] 25))
      have B6 : Below w.heap.size w (w5.alloc (.cells #[.int .u64 sb.e, .int .u32 sb.st, .int .u32 sb.pg, .int .u32 sb.sz] 25)) := B5.alloc B5.size _
      have kb6 : Ob (w5.alloc (.cells #[.int .u64 sb.e, .int .u32 sb.st, .int .u32 sb.pg, .int .u32 sb.sz] 25)) w5.heap.size 25 [.int .u64 sb.e, .int .u32 sb.st, .int .u32 sb.pg, .int .u32 sb.sz] := Ob.new w5 [.int .u64 sb.e, .int .u32 sb.st, .int .u32 sb.pg, .int .u32 sb.sz] 25
      clear ka k4 B4 ka5 k5 B5 b5 hW4
      generalize hW6 : w5.alloc (.cells #[.int .u64 sb.e, .int .u32 sb.st, .int .u32 sb.pg, .int .u32 sb.sz] 25) = W6 at ka6 k6 B6 kb6
      have a0 := ka6.cell 0
      have a1 := ka6.cell 1
      have a2 := ka6.cell 2
      have a3 := ka6.cell 3
      have b0 := kb6.cell 0
      have b1 := kb6.cell 1
      have b2 := kb6.cell 2
      have b3 := kb6.cell 3
      have z0 := k6.cell 0
      have z1 := k6.cell 1
      have z2 := k6.cell 2
      have z3 := k6.cell 3
      have v0 := k6.frozen 0
      have v1 := k6.frozen 1
      have v2 := k6.frozen 2
      have v3 := k6.frozen 3
      simp only [List.getElem?_cons_zero, List.getElem?_cons_succ] at a0 a1 a2 a3 b0 b1 b2 b3 z0 z1 z2 z3
      have HK6 := hide k6
      have HKA := hide ka6
      have HKB := hide kb6
      have HB6 := hide B6
      have HLDa : Hid (st.load = if ia = false ∧ ib = false then (Sup.none, 50) else if ia = false ∨ (ib = true ∧ sa.e < sb.e) then (sb, 0) else (sa, 0)) := by
        show st.load = _
        rw [HLD.out]; unfold pickSup; rw [hia, hib, hsa, hsb]
      clear k6 ka6 kb6 B6 HLD hia hib hsa hsb
      cases ia
      · cases ib
        · go_wp2_with fail
          exact fin_load (s := Sup.none) (ob_four HK6.out rfl Sup.none) rfl rfl ⟨by rw [HLDa.out]; simp, below_four HB6.out Sup.none⟩
        · go_wp2_with fail
          exact fin_load (s := sb) (ob_four HK6.out rfl sb) rfl rfl ⟨by rw [HLDa.out]; simp, below_four HB6.out sb⟩
      · cases ib
        · go_wp2_with fail
          exact fin_load (s := sa) (ob_four HK6.out rfl sa) rfl rfl ⟨by rw [HLDa.out]; simp, below_four HB6.out sa⟩
        · by_cases hlt : sa.e < sb.e
          · have hd : decide ((sb.e : Int) > (sa.e : Int)) = true := by simpa using hlt
            go_wp2_with fail
            exact fin_load (s := sb) (ob_four HK6.out rfl sb) rfl rfl ⟨by rw [HLDa.out]; simp [hlt], below_four HB6.out sb⟩
          · have hd : decide ((sb.e : Int) > (sa.e : Int)) = false := by simpa using hlt
            go_wp2_with fail
            exact fin_load (s := sa) (ob_four HK6.out rfl sa) rfl rfl ⟨by rw [HLDa.out]; simp [hlt], below_four HB6.out sa⟩
    · have hnb : ((st.told 1).2 != 0) = true := by simpa using heb
      have HLD : Hid (st.load = (Sup.none, (st.told 1).2)) := by
        show st.load = _
        unfold Sd.load
        rw [if_pos HEA.out, if_neg heb]
      clear heb
      generalize (st.told 1).2 = e2 at *
      go_wp2
      exact fin_load (s := Sup.none) (ob_four HK2.out rfl Sup.none) rfl rfl ⟨by rw [HLD.out], below_four HB2.out Sup.none⟩
  · have hna : ((st.told 0).2 != 0) = true := by simpa using hea
    have HLD : Hid (st.load = (Sup.none, (st.told 0).2)) := by
      show st.load = _
      unfold Sd.load
      rw [if_neg hea]
    clear hea
    generalize (st.told 0).2 = e1 at *
    go_wp2
    exact fin_load (s := Sup.none) (ob_four HK1.out rfl Sup.none) rfl rfl ⟨by rw [HLD.out], below_four HB1.out Sup.none⟩
end Go.Proofs.Ytdpbkmbegjcgjaa
