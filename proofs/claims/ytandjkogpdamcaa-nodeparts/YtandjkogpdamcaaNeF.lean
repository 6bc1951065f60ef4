/- The program's each, over the translation. -/
import Derived.Test.YtandjkogpdamcaaNeE
namespace Go.Proofs.Ytandjkogpdamcaa
open Go.RowKit Apo
attribute [local go_sem ↓] Apo.app_exec
set_option maxRecDepth 100000 in
set_option maxHeartbeats 2000000 in
theorem each_En (p g : Nat) (st : St) (w : World) (h : Rr w p 88 g st) (hg : g < w.heap.size) (hl : (st.getD []).length ≤ 1000000) :
    Calls Try.prog 53 #[.agg #[.pointer (some ⟨p, 0, none⟩)], .func (.func 54) #[] #[]] w fun e w' => ∃ v, e = .returned v ∧ Row (fun i => w.heap.size ≤ i) w' 55 2 v (eachOf enS st).1.length (ecells (eachOf enS st).1) ∧ Rr w' p 88 g (eachOf enS st).2 ∧ w.grownBy w' (some p) := by
  have hp := h.lt
  obtain ⟨W0, hW0⟩ : ∃ W0, W0 = w.alloc (.cells #[.pointer (some ⟨p, 0, none⟩)] 70) := ⟨_, rfl⟩
  have kb : Ob W0 w.heap.size 70 [.pointer (some ⟨p, 0, none⟩)] := by rw [hW0]; exact Ob.new w [.pointer (some ⟨p, 0, none⟩)] 70
  have b0 : Below w.heap.size w W0 := by rw [hW0]; exact (Below.refl _ w).alloc (Nat.le_refl _) _
  have s0 : W0.heap.size = w.heap.size + 1 := by rw [hW0]; simp
  have r0 := h.old b0
  obtain ⟨L, hL⟩ : ∃ L, L = (st.getD []).length := ⟨_, rfl⟩
  have HCL := hide (rdleft_any p g st W0.drew (r0.old (Below.refl _ _).drew))
  have HCN := hide (rdnum_any p g st (mostOf st) W0.drew (r0.old (Below.refl _ _).drew))
  have hmo : mostOf st = ((L / 3 : Nat) : Int) := by unfold mostOf; rw [← hL]
  have hbd := rnum_bd st (most := mostOf st) (by rw [hmo]; omega)
  rw [← hL] at HCL hl
  unfold eachOf
  obtain ⟨M, hM⟩ : ∃ M, M = mostOf st := ⟨_, rfl⟩
  rw [← hM] at HCN hbd hmo ⊢
  obtain ⟨CT, hCT⟩ : ∃ CT : Nat, (CT : Int) = (rnum st M).1 := ⟨(rnum st M).1.toNat, by omega⟩
  have hCT2 : (rnum st M).1.toNat = CT := by omega
  obtain ⟨st2, hst2⟩ : ∃ st2, st2 = (rnum st M).2 := ⟨_, rfl⟩
  rw [hCT2, ← hst2]
  rw [← hCT] at HCN hbd
  rw [← hst2] at HCN
  have hc0 := kb.cell 0
  simp only [List.getElem?_cons_zero] at hc0
  have HKB := hide kb
  have HB0 := hide b0
  have hm1 : IntKind.u64.wrap ((L : Int) / 3) = M := by rw [IntKind.wrap_u64, hmo]; omega
  have hm2 : IntKind.i64.wrap ((L : Int) / 3) = M := by rw [IntKind.wrap_i64, hmo]; omega
  have hm3 : IntKind.u64.wrap M = M := by rw [IntKind.wrap_u64, hmo]; omega
  have hm6 : IntKind.i64.wrap M = M := by rw [IntKind.wrap_i64, hmo]; omega
  have hm4 : ((L : Int) / 3) = M := by rw [hmo]; omega
  have hm5 : Int.tdiv (L : Int) 3 = M := by rw [Int.tdiv_eq_ediv_of_nonneg (by omega), hmo]; omega
  have HW0 := hide hW0
  have hcw := hc0
  rw [hW0] at hcw HCL HCN
  clear h kb b0 r0 hL hM hCT hCT2 hst2 hmo
  go_enter Try.func53, Try.ntmps53
  go_wp2
  go_region_held3 (fun W' => W'.cell? ⟨w.heap.size, 0, none⟩ = some (.pointer (some ⟨p, 0, none⟩))) (go_keep) (first
    | (go_at_call 67; (with_reducible refine HCL.out.mono ?_); rintro en w1 ⟨rfl, rfl⟩)
    | (go_at_call 52; (with_reducible refine HCN.out.mono ?_); rintro en w2 ⟨rfl, r2, g2⟩; rw [← hW0] at g2; have kb2 := (HKB.out.old (Below.refl _ _).drew).kept g2 (by intro e; have e2 := Option.some.inj e; omega); have k0 := kb2.cell 0; simp only [List.getElem?_cons_zero] at k0; have HR2 := hide r2; have HG2 := hide (grew_trans (grew_below (some p) (HB0.out.drew)) g2); have HK2 := hide kb2; clear r2 g2 kb2))
  go_wp2
  go_loopw [5, 14] (fun v i wr => ∃ (k : Nat) (va : Option Addr) (n vc : Nat), k ≤ CT ∧ i = .int .u64 k ∧ v = .slice va n vc ∧ Hid (Rr wr p 88 g (eachK enS st2 k).2) ∧ Hid (Row (fun i => w.heap.size ≤ i) wr 55 2 (.slice va n vc) (eachK enS st2 k).1.length (ecells (eachK enS st2 k).1)) ∧ Hid (Ob wr w.heap.size 70 [.pointer (some ⟨p, 0, none⟩)]) ∧ Hid (w.grownBy wr (some p))) (fun _ i _ => CT - (intOf i).toNat)
  case atStart => exact ⟨0, none, 0, 0, Nat.zero_le _, rfl, rfl, HR2, hide (Row.nil _ _ _ _), HK2, HG2⟩
  case round =>
    obtain ⟨k, va, n, vc, hk, rfl, rfl, HR, HO, HK, HG⟩ := hrel
    have hkl := eachK_len enS st2 k
    obtain ⟨⟨es, sk⟩, hq⟩ : ∃ q, eachK enS st2 k = q := ⟨_, rfl⟩
    have hq1 : eachK enS st2 (k + 1) = (es ++ [(enS sk).1], (enS sk).2) := by simp only [eachK, hq]
    rw [hq] at HR HO hkl
    simp only at HR HO hkl
    have HQ := hide hq
    have HQ1 := hide hq1
    have hx0 := HK.out.cell 0
    simp only [List.getElem?_cons_zero] at hx0
    clear hq hq1
    by_cases hkc : k < CT
    · have t1 : decide ((k : Int) < (CT : Int)) = true := by simp; omega
      have t2 : decide (k < CT) = true := by simp; omega
      have HC := hide (part_En p g sk wr HR.out (Nat.lt_of_lt_of_le hg HG.out.size))
      obtain ⟨x, hx⟩ : ∃ x, x = (enS sk).1 := ⟨_, rfl⟩
      rw [← hx] at HC HQ1
      obtain ⟨sk2, hsk2⟩ : ∃ x, x = (enS sk).2 := ⟨_, rfl⟩
      rw [← hsk2] at HC HQ1
      obtain ⟨ek, ev⟩ := x
      simp only [enV] at HC
      clear hx hsk2
      go_wp2_with fail
      refine HC.out.mono ?_
      rintro e w1 ⟨rfl, r1, g1⟩
      have o1 : Onl (fun i => i = p) wr w1 := (Onl.refl _ wr).grown g1 (fun j hj => .inl (by cases hj; rfl))
      obtain ⟨c0, c1, hrc⟩ := HR.out.ob
      have ap : (Value.slice va n vc).ownBlock ≠ some p := Row.apartOb HO.out hrc (by decide)
      have row1 := HO.out.onl o1 (fun g hg q => ap (by rw [hg, q]))
      have k1 := HK.out.onl o1 (by omega)
      have row1' : Row (fun g => w.heap.size ≤ g ∧ (Value.slice va n vc).ownBlock = some g) w1 55 2 (.slice va n vc) es.length (ecells es) := ⟨row1.1, fun g hg => ⟨row1.2 g hg, hg⟩⟩
      obtain ⟨v7, w7, RA, r7, o7⟩ := app_En row1' (by omega) ⟨ek, ev⟩
      obtain ⟨va7, c7, hv7, _⟩ := r7.form
      subst hv7
      have k7 := k1.onl o7 (fun q => Row.apartOb row1 k1 (by decide) q.2)
      have rr7 := r1.onl o7 (fun q => by omega) (fun q => by omega)
      have g7 := grew_onl (grew_trans HG.out g1) o7 (fun i q => q.1)
      have hs1 := (grew_trans HG.out g1).size
      obtain ⟨p1, p2, p3⟩ := app_runs RA
      have f1 : Hid (Rr w7 p 88 g (eachK enS st2 (k + 1)).2) := hide (by rw [HQ1.out]; exact rr7)
      have f2 : Hid (Row (fun i => w.heap.size ≤ i) w7 55 2 (.slice va7 (es ++ [(⟨ek, ev⟩ : En)]).length c7) (eachK enS st2 (k + 1)).1.length (ecells (eachK enS st2 (k + 1)).1)) := hide (by
        rw [HQ1.out]
        exact r7.mono (fun i q => by
          rcases q with q | q
          · exact q.1
          · omega))
      have f3 := hide k7
      have f4 := hide g7
      obtain ⟨n7, hn7⟩ : ∃ n7, n7 = (es ++ [(⟨ek, ev⟩ : En)]).length := ⟨_, rfl⟩
      rw [← hn7] at p2 f2
      clear HC r1 g1 o1 row1 row1' k1 RA r7 o7 k7 rr7 g7 hrc ap hn7 HR HO HK HG hx0
      go_wp2
      go_roundw
      case rel => exact ⟨k + 1, va7, n7, c7, by omega, by simp, rfl, f1, f2, f3, f4⟩
      case measure => simp [intOf]; omega
    · obtain rfl : k = CT := by omega
      go_wp2
      go_ret
      exact ⟨_, rfl, by rw [HQ.out]; exact HO.out, by rw [HQ.out]; exact HR.out, HG.out⟩
set_option maxRecDepth 100000 in
set_option maxHeartbeats 2000000 in
theorem each_Ki (p g : Nat) (st : St) (w : World) (h : Rr w p 88 g st) (hg : g < w.heap.size) (hl : (st.getD []).length ≤ 1000000) :
    Calls Try.prog 55 #[.agg #[.pointer (some ⟨p, 0, none⟩)], .func (.func 56) #[] #[]] w fun e w' => ∃ v, e = .returned v ∧ Row (fun i => w.heap.size ≤ i) w' 58 2 v (eachOf kiS st).1.length (kcells (eachOf kiS st).1) ∧ Rr w' p 88 g (eachOf kiS st).2 ∧ w.grownBy w' (some p) := by
  have hp := h.lt
  obtain ⟨W0, hW0⟩ : ∃ W0, W0 = w.alloc (.cells #[.pointer (some ⟨p, 0, none⟩)] 70) := ⟨_, rfl⟩
  have kb : Ob W0 w.heap.size 70 [.pointer (some ⟨p, 0, none⟩)] := by rw [hW0]; exact Ob.new w [.pointer (some ⟨p, 0, none⟩)] 70
  have b0 : Below w.heap.size w W0 := by rw [hW0]; exact (Below.refl _ w).alloc (Nat.le_refl _) _
  have s0 : W0.heap.size = w.heap.size + 1 := by rw [hW0]; simp
  have r0 := h.old b0
  obtain ⟨L, hL⟩ : ∃ L, L = (st.getD []).length := ⟨_, rfl⟩
  have HCL := hide (rdleft_any p g st W0.drew (r0.old (Below.refl _ _).drew))
  have HCN := hide (rdnum_any p g st (mostOf st) W0.drew (r0.old (Below.refl _ _).drew))
  have hmo : mostOf st = ((L / 3 : Nat) : Int) := by unfold mostOf; rw [← hL]
  have hbd := rnum_bd st (most := mostOf st) (by rw [hmo]; omega)
  rw [← hL] at HCL hl
  unfold eachOf
  obtain ⟨M, hM⟩ : ∃ M, M = mostOf st := ⟨_, rfl⟩
  rw [← hM] at HCN hbd hmo ⊢
  obtain ⟨CT, hCT⟩ : ∃ CT : Nat, (CT : Int) = (rnum st M).1 := ⟨(rnum st M).1.toNat, by omega⟩
  have hCT2 : (rnum st M).1.toNat = CT := by omega
  obtain ⟨st2, hst2⟩ : ∃ st2, st2 = (rnum st M).2 := ⟨_, rfl⟩
  rw [hCT2, ← hst2]
  rw [← hCT] at HCN hbd
  rw [← hst2] at HCN
  have hc0 := kb.cell 0
  simp only [List.getElem?_cons_zero] at hc0
  have HKB := hide kb
  have HB0 := hide b0
  have hm1 : IntKind.u64.wrap ((L : Int) / 3) = M := by rw [IntKind.wrap_u64, hmo]; omega
  have hm2 : IntKind.i64.wrap ((L : Int) / 3) = M := by rw [IntKind.wrap_i64, hmo]; omega
  have hm3 : IntKind.u64.wrap M = M := by rw [IntKind.wrap_u64, hmo]; omega
  have hm6 : IntKind.i64.wrap M = M := by rw [IntKind.wrap_i64, hmo]; omega
  have hm4 : ((L : Int) / 3) = M := by rw [hmo]; omega
  have hm5 : Int.tdiv (L : Int) 3 = M := by rw [Int.tdiv_eq_ediv_of_nonneg (by omega), hmo]; omega
  have HW0 := hide hW0
  have hcw := hc0
  rw [hW0] at hcw HCL HCN
  clear h kb b0 r0 hL hM hCT hCT2 hst2 hmo
  go_enter Try.func55, Try.ntmps55
  go_wp2
  go_region_held3 (fun W' => W'.cell? ⟨w.heap.size, 0, none⟩ = some (.pointer (some ⟨p, 0, none⟩))) (go_keep) (first
    | (go_at_call 67; (with_reducible refine HCL.out.mono ?_); rintro en w1 ⟨rfl, rfl⟩)
    | (go_at_call 52; (with_reducible refine HCN.out.mono ?_); rintro en w2 ⟨rfl, r2, g2⟩; rw [← hW0] at g2; have kb2 := (HKB.out.old (Below.refl _ _).drew).kept g2 (by intro e; have e2 := Option.some.inj e; omega); have k0 := kb2.cell 0; simp only [List.getElem?_cons_zero] at k0; have HR2 := hide r2; have HG2 := hide (grew_trans (grew_below (some p) (HB0.out.drew)) g2); have HK2 := hide kb2; clear r2 g2 kb2))
  go_wp2
  go_loopw [5, 14] (fun v i wr => ∃ (k : Nat) (va : Option Addr) (n vc : Nat), k ≤ CT ∧ i = .int .u64 k ∧ v = .slice va n vc ∧ Hid (Rr wr p 88 g (eachK kiS st2 k).2) ∧ Hid (Row (fun i => w.heap.size ≤ i) wr 58 2 (.slice va n vc) (eachK kiS st2 k).1.length (kcells (eachK kiS st2 k).1)) ∧ Hid (Ob wr w.heap.size 70 [.pointer (some ⟨p, 0, none⟩)]) ∧ Hid (w.grownBy wr (some p))) (fun _ i _ => CT - (intOf i).toNat)
  case atStart => exact ⟨0, none, 0, 0, Nat.zero_le _, rfl, rfl, HR2, hide (Row.nil _ _ _ _), HK2, HG2⟩
  case round =>
    obtain ⟨k, va, n, vc, hk, rfl, rfl, HR, HO, HK, HG⟩ := hrel
    have hkl := eachK_len kiS st2 k
    obtain ⟨⟨es, sk⟩, hq⟩ : ∃ q, eachK kiS st2 k = q := ⟨_, rfl⟩
    have hq1 : eachK kiS st2 (k + 1) = (es ++ [(kiS sk).1], (kiS sk).2) := by simp only [eachK, hq]
    rw [hq] at HR HO hkl
    simp only at HR HO hkl
    have HQ := hide hq
    have HQ1 := hide hq1
    have hx0 := HK.out.cell 0
    simp only [List.getElem?_cons_zero] at hx0
    clear hq hq1
    by_cases hkc : k < CT
    · have t1 : decide ((k : Int) < (CT : Int)) = true := by simp; omega
      have t2 : decide (k < CT) = true := by simp; omega
      have HC := hide (part_Ki p g sk wr HR.out (Nat.lt_of_lt_of_le hg HG.out.size))
      obtain ⟨x, hx⟩ : ∃ x, x = (kiS sk).1 := ⟨_, rfl⟩
      rw [← hx] at HC HQ1
      obtain ⟨sk2, hsk2⟩ : ∃ x, x = (kiS sk).2 := ⟨_, rfl⟩
      rw [← hsk2] at HC HQ1
      obtain ⟨ek, ev⟩ := x
      simp only [kiV] at HC
      clear hx hsk2
      go_wp2_with fail
      refine HC.out.mono ?_
      rintro e w1 ⟨rfl, r1, g1⟩
      have o1 : Onl (fun i => i = p) wr w1 := (Onl.refl _ wr).grown g1 (fun j hj => .inl (by cases hj; rfl))
      obtain ⟨c0, c1, hrc⟩ := HR.out.ob
      have ap : (Value.slice va n vc).ownBlock ≠ some p := Row.apartOb HO.out hrc (by decide)
      have row1 := HO.out.onl o1 (fun g hg q => ap (by rw [hg, q]))
      have k1 := HK.out.onl o1 (by omega)
      have row1' : Row (fun g => w.heap.size ≤ g ∧ (Value.slice va n vc).ownBlock = some g) w1 58 2 (.slice va n vc) es.length (kcells es) := ⟨row1.1, fun g hg => ⟨row1.2 g hg, hg⟩⟩
      obtain ⟨v7, w7, RA, r7, o7⟩ := app_Ki row1' (by omega) ⟨ek, ev⟩
      obtain ⟨va7, c7, hv7, _⟩ := r7.form
      subst hv7
      have k7 := k1.onl o7 (fun q => Row.apartOb row1 k1 (by decide) q.2)
      have rr7 := r1.onl o7 (fun q => by omega) (fun q => by omega)
      have g7 := grew_onl (grew_trans HG.out g1) o7 (fun i q => q.1)
      have hs1 := (grew_trans HG.out g1).size
      obtain ⟨p1, p2, p3⟩ := app_runs RA
      have f1 : Hid (Rr w7 p 88 g (eachK kiS st2 (k + 1)).2) := hide (by rw [HQ1.out]; exact rr7)
      have f2 : Hid (Row (fun i => w.heap.size ≤ i) w7 58 2 (.slice va7 (es ++ [(⟨ek, ev⟩ : Ki)]).length c7) (eachK kiS st2 (k + 1)).1.length (kcells (eachK kiS st2 (k + 1)).1)) := hide (by
        rw [HQ1.out]
        exact r7.mono (fun i q => by
          rcases q with q | q
          · exact q.1
          · omega))
      have f3 := hide k7
      have f4 := hide g7
      obtain ⟨n7, hn7⟩ : ∃ n7, n7 = (es ++ [(⟨ek, ev⟩ : Ki)]).length := ⟨_, rfl⟩
      rw [← hn7] at p2 f2
      clear HC r1 g1 o1 row1 row1' k1 RA r7 o7 k7 rr7 g7 hrc ap hn7 HR HO HK HG hx0
      go_wp2
      go_roundw
      case rel => exact ⟨k + 1, va7, n7, c7, by omega, by simp, rfl, f1, f2, f3, f4⟩
      case measure => simp [intOf]; omega
    · obtain rfl : k = CT := by omega
      go_wp2
      go_ret
      exact ⟨_, rfl, by rw [HQ.out]; exact HO.out, by rw [HQ.out]; exact HR.out, HG.out⟩
end Go.Proofs.Ytandjkogpdamcaa
