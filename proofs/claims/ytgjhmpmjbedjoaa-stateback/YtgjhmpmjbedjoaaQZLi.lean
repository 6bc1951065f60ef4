/- state.list at refs and at Mades. Over the translation. (Written by tools/genzli.py.) -/
import Derived.Test.YtgjhmpmjbedjoaaQZRd
namespace Go.Proofs.Ytgjhmpmjbedjoaa
open Go.RowKit Apo
attribute [local go_sem ↓] Apo.app_exec
set_option maxRecDepth 100000 in
set_option maxHeartbeats 4000000 in
theorem listref_p (p g : Nat) (st2 : St) (CT : Nat) (w : World) (h : Rr w p 99 g st2) (hg : g < w.heap.size) (hbd : CT ≤ 1000) :
    Calls Try.prog 60 #[.int .u64 CT, .func (.func 62) #[.agg #[.pointer (some ⟨p, 0, none⟩)]] #[]] w fun e w' => ∃ v, e = .returned v ∧ Row (fun i => w.heap.size ≤ i) w' 57 3 v (eachK rfS st2 CT).1.length (gcells cRf (eachK rfS st2 CT).1) ∧ Rr w' p 99 g (eachK rfS st2 CT).2 ∧ w.grownBy w' (some p) := by
  have hp := h.lt
  have HR2 := hide h
  have HG2 : Hid (w.grownBy w (some p)) := hide (grew_below (some p) (Below.refl _ w))
  clear h
  go_enter Try.func60, Try.ntmps60
  go_wp2
  go_loopw [5, 7] (fun v i wr => ∃ (k : Nat) (va : Option Addr) (n vc : Nat), k ≤ CT ∧ i = .int .u64 k ∧ v = .slice va n vc ∧ Hid (Rr wr p 99 g (eachK rfS st2 k).2) ∧ Hid (Row (fun i => w.heap.size ≤ i) wr 57 3 (.slice va n vc) (eachK rfS st2 k).1.length (gcells cRf (eachK rfS st2 k).1)) ∧ Hid (w.grownBy wr (some p))) (fun _ i _ => CT - (intOf i).toNat)
  case atStart => exact ⟨0, none, 0, 0, Nat.zero_le _, rfl, rfl, HR2, hide (Row.nil _ _ _ _), HG2⟩
  case round =>
    clear HR2 HG2
    obtain ⟨k, va, n, vc, hk, rfl, rfl, HR, HO, HG⟩ := hrel
    have hkl := eachK_len rfS st2 k
    obtain ⟨⟨es, sk⟩, hq⟩ : ∃ q, eachK rfS st2 k = q := ⟨_, rfl⟩
    have hq1 : eachK rfS st2 (k + 1) = (es ++ [(rfS sk).1], (rfS sk).2) := by simp only [eachK, hq]
    rw [hq] at HR HO hkl
    simp only at HR HO hkl
    have HQ := hide hq
    have HQ1 := hide hq1
    clear hq hq1
    by_cases hkc : k < CT
    · have t1 : decide ((k : Int) < (CT : Int)) = true := by simp; omega
      have t2 : decide (k < CT) = true := by simp; omega
      have HC := hide (ref_p p g sk wr HR.out (Nat.lt_of_lt_of_le hg HG.out.size))
      obtain ⟨x, hx⟩ : ∃ x, x = (rfS sk).1 := ⟨_, rfl⟩
      rw [← hx] at HC HQ1
      obtain ⟨sk2, hsk2⟩ : ∃ x, x = (rfS sk).2 := ⟨_, rfl⟩
      rw [← hsk2] at HC HQ1
      clear hx hsk2
      go_wp2_with fail
      refine HC.out.mono ?_
      rintro e w1 ⟨rfl, r1, g1⟩
      have o1 : Onl (fun i => i = p) wr w1 := (Onl.refl _ wr).grown g1 (fun j hj => .inl (by cases hj; rfl))
      obtain ⟨c0, c1, hrc⟩ := HR.out.ob
      have ap : (Value.slice va n vc).ownBlock ≠ some p := Row.apartOb HO.out hrc (by decide)
      have row1 := HO.out.onl o1 (fun g hg q => ap (by rw [hg, q]))
      obtain ⟨W3, hW3⟩ : ∃ W3, W3 = w1.alloc (.cells #[.string x.n, .bool x.t, .int .u64 x.i] 57) := ⟨_, rfl⟩
      have b3 : Below w1.heap.size w1 W3 := by rw [hW3]; exact (Below.refl _ _).alloc (Nat.le_refl _) _
      have hs1 := (grew_trans HG.out g1).size
      have row3 : Row (fun g => w.heap.size ≤ g ∧ (Value.slice va n vc).ownBlock = some g) W3 57 3 (.slice va n vc) es.length (gcells cRf es) := ⟨(row1.onl (F := fun _ => False) (Onl.ofBelow b3) (fun _ _ q => q)).1, fun g hg => ⟨row1.2 g hg, hg⟩⟩
      have lit : RdG cRf 3 W3 (some ⟨w1.heap.size, 0, none⟩) [x] := by rw [hW3]; exact rd_lit _ w1 x
      obtain ⟨v7, w7, RA, r7, o7, _⟩ := app_rf (cp := 1) row3 (by simp; omega) lit
      obtain ⟨va7, c7, hv7, _⟩ := r7.form
      subst hv7
      have rr3 := r1.old b3
      obtain ⟨c0, c1, hrc3⟩ := rr3.ob
      have rr7 := rr3.onl o7 (fun q => Row.apartOb row3 hrc3 (by decide) q) (fun q => by have := (row3.2 g q).1; omega)
      have g3 := grew_trans (grew_trans HG.out g1) (grew_below (some p) b3)
      have g7 := grew_onl g3 o7 (fun i q => (row3.2 i q).1)
      have RA2 : (Builtin.append_ #[23, 23] 23 #[.slice va n vc, .slice (some ⟨w1.heap.size, 0, none⟩) 1 1]).run Try.prog W3 = .ok (.slice va7 (es ++ [x]).length c7) w7 := RA
      obtain ⟨p1, p2, p3⟩ := app_runs RA2
      have s3 := b3.size
      have f1 : Hid (Rr w7 p 99 g (eachK rfS st2 (k + 1)).2) := hide (by rw [HQ1.out]; exact rr7)
      have f2 : Hid (Row (fun i => w.heap.size ≤ i) w7 57 3 (.slice va7 (es ++ [x]).length c7) (eachK rfS st2 (k + 1)).1.length (gcells cRf (eachK rfS st2 (k + 1)).1)) := hide (by
        rw [HQ1.out]
        exact r7.mono (fun i q => by
          rcases q with q | q
          · exact q.1
          · omega))
      have f4 := hide g7
      obtain ⟨n7, hn7⟩ : ∃ n7, n7 = (es ++ [x]).length := ⟨_, rfl⟩
      rw [← hn7] at p2 f2
      rw [hW3] at p1 p2 p3
      clear HC r1 g1 o1 row1 row3 RA RA2 r7 o7 rr7 g7 hrc ap hn7 HR HO HG lit rr3 hrc3 g3 b3 hW3
      go_wp2
      go_roundw
      case rel => exact ⟨k + 1, va7, n7, c7, by omega, by simp, rfl, f1, f2, f4⟩
      case measure => simp [intOf]; omega
    · obtain rfl : k = CT := by omega
      go_wp2
      go_ret
      exact ⟨_, rfl, by rw [HQ.out]; exact HO.out, by rw [HQ.out]; exact HR.out, HG.out⟩
set_option maxRecDepth 100000 in
set_option maxHeartbeats 4000000 in
theorem listmade_p (p g : Nat) (st2 : St) (CT : Nat) (w : World) (h : Rr w p 99 g st2) (hg : g < w.heap.size) (hbd : CT ≤ 1000) :
    Calls Try.prog 63 #[.int .u64 CT, .func (.func 64) #[.agg #[.pointer (some ⟨p, 0, none⟩)]] #[]] w fun e w' => ∃ v, e = .returned v ∧ Row (fun i => w.heap.size ≤ i) w' 60 2 v (eachK mdS st2 CT).1.length (gcells cMk (eachK mdS st2 CT).1) ∧ Rr w' p 99 g (eachK mdS st2 CT).2 ∧ w.grownBy w' (some p) := by
  have hp := h.lt
  have HR2 := hide h
  have HG2 : Hid (w.grownBy w (some p)) := hide (grew_below (some p) (Below.refl _ w))
  clear h
  go_enter Try.func63, Try.ntmps63
  go_wp2
  go_loopw [5, 7] (fun v i wr => ∃ (k : Nat) (va : Option Addr) (n vc : Nat), k ≤ CT ∧ i = .int .u64 k ∧ v = .slice va n vc ∧ Hid (Rr wr p 99 g (eachK mdS st2 k).2) ∧ Hid (Row (fun i => w.heap.size ≤ i) wr 60 2 (.slice va n vc) (eachK mdS st2 k).1.length (gcells cMk (eachK mdS st2 k).1)) ∧ Hid (w.grownBy wr (some p))) (fun _ i _ => CT - (intOf i).toNat)
  case atStart => exact ⟨0, none, 0, 0, Nat.zero_le _, rfl, rfl, HR2, hide (Row.nil _ _ _ _), HG2⟩
  case round =>
    clear HR2 HG2
    obtain ⟨k, va, n, vc, hk, rfl, rfl, HR, HO, HG⟩ := hrel
    have hkl := eachK_len mdS st2 k
    obtain ⟨⟨es, sk⟩, hq⟩ : ∃ q, eachK mdS st2 k = q := ⟨_, rfl⟩
    have hq1 : eachK mdS st2 (k + 1) = (es ++ [(mdS sk).1], (mdS sk).2) := by simp only [eachK, hq]
    rw [hq] at HR HO hkl
    simp only at HR HO hkl
    have HQ := hide hq
    have HQ1 := hide hq1
    clear hq hq1
    by_cases hkc : k < CT
    · have t1 : decide ((k : Int) < (CT : Int)) = true := by simp; omega
      have t2 : decide (k < CT) = true := by simp; omega
      have HC := hide (made_p p g sk wr HR.out (Nat.lt_of_lt_of_le hg HG.out.size))
      obtain ⟨x, hx⟩ : ∃ x, x = (mdS sk).1 := ⟨_, rfl⟩
      rw [← hx] at HC HQ1
      obtain ⟨sk2, hsk2⟩ : ∃ x, x = (mdS sk).2 := ⟨_, rfl⟩
      rw [← hsk2] at HC HQ1
      clear hx hsk2
      go_wp2_with fail
      refine HC.out.mono ?_
      rintro e w1 ⟨rfl, r1, g1⟩
      have o1 : Onl (fun i => i = p) wr w1 := (Onl.refl _ wr).grown g1 (fun j hj => .inl (by cases hj; rfl))
      obtain ⟨c0, c1, hrc⟩ := HR.out.ob
      have ap : (Value.slice va n vc).ownBlock ≠ some p := Row.apartOb HO.out hrc (by decide)
      have row1 := HO.out.onl o1 (fun g hg q => ap (by rw [hg, q]))
      obtain ⟨W3, hW3⟩ : ∃ W3, W3 = w1.alloc (.cells #[.int .u64 x.id, .int .u64 x.ch] 60) := ⟨_, rfl⟩
      have b3 : Below w1.heap.size w1 W3 := by rw [hW3]; exact (Below.refl _ _).alloc (Nat.le_refl _) _
      have hs1 := (grew_trans HG.out g1).size
      have row3 : Row (fun g => w.heap.size ≤ g ∧ (Value.slice va n vc).ownBlock = some g) W3 60 2 (.slice va n vc) es.length (gcells cMk es) := ⟨(row1.onl (F := fun _ => False) (Onl.ofBelow b3) (fun _ _ q => q)).1, fun g hg => ⟨row1.2 g hg, hg⟩⟩
      have lit : RdG cMk 2 W3 (some ⟨w1.heap.size, 0, none⟩) [x] := by rw [hW3]; exact rd_lit _ w1 x
      obtain ⟨v7, w7, RA, r7, o7, _⟩ := app_mk (cp := 1) row3 (by simp; omega) lit
      obtain ⟨va7, c7, hv7, _⟩ := r7.form
      subst hv7
      have rr3 := r1.old b3
      obtain ⟨c0, c1, hrc3⟩ := rr3.ob
      have rr7 := rr3.onl o7 (fun q => Row.apartOb row3 hrc3 (by decide) q) (fun q => by have := (row3.2 g q).1; omega)
      have g3 := grew_trans (grew_trans HG.out g1) (grew_below (some p) b3)
      have g7 := grew_onl g3 o7 (fun i q => (row3.2 i q).1)
      have RA2 : (Builtin.append_ #[24, 24] 24 #[.slice va n vc, .slice (some ⟨w1.heap.size, 0, none⟩) 1 1]).run Try.prog W3 = .ok (.slice va7 (es ++ [x]).length c7) w7 := RA
      obtain ⟨p1, p2, p3⟩ := app_runs RA2
      have s3 := b3.size
      have f1 : Hid (Rr w7 p 99 g (eachK mdS st2 (k + 1)).2) := hide (by rw [HQ1.out]; exact rr7)
      have f2 : Hid (Row (fun i => w.heap.size ≤ i) w7 60 2 (.slice va7 (es ++ [x]).length c7) (eachK mdS st2 (k + 1)).1.length (gcells cMk (eachK mdS st2 (k + 1)).1)) := hide (by
        rw [HQ1.out]
        exact r7.mono (fun i q => by
          rcases q with q | q
          · exact q.1
          · omega))
      have f4 := hide g7
      obtain ⟨n7, hn7⟩ : ∃ n7, n7 = (es ++ [x]).length := ⟨_, rfl⟩
      rw [← hn7] at p2 f2
      rw [hW3] at p1 p2 p3
      clear HC r1 g1 o1 row1 row3 RA RA2 r7 o7 rr7 g7 hrc ap hn7 HR HO HG lit rr3 hrc3 g3 b3 hW3
      go_wp2
      go_roundw
      case rel => exact ⟨k + 1, va7, n7, c7, by omega, by simp, rfl, f1, f2, f4⟩
      case measure => simp [intOf]; omega
    · obtain rfl : k = CT := by omega
      go_wp2
      go_ret
      exact ⟨_, rfl, by rw [HQ.out]; exact HO.out, by rw [HQ.out]; exact HR.out, HG.out⟩
end Go.Proofs.Ytgjhmpmjbedjoaa
