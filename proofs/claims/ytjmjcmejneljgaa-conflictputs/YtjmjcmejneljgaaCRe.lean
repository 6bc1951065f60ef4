/- conflict's reader of clashes; conflict.Of, over the translation. -/
import Derived.Test.YtjmjcmejneljgaaCRd
import Derived.Test.YtjmjcmejneljgaaCRi
namespace Go.Proofs.Ytjmjcmejneljgaa
open Go.RowKit Apo
attribute [local go_sem ↓] Apo.app_exec
set_option maxRecDepth 100000 in
set_option maxHeartbeats 4000000 in
theorem clashes_p (p g : Nat) (b : List Int) (w : World) (h : Rr w p 92 g (some b)) (hg : g < w.heap.size) :
    Calls Try.prog 30 #[.agg #[.pointer (some ⟨p, 0, none⟩)]] w fun e w' => ∃ v, e = .returned v ∧ Row (fun i => w.heap.size ≤ i) w' 45 7 v (rawC b).1.length (gcells cCl (rawC b).1) ∧ Rr w' p 92 g (rawC b).2 ∧ w.grownBy w' (some p) := by
  have hp := h.lt
  have kb := Ob.new w [.pointer (some ⟨p, 0, none⟩)] 73
  have b0 : Below w.heap.size w (w.alloc (.cells #[.pointer (some ⟨p, 0, none⟩)] 73)) := (Below.refl _ w).alloc (Nat.le_refl _) _
  have HCN := hide (rdnum_any p g (some b) 1000 _ (h.old b0))
  have hbd := rnum_top (some b)
  unfold rawC
  obtain ⟨CT, hCT⟩ : ∃ CT : Nat, (CT : Int) = (rnum (some b) 1000).1 := ⟨(rnum (some b) 1000).1.toNat, by omega⟩
  have hCT2 : (rnum (some b) 1000).1.toNat = CT := by omega
  obtain ⟨st2, hst2⟩ : ∃ st2, st2 = (rnum (some b) 1000).2 := ⟨_, rfl⟩
  rw [hCT2, ← hst2]
  rw [← hCT] at HCN hbd
  rw [← hst2] at HCN
  have HKB := hide kb
  have HB0 := hide b0
  clear h kb b0 hCT hCT2 hst2
  go_enter Try.func30, Try.ntmps30
  go_wp2_with fail
  refine HCN.out.mono ?_
  rintro e w2 ⟨rfl, r2, g2⟩
  have kb2 := HKB.out.kept g2 (by intro e; have e2 := Option.some.inj e; omega)
  have k0 := kb2.cell 0
  simp only [List.getElem?_cons_zero] at k0
  have HR2 := hide r2
  have HG2 := hide (grew_trans (grew_below (some p) (HB0.out)) g2)
  have HK2 := hide kb2
  clear r2 g2 kb2 HCN
  go_wp2
  go_loopw [3, 7] (fun v i wr => ∃ (k : Nat) (va : Option Addr) (n vc : Nat), k ≤ CT ∧ i = .int .u64 k ∧ v = .slice va n vc ∧ Hid (Rr wr p 92 g (eachK clS st2 k).2) ∧ Hid (Row (fun i => w.heap.size ≤ i) wr 45 7 (.slice va n vc) (eachK clS st2 k).1.length (gcells cCl (eachK clS st2 k).1)) ∧ Hid (Ob wr w.heap.size 73 [.pointer (some ⟨p, 0, none⟩)]) ∧ Hid (w.grownBy wr (some p))) (fun _ i _ => CT - (intOf i).toNat)
  case atStart => exact ⟨0, none, 0, 0, Nat.zero_le _, rfl, rfl, HR2, hide (Row.nil _ _ _ _), HK2, HG2⟩
  case round =>
    obtain ⟨k, va, n, vc, hk, rfl, rfl, HR, HO, HK, HG⟩ := hrel
    have hkl := eachK_len clS st2 k
    obtain ⟨⟨es, sk⟩, hq⟩ : ∃ q, eachK clS st2 k = q := ⟨_, rfl⟩
    have hq1 : eachK clS st2 (k + 1) = (es ++ [(clS sk).1], (clS sk).2) := by simp only [eachK, hq]
    rw [hq] at HR HO hkl
    simp only at HR HO hkl
    have HQ := hide hq
    have HQ1 := hide hq1
    have hx0 := HK.out.cell 0
    simp only [List.getElem?_cons_zero] at hx0
    clear hq hq1
    by_cases hkc : k < CT
    · have t1 : decide ((k : Int) < (CT : Int)) = true := by simp; omega
      have t2 : decide (k < CT) = true := by simp; omega
      have HC := hide (clash_p p g sk wr HR.out (Nat.lt_of_lt_of_le hg HG.out.size))
      obtain ⟨x, hx⟩ : ∃ x, x = (clS sk).1 := ⟨_, rfl⟩
      rw [← hx] at HC HQ1
      obtain ⟨sk2, hsk2⟩ : ∃ x, x = (clS sk).2 := ⟨_, rfl⟩
      rw [← hsk2] at HC HQ1
      simp only [Cl.val] at HC
      clear hx hsk2
      go_wp2_with fail
      refine HC.out.mono ?_
      rintro e w1 ⟨rfl, r1, g1⟩
      have o1 : Onl (fun i => i = p) wr w1 := (Onl.refl _ wr).grown g1 (fun j hj => .inl (by cases hj; rfl))
      obtain ⟨c0, c1, hrc⟩ := HR.out.ob
      have ap : (Value.slice va n vc).ownBlock ≠ some p := Row.apartOb HO.out hrc (by decide)
      have row1 := HO.out.onl o1 (fun g hg q => ap (by rw [hg, q]))
      have k1 := HK.out.onl o1 (by omega)
      obtain ⟨W3, hW3⟩ : ∃ W3, W3 = w1.alloc (.cells #[.string x.k, .bool x.a.b, .string x.a.v, .bool x.b.b, .string x.b.v, .bool x.c.b, .string x.c.v] 45) := ⟨_, rfl⟩
      have b3 : Below w1.heap.size w1 W3 := by rw [hW3]; exact (Below.refl _ _).alloc (Nat.le_refl _) _
      have hs1 := (grew_trans HG.out g1).size
      have row3 : Row (fun g => w.heap.size ≤ g ∧ (Value.slice va n vc).ownBlock = some g) W3 45 7 (.slice va n vc) es.length (gcells cCl es) := ⟨(row1.onl (F := fun _ => False) (Onl.ofBelow b3) (fun _ _ q => q)).1, fun g hg => ⟨row1.2 g hg, hg⟩⟩
      have lit : RdG cCl 7 W3 (some ⟨w1.heap.size, 0, none⟩) [x] := by rw [hW3]; exact rd_lit _ w1 x
      obtain ⟨v7, w7, RA, r7, o7, _⟩ := app_cl (cp := 1) row3 (by simp; omega) lit
      obtain ⟨va7, c7, hv7, _⟩ := r7.form
      subst hv7
      have k3 := k1.old b3
      have k7 := k3.onl o7 (fun q => Row.apartOb row3 k3 (by decide) q)
      have rr3 := r1.old b3
      obtain ⟨c0, c1, hrc3⟩ := rr3.ob
      have rr7 := rr3.onl o7 (fun q => Row.apartOb row3 hrc3 (by decide) q) (fun q => by have := (row3.2 g q).1; omega)
      have g3 := grew_trans (grew_trans HG.out g1) (grew_below (some p) b3)
      have g7 := grew_onl g3 o7 (fun i q => (row3.2 i q).1)
      have RA2 : (Builtin.append_ #[22, 22] 22 #[.slice va n vc, .slice (some ⟨w1.heap.size, 0, none⟩) 1 1]).run Try.prog W3 = .ok (.slice va7 (es ++ [x]).length c7) w7 := RA
      obtain ⟨p1, p2, p3⟩ := app_runs RA2
      have s3 := b3.size
      have f1 : Hid (Rr w7 p 92 g (eachK clS st2 (k + 1)).2) := hide (by rw [HQ1.out]; exact rr7)
      have f2 : Hid (Row (fun i => w.heap.size ≤ i) w7 45 7 (.slice va7 (es ++ [x]).length c7) (eachK clS st2 (k + 1)).1.length (gcells cCl (eachK clS st2 (k + 1)).1)) := hide (by
        rw [HQ1.out]
        exact r7.mono (fun i q => by
          rcases q with q | q
          · exact q.1
          · omega))
      have f3 := hide k7
      have f4 := hide g7
      obtain ⟨n7, hn7⟩ : ∃ n7, n7 = (es ++ [x]).length := ⟨_, rfl⟩
      rw [← hn7] at p2 f2
      rw [hW3] at p1 p2 p3
      clear HC r1 g1 o1 row1 row3 k1 RA RA2 r7 o7 k7 rr7 g7 hrc ap hn7 HR HO HK HG hx0 lit k3 rr3 hrc3 g3 b3 hW3
      go_wp2
      go_roundw
      case rel => exact ⟨k + 1, va7, n7, c7, by omega, by simp, rfl, f1, f2, f3, f4⟩
      case measure => simp [intOf]; omega
    · obtain rfl : k = CT := by omega
      go_wp2
      go_ret
      exact ⟨_, rfl, by rw [HQ.out]; exact HO.out, by rw [HQ.out]; exact HR.out, HG.out⟩
end Go.Proofs.Ytjmjcmejneljgaa
