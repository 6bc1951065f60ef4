/- What the document's own Of answers, over the translation. -/
import Derived.Test.YtilklonjacjgbaaRef
import Derived.Test.YtilklonjacjgbaaPOf
namespace Go.Proofs.Ytilklonjacjgbaa
open Go.RowKit Apo

theorem cells_newq (w : World) (cs : List Value) (t : TypeId) (q : Nat) (hq : w.heap.size = q) : ∀ j u, cs[j]? = some u → (w.alloc (.cells cs.toArray t)).cell? ((⟨q, 0, none⟩ : Addr).add j) = some u := by
  subst hq
  exact cells_new w cs t
theorem rnum_none (most : Int) : rnum none most = (0, none) := rfl
theorem rfield_none (k : Int) : (rfield k none).2 = none := by
  unfold rfield
  split
  · rfl
  · split
    · simp [rtext, rnum_none]
    · split <;> simp [rflag, rnum_none]
theorem ofF_none : ∀ ks : List Int, ofF ks none = none
  | [] => by simp [ofF]
  | k :: ks => by
    have h := rfield_none k
    rcases hv : rfield k none with ⟨f, st⟩
    rw [hv] at h
    simp only [] at h
    subst h
    exact ofF_bad hv
/-- one step, whether it failed or not -/
theorem ofF_step {k : Int} {ks : List Int} {st st' : St} {f : Fld} (h : rfield k st = (f, st')) : ofF (k :: ks) st = (ofF ks st').map (f :: ·) := by
  cases st' with
  | none => rw [ofF_bad h, ofF_none]; rfl
  | some l => exact ofF_good h

/-- behind a read: the field's own block, and what was built so far -/
theorem xof_mid {wr w2 : World} {p g q k : Nat} {st : St} {v : Value} {fs : List Fld} {z0 z1 z2 z3 : Value} (hq : q = wr.heap.size) (ho : wr.ownsRow (p + 1) 38 4 v k (fcells fs)) (hp : p < wr.heap.size) (hgp : g ≤ p)
    (hr : Rr w2 p 44 g st) (hg : (wr.alloc (.cells #[z0, z1, z2, z3] 38)).grownBy w2 (some p)) :
    Ob w2 q 38 [z0, z1, z2, z3] ∧ ∀ i u, (w2.setCell ⟨q, i, none⟩ u).ownsRow (p + 1) 38 4 v k (fcells fs) ∧ Rr (w2.setCell ⟨q, i, none⟩ u) p 44 g st ∧ wr.grownBy (w2.setCell ⟨q, i, none⟩ u) (some p) := by
  subst hq
  have hob : Ob w2 wr.heap.size 38 [z0, z1, z2, z3] := (Ob.new wr [z0, z1, z2, z3] 38).kept hg (by simp; omega)
  refine ⟨hob, fun i u => ⟨?_, ?_, ?_⟩⟩
  · have h2 : w2.ownsRow (p + 1) 38 4 v k (fcells fs) := (ho.alloc _).kept hg (Or.inr (fun e => by have := (ho.lt _ e).1; omega))
    exact h2.kept (grew_set _ _ _ _) (Or.inr (fun e => by have := (ho.lt _ e).2; omega))
  · exact hr.kept (grew_set _ _ _ _) (by simp; omega) (by simp; omega)
  · exact grew_new (grew_trans (World.grownBy_alloc wr _ _) hg) (grew_set _ _ _ _) (Nat.le_refl _)

set_option maxHeartbeats 4000000 in
theorem xof_any (a : Option Addr) (cap : Nat) (l : List Int) (ka : Option Addr) (kcap : Nat) (ks : List Int) (w : World) (hr : Rd .u8 w a l) (hcap : l.length ≤ cap) (hn : a = none → cap = 0) (hb : InB l) (hl : l.length ≤ 1099511627776)
    (hk : Rd .i64 w ka ks) (hkl : ks.length ≤ 1000000) :
    Calls Try.prog 10 #[.slice a l.length cap, .slice ka ks.length kcap] w fun e w' =>
      (∀ fs, ofF ks (some l) = some fs → ∃ v, e = .returned (.tuple #[v, .int .i64 0]) ∧ w'.ownsRow (w.heap.size + 1) 38 4 v fs.length (fcells fs)) ∧ (ofF ks (some l) = none → e = .returned (.tuple #[.slice none 0 0, .int .i64 20])) ∧ Below w.heap.size w w' := by
  obtain ⟨i0, hi, hz0, hz1, hz2⟩ := info_parts Try.info38
  have hN := hide (rr_new 44 hr hcap hn hb hl)
  have hgl := blockOf_lt hr
  generalize blockOf a l w.heap.size = g at *
  have hK := hide hk
  have hb0 := hide ((Below.refl w.heap.size w).alloc (Nat.le_refl _) (.cells #[.slice a l.length cap, .bool false] 44))
  clear hr hcap hn hb hl hk
  go_enter Try.func10, Try.ntmps10
  go_wp2
  go_loopw [7, 16] (fun v i wr => ∃ k : Nat, k ≤ ks.length ∧ i = .int .i64 k ∧ ∃ fs st, wr.ownsRow (w.heap.size + 1) 38 4 v k (fcells fs) ∧ Rr wr w.heap.size 44 g st ∧ Hid (ofF ks (some l) = (ofF (ks.drop k) st).map (fs ++ ·)) ∧ Below w.heap.size w wr) (fun _ i _ => ks.length - (intOf i).toNat)
  case atStart => exact ⟨0, Nat.zero_le _, rfl, [], some l, World.ownsRow_nil _ _ _ _, hN, by show _ = _; simp, hb0⟩
  case round =>
    clear hN hb0
    obtain ⟨k, hk, rfl, fs, st, hown, hR, HE, hbr⟩ := hrel
    have hsz := hbr.size
    have hp := hR.lt
    by_cases hlt : k < ks.length
    · obtain ⟨b, off, z, rfl, hc0, hz, _⟩ := (hK.out.below hbr).at hlt
      have HD := hide (drop_at hz.out)
      have HR := hide hR
      have HO := hide hown
      have HB := hide hbr
      clear hown hbr hR hz
      by_cases k1 : z = 1
      · subst k1
        have HC := hide (xnum_any w.heap.size g st 18446744073709551615 _ (HR.out.old ((Below.refl _ _).alloc (Nat.le_refl _) (.cells #[.int .i64 1, .int .u64 0, .string ⟨#[]⟩, .bool false] 38))))
        have HX : Hid (ofF ks (some l) = (ofF (ks.drop (k + 1)) (rnum st 18446744073709551615).2).map ((fs ++ [⟨1, (rnum st 18446744073709551615).1, ⟨#[]⟩, false⟩]) ++ ·)) := by
          show _ = _
          rw [HE.out, HD.out, ofF_step (k := 1) (f := ⟨1, (rnum st 18446744073709551615).1, ⟨#[]⟩, false⟩) (st' := (rnum st 18446744073709551615).2) rfl, Option.map_map]
          congr 1
          funext x
          simp
        clear HE HD
        go_wp2_with fail
        refine HC.out.mono ?_
        rintro e w2 ⟨rfl, r1, r2⟩
        clear HC
        obtain ⟨ho, hset⟩ := xof_mid rfl HO.out hp hgl r1 r2
        have c0 := ho.cell 0
        have c1 := ho.cell 1
        have c2 := ho.cell 2
        have c3 := ho.cell 3
        have f1 := ho.frozen 1
        simp only [List.getElem?_cons_zero, List.getElem?_cons_succ] at c0 c1 c2 c3
        obtain ⟨o1, q1, g1⟩ := hset 1 (.int .u64 (rnum st 18446744073709551615).1)
        have O1 := hide o1
        have Q1 := hide q1
        have hs2 : wr.heap.size ≤ w2.heap.size := by have := g1.size; simpa using this
        have B2 := hide (below_grew HB.out g1 hsz (Nat.le_refl _))
        clear ho hset r1 r2 o1 q1 g1 HO HB HR
        generalize rnum st 18446744073709551615 = y at *
        go_wp2_with (at_builtin; refine wpList_append_own _ rfl _ _ 22 rfl (w.heap.size + 1) 38 i0 _ 4 40 Try.underlying22 hi hz0 hz1 hz2 rfl (by decide) _ k (fcells fs) rfl (O1.out.alloc _) ⟨w2.heap.size, 0, none⟩ 1 1 [.int .i64 1, .int .u64 y.1, .string ⟨#[]⟩, .bool false] rfl rfl (cells_newq _ _ _ _ (by simp)) (fld_one ⟨1, y.1, ⟨#[]⟩, false⟩) (by unfold maxLen; omega) (by omega) (by simp; omega) ?_)
        intro v3 w3 hown3 hgrow3 _
        obtain ⟨o3, q3, b3⟩ := of_step (f := ⟨1, y.1, ⟨#[]⟩, false⟩) O1.out Q1.out B2.out (by simp; omega) hgl hown3 hgrow3
        have O3 := hide o3
        have Q3 := hide q3
        have B3 := hide b3
        clear hown3 hgrow3 o3 q3 b3 O1 Q1 B2 c0 c1 c2 c3 f1
        go_wp2
        go_roundw
        case rel => exact ⟨k + 1, by omega, by go_num, _, y.2, O3, Q3, HX, B3⟩
        case measure => simp [intOf]; omega
      · by_cases k2 : z = 2
        · subst k2
          have HC := hide (xtext_any w.heap.size g st 131072 _ (HR.out.old ((Below.refl _ _).alloc (Nat.le_refl _) (.cells #[.int .i64 2, .int .u64 0, .string ⟨#[]⟩, .bool false] 38))) (by omega))
          have HX : Hid (ofF ks (some l) = (ofF (ks.drop (k + 1)) (rtext st 131072).2).map ((fs ++ [⟨2, 0, strOfNums (rtext st 131072).1, false⟩]) ++ ·)) := by
            show _ = _
            rw [HE.out, HD.out, ofF_step (k := 2) (f := ⟨2, 0, strOfNums (rtext st 131072).1, false⟩) (st' := (rtext st 131072).2) rfl, Option.map_map]
            congr 1
            funext x
            simp
          clear HE HD
          go_wp2_with fail
          refine HC.out.mono ?_
          rintro e w2 ⟨rfl, r1, r2⟩
          clear HC
          obtain ⟨ho, hset⟩ := xof_mid rfl HO.out hp hgl r1 r2
          have c0 := ho.cell 0
          have c1 := ho.cell 1
          have c2 := ho.cell 2
          have c3 := ho.cell 3
          have f1 := ho.frozen 2
          simp only [List.getElem?_cons_zero, List.getElem?_cons_succ] at c0 c1 c2 c3
          obtain ⟨o1, q1, g1⟩ := hset 2 (.string (strOfNums (rtext st 131072).1))
          have O1 := hide o1
          have Q1 := hide q1
          have hs2 : wr.heap.size ≤ w2.heap.size := by have := g1.size; simpa using this
          have B2 := hide (below_grew HB.out g1 hsz (Nat.le_refl _))
          clear ho hset r1 r2 o1 q1 g1 HO HB HR
          generalize rtext st 131072 = y at *
          go_wp2_with (at_builtin; refine wpList_append_own _ rfl _ _ 22 rfl (w.heap.size + 1) 38 i0 _ 4 40 Try.underlying22 hi hz0 hz1 hz2 rfl (by decide) _ k (fcells fs) rfl (O1.out.alloc _) ⟨w2.heap.size, 0, none⟩ 1 1 [.int .i64 2, .int .u64 0, .string (strOfNums y.1), .bool false] rfl rfl (cells_newq _ _ _ _ (by simp)) (fld_one ⟨2, 0, strOfNums y.1, false⟩) (by unfold maxLen; omega) (by omega) (by simp; omega) ?_)
          intro v3 w3 hown3 hgrow3 _
          obtain ⟨o3, q3, b3⟩ := of_step (f := ⟨2, 0, strOfNums y.1, false⟩) O1.out Q1.out B2.out (by simp; omega) hgl hown3 hgrow3
          have O3 := hide o3
          have Q3 := hide q3
          have B3 := hide b3
          clear hown3 hgrow3 o3 q3 b3 O1 Q1 B2 c0 c1 c2 c3 f1
          go_wp2
          go_roundw
          case rel => exact ⟨k + 1, by omega, by go_num, _, y.2, O3, Q3, HX, B3⟩
          case measure => simp [intOf]; omega
        · by_cases k3 : z = 3
          · subst k3
            have HC := hide (xflag_any w.heap.size g st _ (HR.out.old ((Below.refl _ _).alloc (Nat.le_refl _) (.cells #[.int .i64 3, .int .u64 0, .string ⟨#[]⟩, .bool false] 38))))
            have HX : Hid (ofF ks (some l) = (ofF (ks.drop (k + 1)) (rflag st).2).map ((fs ++ [⟨3, 0, ⟨#[]⟩, (rflag st).1⟩]) ++ ·)) := by
              show _ = _
              rw [HE.out, HD.out, ofF_step (k := 3) (f := ⟨3, 0, ⟨#[]⟩, (rflag st).1⟩) (st' := (rflag st).2) rfl, Option.map_map]
              congr 1
              funext x
              simp
            clear HE HD
            go_wp2_with fail
            refine HC.out.mono ?_
            rintro e w2 ⟨rfl, r1, r2⟩
            clear HC
            obtain ⟨ho, hset⟩ := xof_mid rfl HO.out hp hgl r1 r2
            have c0 := ho.cell 0
            have c1 := ho.cell 1
            have c2 := ho.cell 2
            have c3 := ho.cell 3
            have f1 := ho.frozen 3
            simp only [List.getElem?_cons_zero, List.getElem?_cons_succ] at c0 c1 c2 c3
            obtain ⟨o1, q1, g1⟩ := hset 3 (.bool (rflag st).1)
            have O1 := hide o1
            have Q1 := hide q1
            have hs2 : wr.heap.size ≤ w2.heap.size := by have := g1.size; simpa using this
            have B2 := hide (below_grew HB.out g1 hsz (Nat.le_refl _))
            clear ho hset r1 r2 o1 q1 g1 HO HB HR
            generalize rflag st = y at *
            go_wp2_with (at_builtin; refine wpList_append_own _ rfl _ _ 22 rfl (w.heap.size + 1) 38 i0 _ 4 40 Try.underlying22 hi hz0 hz1 hz2 rfl (by decide) _ k (fcells fs) rfl (O1.out.alloc _) ⟨w2.heap.size, 0, none⟩ 1 1 [.int .i64 3, .int .u64 0, .string ⟨#[]⟩, .bool y.1] rfl rfl (cells_newq _ _ _ _ (by simp)) (fld_one ⟨3, 0, ⟨#[]⟩, y.1⟩) (by unfold maxLen; omega) (by omega) (by simp; omega) ?_)
            intro v3 w3 hown3 hgrow3 _
            obtain ⟨o3, q3, b3⟩ := of_step (f := ⟨3, 0, ⟨#[]⟩, y.1⟩) O1.out Q1.out B2.out (by simp; omega) hgl hown3 hgrow3
            have O3 := hide o3
            have Q3 := hide q3
            have B3 := hide b3
            clear hown3 hgrow3 o3 q3 b3 O1 Q1 B2 c0 c1 c2 c3 f1
            go_wp2
            go_roundw
            case rel => exact ⟨k + 1, by omega, by go_num, _, y.2, O3, Q3, HX, B3⟩
            case measure => simp [intOf]; omega
          · have e1 : (z == 1) = false := by simpa using k1
            have e2 : (z == 2) = false := by simpa using k2
            have e3 : (z == 3) = false := by simpa using k3
            have HX : Hid (ofF ks (some l) = none) := by
              show _ = _
              rw [HE.out, HD.out, ofF_bad (k := z) (f := ⟨0, 0, ⟨#[]⟩, false⟩) (by simp [rfield, k1, k2, k3])]
              rfl
            clear HE HD
            go_wp2
            go_ret2
            rw [HX.out]
            exact ⟨fun _ h => absurd h (by simp), fun _ => rfl, HB.out.alloc hsz _⟩
    · have hkk : k = ks.length := by omega
      subst hkk
      have HC := hide (xdone_any w.heap.size g st wr hR)
      have hfl : fs.length = ks.length := by
        have := hown.1
        rw [fcells_length] at this
        omega
      have HFL := hide hfl
      have HO := hide hown
      have HB := hide hbr
      clear hown hbr hR hfl
      by_cases hl' : st = some []
      · subst hl'
        have HX : Hid (ofF ks (some l) = some fs) := by
          show _ = _
          rw [HE.out, List.drop_length]
          simp [ofF]
        clear HE
        go_wp2_with fail
        refine HC.out.mono ?_
        rintro e w1 ⟨rfl, rfl⟩
        go_wp2
        go_ret2
        rw [HX.out]
        refine ⟨fun fs' h => ?_, fun h => absurd h (by simp), HB⟩
        cases h
        rw [HFL.out]
        exact ⟨_, rfl, HO⟩
      · have hd : decide (st = some []) = false := by simp [hl']
        rw [hd] at HC
        have HX : Hid (ofF ks (some l) = none) := by
          show _ = _
          rw [HE.out, List.drop_length]
          simp [ofF, hl']
        clear HE
        go_wp2_with fail
        refine HC.out.mono ?_
        rintro e w1 ⟨rfl, rfl⟩
        go_wp2
        go_ret2
        rw [HX.out]
        exact ⟨fun _ h => absurd h (by simp), fun _ => rfl, HB⟩
end Go.Proofs.Ytilklonjacjgbaa
