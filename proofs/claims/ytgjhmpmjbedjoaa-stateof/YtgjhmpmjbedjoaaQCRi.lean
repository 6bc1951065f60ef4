/- conflict.Right, over the translation. -/
import Derived.Test.YtgjhmpmjbedjoaaQCPr
namespace Go.Proofs.Ytgjhmpmjbedjoaa
open Go.RowKit Apo Go.Sort
theorem less_geq (a b : ByteArray) : (!Op.bytesLess a.toList b.toList) = !sLt a b := rfl
def ClsSz (l : List Cl) : Prop := ∀ f ∈ l, f.k.size ≤ maxLen ∧ f.a.v.size ≤ maxLen ∧ f.b.v.size ≤ maxLen ∧ f.c.v.size ≤ maxLen
open Classical in
set_option maxRecDepth 100000 in
set_option maxHeartbeats 8000000 in
theorem right_any (w : World) (a : Option Addr) (ac : Nat) (l : List Cl) (h : RdG cCl 7 w a l) (hl : l.length ≤ 1000000) (hz : ClsSz l) : Calls Try.prog 49 #[.slice a l.length ac] w fun e w' => e = .returned (.int .i64 (clashE l)) ∧ Below w.heap.size w w' := by
  have HR := hide h
  have HZ := hide hz
  have hmx : Try.prog.follows .mixedOrders = true := by kernel_rfl
  obtain ⟨F, hF⟩ : ∃ F, F = clashE l := ⟨_, rfl⟩
  rw [← hF]
  obtain ⟨n, hn⟩ : ∃ n, n = l.length := ⟨_, rfl⟩
  rw [← hn] at hl ⊢
  have HN := hide hn
  have HF := hide hF
  clear h hn hF hz
  go_enter Try.func49, Try.ntmps49
  go_wp2
  go_loopw [8] (fun i wr => ∃ k : Nat, k ≤ n ∧ i = .int .i64 k ∧ Hid (∀ j, j < k → erAt l j = 0) ∧ Hid (Below w.heap.size w wr)) (fun i _ => n - (intOf i).toNat)
  case atStart => exact ⟨0, Nat.zero_le _, rfl, hide (fun j hj => absurd hj (by omega)), hide (Below.refl _ _)⟩
  case round =>
    obtain ⟨k, hk, rfl, HK, HB⟩ := hrel
    have hs := HB.out.size
    by_cases hlt : k < n
    · obtain ⟨f, hz⟩ : ∃ f, l[k]? = some f := ⟨l[k]'(by have := HN.out; omega), List.getElem?_eq_getElem _⟩
      have hkl : k < l.length := by rw [← HN.out]; exact hlt
      obtain ⟨p, off, rfl, c0, c1, c2, c3, c4, c5, c6⟩ := (HR.out.below HB.out).cl hz
      have hrd := HR.out.below HB.out
      obtain ⟨W1, hW1⟩ : ∃ W1, W1 = wr.alloc (.cells #[.string f.k, .bool f.a.b, .string f.a.v, .bool f.b.b, .string f.b.v, .bool f.c.b, .string f.c.v] 75) := ⟨_, rfl⟩
      have b1 : Below w.heap.size w W1 := by rw [hW1]; exact HB.out.alloc hs _
      have bw : Below wr.heap.size wr W1 := by rw [hW1]; exact (Below.refl _ _).alloc (Nat.le_refl _) _
      have k1 : Ob W1 wr.heap.size 75 (cCl f) := by rw [hW1]; exact Ob.new wr (cCl f) _
      have HC := hide (texts_any f W1 (HZ.out f (List.mem_of_getElem? hz)))
      simp only [Cl.val] at HC
      have hprev : ∀ pr : Cl, 0 < k → l[k - 1]? = some pr → W1.cell? ⟨p, off + (k - 1) * 7, none⟩ = some (.string pr.k) := by
        intro pr _ hpr
        obtain ⟨_, _, e1, d0, _⟩ := (hrd.below bw).cl hpr
        injection e1 with e1
        injection e1 with e1 e2
        subst e1 e2
        exact d0
      have HPV := hide hprev
      have HB1 := hide b1
      have HK1 := hide k1
      clear b1 bw k1 hrd hprev
      rcases clT_val f with hT | hT
      · rw [hT] at HC
        have HT := hide hT
        have HZK := hide hz
        clear hT hz
        rw [hW1] at HC
        go_wp2_with fail
        refine HC.out.mono ?_
        rintro e w2 ⟨rfl, u2⟩
        rw [← hW1] at u2
        have k2 := HK1.out.old u2
        have B2 := HB1.out.trans (u2.mono HB1.out.size)
        have hkl2 := k2.lt
        have HU := hide (fun n os => unlike_any f (grow (w2.drewN n) os))
        simp only [Cl.val] at HU
        have hcu := HU.out
        have HG : Hid (∀ n os, Below w2.heap.size w2 (grow (w2.drewN n) os)) := hide (fun n os => below_grown_sl _ w2 n os (Nat.le_refl _))
        have x0 := fun n os => cell_grown (a := ⟨wr.heap.size, 0, none⟩) hkl2 (k2.cell 0) n os
        have x1 := fun n os => cell_grown (a := ⟨wr.heap.size, 1, none⟩) hkl2 (k2.cell 1) n os
        have x2 := fun n os => cell_grown (a := ⟨wr.heap.size, 2, none⟩) hkl2 (k2.cell 2) n os
        have x3 := fun n os => cell_grown (a := ⟨wr.heap.size, 3, none⟩) hkl2 (k2.cell 3) n os
        have x4 := fun n os => cell_grown (a := ⟨wr.heap.size, 4, none⟩) hkl2 (k2.cell 4) n os
        have x5 := fun n os => cell_grown (a := ⟨wr.heap.size, 5, none⟩) hkl2 (k2.cell 5) n os
        have x6 := fun n os => cell_grown (a := ⟨wr.heap.size, 6, none⟩) hkl2 (k2.cell 6) n os
        have HU2 := hide u2
        have HB2 := hide B2
        have y0 := k2.cell 0
        have y1 := k2.cell 1
        have y2 := k2.cell 2
        have y3 := k2.cell 3
        have y4 := k2.cell 4
        have y5 := k2.cell 5
        have y6 := k2.cell 6
        simp only [cCl, List.getElem?_cons_zero, List.getElem?_cons_succ] at y0 y1 y2 y3 y4 y5 y6
        clear HU u2 B2 k2 HC
        have FIN : ∀ (e : Int), e ≠ 0 → erAt l k = e → F = e := fun e h1 h2 => by rw [HF.out]; exact clashE_at hkl HK.out h2 h1
        have NXT : erAt l k = 0 → Hid (∀ j, j < k + 1 → erAt l j = 0) := fun h => hide (fun j hj => by
          by_cases q : j < k
          · exact HK.out j q
          · obtain rfl : j = k := by omega
            exact h)
        have HFIN := hide FIN
        have HNXT := hide NXT
        clear FIN NXT
        clear hW1
        generalize wr.heap.size = pc at *
        by_cases hk0 : k = 0
        · have d0 : decide ((0 : Int) < (k : Int)) = false := by simp; omega
          have d0n : decide (0 < k) = false := by simp; omega
          have HK0 := hide hk0
          clear hk0
          cases hu : unlikeB f with
          | true =>
            have HCU := hide ((unlike_any f w2.drew).mono (fun e w' h => (⟨h.1.trans (by rw [hu]), by obtain ⟨q, os, rfl⟩ := h.2; exact (Below.refl _ w2).drew.trans (below_grown_sl _ w2.drew q os (Nat.le_refl _))⟩ : e = .returned (.bool true) ∧ Below w2.heap.size w2 w')))
            simp only [Cl.val] at HCU
            have HE := HNXT.out (erAt_ok HZK.out HT.out (fun p q => absurd q (by have := HK0.out; omega)) hu)
            clear hu hcu x0 x1 x2 x3 x4 x5 x6
            go_wp2_with fail
            refine wp_region_held_drew (S := fun W' => W'.cell? ⟨pc, 0, none⟩ = some (.string f.k) ∧ W'.cell? ⟨pc, 1, none⟩ = some (.bool f.a.b) ∧ W'.cell? ⟨pc, 2, none⟩ = some (.string f.a.v) ∧ W'.cell? ⟨pc, 3, none⟩ = some (.bool f.b.b) ∧ W'.cell? ⟨pc, 4, none⟩ = some (.string f.b.v) ∧ W'.cell? ⟨pc, 5, none⟩ = some (.bool f.c.b) ∧ W'.cell? ⟨pc, 6, none⟩ = some (.string f.c.v)) (by kernel_rfl) ?_ (fun hHeld => ?_)
            · exact ⟨y0, y1, y2, y3, y4, y5, y6⟩
            first
              | (refine wpAnyH_take (i := 0) (v := ?_) rfl (by kernel_rfl) (by kernel_rfl) (by kernel_rfl) (fun _ _ _ h => h) (Or.inl ⟨by rfl, ?_⟩) (by assumption) ?_; rotate_left; (intro wx hSx; obtain ⟨q0, q1, q2, q3, q4, q5, q6⟩ := hSx; go_simp; first | done | with_reducible rfl))
              | (refine wpAnyH_take (i := 0) (v := undef) rfl (by kernel_rfl) (by kernel_rfl) (by kernel_rfl) (fun _ _ _ h => h) (Or.inr ⟨by rfl, rfl⟩) (by assumption) ?_)
            simp only [Act.put, List.getElem_toArray, List.getElem_cons_zero, List.setIfInBounds_toArray, List.set_cons_zero, List.set_cons_succ]
            first
              | (refine wpAnyH_take (i := 1) (v := ?_) rfl (by kernel_rfl) (by kernel_rfl) (by kernel_rfl) (fun _ _ _ h => h) (Or.inl ⟨by rfl, ?_⟩) (by assumption) ?_; rotate_left; (intro wx hSx; obtain ⟨q0, q1, q2, q3, q4, q5, q6⟩ := hSx; go_simp; first | done | with_reducible rfl))
              | (refine wpAnyH_take (i := 1) (v := undef) rfl (by kernel_rfl) (by kernel_rfl) (by kernel_rfl) (fun _ _ _ h => h) (Or.inr ⟨by rfl, rfl⟩) (by assumption) ?_)
            simp only [Act.put, List.getElem_toArray, List.getElem_cons_succ, List.getElem_cons_zero, List.setIfInBounds_toArray, List.set_cons_zero, List.set_cons_succ]
            first
              | (refine wpAnyH_take (i := 2) (v := ?_) rfl (by kernel_rfl) (by kernel_rfl) (by kernel_rfl) (fun _ _ _ h => h) (Or.inl ⟨by rfl, ?_⟩) (by assumption) ?_; rotate_left; (intro wx hSx; obtain ⟨q0, q1, q2, q3, q4, q5, q6⟩ := hSx; go_simp; first | done | with_reducible rfl))
              | (refine wpAnyH_take (i := 2) (v := undef) rfl (by kernel_rfl) (by kernel_rfl) (by kernel_rfl) (fun _ _ _ h => h) (Or.inr ⟨by rfl, rfl⟩) (by assumption) ?_)
            simp only [Act.put, List.getElem_toArray, List.getElem_cons_succ, List.getElem_cons_zero, List.setIfInBounds_toArray, List.set_cons_zero, List.set_cons_succ]
            first
              | (refine wpAnyH_take (i := 3) (v := ?_) rfl (by kernel_rfl) (by kernel_rfl) (by kernel_rfl) (fun _ _ _ h => h) (Or.inl ⟨by rfl, ?_⟩) (by assumption) ?_; rotate_left; (intro wx hSx; obtain ⟨q0, q1, q2, q3, q4, q5, q6⟩ := hSx; go_simp; first | done | with_reducible rfl))
              | (refine wpAnyH_take (i := 3) (v := undef) rfl (by kernel_rfl) (by kernel_rfl) (by kernel_rfl) (fun _ _ _ h => h) (Or.inr ⟨by rfl, rfl⟩) (by assumption) ?_)
            simp only [Act.put, List.getElem_toArray, List.getElem_cons_succ, List.getElem_cons_zero, List.setIfInBounds_toArray, List.set_cons_zero, List.set_cons_succ]
            first
              | (refine wpAnyH_take (i := 4) (v := ?_) rfl (by kernel_rfl) (by kernel_rfl) (by kernel_rfl) (fun _ _ _ h => h) (Or.inl ⟨by rfl, ?_⟩) (by assumption) ?_; rotate_left; (intro wx hSx; obtain ⟨q0, q1, q2, q3, q4, q5, q6⟩ := hSx; go_simp; first | done | with_reducible rfl))
              | (refine wpAnyH_take (i := 4) (v := undef) rfl (by kernel_rfl) (by kernel_rfl) (by kernel_rfl) (fun _ _ _ h => h) (Or.inr ⟨by rfl, rfl⟩) (by assumption) ?_)
            simp only [Act.put, List.getElem_toArray, List.getElem_cons_succ, List.getElem_cons_zero, List.setIfInBounds_toArray, List.set_cons_zero, List.set_cons_succ]
            first
              | (refine wpAnyH_take (i := 5) (v := ?_) rfl (by kernel_rfl) (by kernel_rfl) (by kernel_rfl) (fun _ _ _ h => h) (Or.inl ⟨by rfl, ?_⟩) (by assumption) ?_; rotate_left; (intro wx hSx; obtain ⟨q0, q1, q2, q3, q4, q5, q6⟩ := hSx; go_simp; first | done | with_reducible rfl))
              | (refine wpAnyH_take (i := 5) (v := undef) rfl (by kernel_rfl) (by kernel_rfl) (by kernel_rfl) (fun _ _ _ h => h) (Or.inr ⟨by rfl, rfl⟩) (by assumption) ?_)
            simp only [Act.put, List.getElem_toArray, List.getElem_cons_succ, List.getElem_cons_zero, List.setIfInBounds_toArray, List.set_cons_zero, List.set_cons_succ]
            first
              | (refine wpAnyH_take (i := 6) (v := ?_) rfl (by kernel_rfl) (by kernel_rfl) (by kernel_rfl) (fun _ _ _ h => h) (Or.inl ⟨by rfl, ?_⟩) (by assumption) ?_; rotate_left; (intro wx hSx; obtain ⟨q0, q1, q2, q3, q4, q5, q6⟩ := hSx; go_simp; first | done | with_reducible rfl))
              | (refine wpAnyH_take (i := 6) (v := undef) rfl (by kernel_rfl) (by kernel_rfl) (by kernel_rfl) (fun _ _ _ h => h) (Or.inr ⟨by rfl, rfl⟩) (by assumption) ?_)
            simp only [Act.put, List.getElem_toArray, List.getElem_cons_succ, List.getElem_cons_zero, List.setIfInBounds_toArray, List.set_cons_zero, List.set_cons_succ]
            first
              | (refine wpAnyH_take (i := 7) (v := ?_) rfl (by kernel_rfl) (by kernel_rfl) (by kernel_rfl) (fun _ _ _ h => h) (Or.inl ⟨by rfl, ?_⟩) (by assumption) ?_; rotate_left; (intro wx hSx; obtain ⟨q0, q1, q2, q3, q4, q5, q6⟩ := hSx; go_simp; first | done | with_reducible rfl))
              | (refine wpAnyH_take (i := 7) (v := undef) rfl (by kernel_rfl) (by kernel_rfl) (by kernel_rfl) (fun _ _ _ h => h) (Or.inr ⟨by rfl, rfl⟩) (by assumption) ?_)
            simp only [Act.put, List.getElem_toArray, List.getElem_cons_succ, List.getElem_cons_zero, List.setIfInBounds_toArray, List.set_cons_zero, List.set_cons_succ]
            first
              | (refine wpAnyH_take (i := 8) (v := ?_) rfl (by kernel_rfl) (by kernel_rfl) (by kernel_rfl) (fun _ _ _ h => h) (Or.inl ⟨by rfl, ?_⟩) (by assumption) ?_; rotate_left; (intro wx hSx; obtain ⟨q0, q1, q2, q3, q4, q5, q6⟩ := hSx; go_simp; first | done | with_reducible rfl))
              | (refine wpAnyH_take (i := 8) (v := undef) rfl (by kernel_rfl) (by kernel_rfl) (by kernel_rfl) (fun _ _ _ h => h) (Or.inr ⟨by rfl, rfl⟩) (by assumption) ?_)
            simp only [Act.put, List.getElem_toArray, List.getElem_cons_succ, List.getElem_cons_zero, List.setIfInBounds_toArray, List.set_cons_zero, List.set_cons_succ]
            first
              | (refine wpAnyH_take (i := 9) (v := ?_) rfl (by kernel_rfl) (by kernel_rfl) (by kernel_rfl) (fun _ _ _ h => h) (Or.inl ⟨by rfl, ?_⟩) (by assumption) ?_; rotate_left; (intro wx hSx; obtain ⟨q0, q1, q2, q3, q4, q5, q6⟩ := hSx; go_simp; first | done | with_reducible rfl))
              | (refine wpAnyH_take (i := 9) (v := undef) rfl (by kernel_rfl) (by kernel_rfl) (by kernel_rfl) (fun _ _ _ h => h) (Or.inr ⟨by rfl, rfl⟩) (by assumption) ?_)
            simp only [Act.put, List.getElem_toArray, List.getElem_cons_succ, List.getElem_cons_zero, List.setIfInBounds_toArray, List.set_cons_zero, List.set_cons_succ]
            first
              | (refine wpAnyH_take (i := 10) (v := ?_) rfl (by kernel_rfl) (by kernel_rfl) (by kernel_rfl) (fun _ _ _ h => h) (Or.inl ⟨by rfl, ?_⟩) (by assumption) ?_; rotate_left; (intro wx hSx; obtain ⟨q0, q1, q2, q3, q4, q5, q6⟩ := hSx; go_simp; first | done | with_reducible rfl))
              | (refine wpAnyH_take (i := 10) (v := undef) rfl (by kernel_rfl) (by kernel_rfl) (by kernel_rfl) (fun _ _ _ h => h) (Or.inr ⟨by rfl, rfl⟩) (by assumption) ?_)
            simp only [Act.put, List.getElem_toArray, List.getElem_cons_succ, List.getElem_cons_zero, List.setIfInBounds_toArray, List.set_cons_zero, List.set_cons_succ]
            first
              | (refine wpAnyH_take (i := 11) (v := ?_) rfl (by kernel_rfl) (by kernel_rfl) (by kernel_rfl) (fun _ _ _ h => h) (Or.inl ⟨by rfl, ?_⟩) (by assumption) ?_; rotate_left; (intro wx hSx; obtain ⟨q0, q1, q2, q3, q4, q5, q6⟩ := hSx; go_simp; first | done | with_reducible rfl))
              | (refine wpAnyH_take (i := 11) (v := undef) rfl (by kernel_rfl) (by kernel_rfl) (by kernel_rfl) (fun _ _ _ h => h) (Or.inr ⟨by rfl, rfl⟩) (by assumption) ?_)
            simp only [Act.put, List.getElem_toArray, List.getElem_cons_succ, List.getElem_cons_zero, List.setIfInBounds_toArray, List.set_cons_zero, List.set_cons_succ]
            first
              | (refine wpAnyH_take (i := 12) (v := ?_) rfl (by kernel_rfl) (by kernel_rfl) (by kernel_rfl) (fun _ _ _ h => h) (Or.inl ⟨by rfl, ?_⟩) (by assumption) ?_; rotate_left; (intro wx hSx; obtain ⟨q0, q1, q2, q3, q4, q5, q6⟩ := hSx; go_simp; first | done | with_reducible rfl))
              | (refine wpAnyH_take (i := 12) (v := undef) rfl (by kernel_rfl) (by kernel_rfl) (by kernel_rfl) (fun _ _ _ h => h) (Or.inr ⟨by rfl, rfl⟩) (by assumption) ?_)
            simp only [Act.put, List.getElem_toArray, List.getElem_cons_succ, List.getElem_cons_zero, List.setIfInBounds_toArray, List.set_cons_zero, List.set_cons_succ]
            first
              | (refine wpAnyH_take (i := 13) (v := ?_) rfl (by kernel_rfl) (by kernel_rfl) (by kernel_rfl) (fun _ _ _ h => h) (Or.inl ⟨by rfl, ?_⟩) (by assumption) ?_; rotate_left; (intro wx hSx; obtain ⟨q0, q1, q2, q3, q4, q5, q6⟩ := hSx; go_simp; first | done | with_reducible rfl))
              | (refine wpAnyH_take (i := 13) (v := undef) rfl (by kernel_rfl) (by kernel_rfl) (by kernel_rfl) (fun _ _ _ h => h) (Or.inr ⟨by rfl, rfl⟩) (by assumption) ?_)
            simp only [Act.put, List.getElem_toArray, List.getElem_cons_succ, List.getElem_cons_zero, List.setIfInBounds_toArray, List.set_cons_zero, List.set_cons_succ]
            first
              | (refine wpAnyH_take (i := 14) (v := ?_) rfl (by kernel_rfl) (by kernel_rfl) (by kernel_rfl) (fun _ _ _ h => h) (Or.inl ⟨by rfl, ?_⟩) (by assumption) ?_; rotate_left; (intro wx hSx; obtain ⟨q0, q1, q2, q3, q4, q5, q6⟩ := hSx; go_simp; first | done | with_reducible rfl))
              | (refine wpAnyH_take (i := 14) (v := undef) rfl (by kernel_rfl) (by kernel_rfl) (by kernel_rfl) (fun _ _ _ h => h) (Or.inr ⟨by rfl, rfl⟩) (by assumption) ?_)
            simp only [Act.put, List.getElem_toArray, List.getElem_cons_succ, List.getElem_cons_zero, List.setIfInBounds_toArray, List.set_cons_zero, List.set_cons_succ]
            refine wpAnyH_ready (rs := [15]) (by kernel_rfl) (by simp) ?_
            refine AllReadyH.cons rfl (fun K hK => ?_) AllReadyH.nil
            go_simp
            go_at_call 69
            refine HCU.out.mono ?_
            rintro e w3 ⟨rfl, b3⟩
            have HB3 := hide b3
            have z0 := (b3.cell (p := ⟨pc, 0, none⟩) hkl2).trans y0
            have z1 := (b3.cell (p := ⟨pc, 1, none⟩) hkl2).trans y1
            have z2 := (b3.cell (p := ⟨pc, 2, none⟩) hkl2).trans y2
            have z3 := (b3.cell (p := ⟨pc, 3, none⟩) hkl2).trans y3
            have z4 := (b3.cell (p := ⟨pc, 4, none⟩) hkl2).trans y4
            have z5 := (b3.cell (p := ⟨pc, 5, none⟩) hkl2).trans y5
            have z6 := (b3.cell (p := ⟨pc, 6, none⟩) hkl2).trans y6
            clear b3
            go_wp2_with fail
            refine hK.out _ _ ?_ (fun hHeld => ?_)
            · exact ⟨z0, z1, z2, z3, z4, z5, z6⟩
            clear hK K
            first
              | (refine wpAnyH_take (i := 16) (v := ?_) rfl (by kernel_rfl) (by kernel_rfl) (by kernel_rfl) (fun _ _ _ h => h) (Or.inl ⟨by rfl, ?_⟩) (by assumption) ?_; rotate_left; (intro wx hSx; obtain ⟨q0, q1, q2, q3, q4, q5, q6⟩ := hSx; go_simp; first | done | with_reducible rfl))
              | (refine wpAnyH_take (i := 16) (v := undef) rfl (by kernel_rfl) (by kernel_rfl) (by kernel_rfl) (fun _ _ _ h => h) (Or.inr ⟨by rfl, rfl⟩) (by assumption) ?_)
            simp only [Act.put, List.getElem_toArray, List.getElem_cons_succ, List.getElem_cons_zero, List.setIfInBounds_toArray, List.set_cons_zero, List.set_cons_succ]
            first
              | (refine wpAnyH_take (i := 17) (v := ?_) rfl (by kernel_rfl) (by kernel_rfl) (by kernel_rfl) (fun _ _ _ h => h) (Or.inl ⟨by rfl, ?_⟩) (by assumption) ?_; rotate_left; (intro wx hSx; obtain ⟨q0, q1, q2, q3, q4, q5, q6⟩ := hSx; go_simp; first | done | with_reducible rfl))
              | (refine wpAnyH_take (i := 17) (v := undef) rfl (by kernel_rfl) (by kernel_rfl) (by kernel_rfl) (fun _ _ _ h => h) (Or.inr ⟨by rfl, rfl⟩) (by assumption) ?_)
            simp only [Act.put, List.getElem_toArray, List.getElem_cons_succ, List.getElem_cons_zero, List.setIfInBounds_toArray, List.set_cons_zero, List.set_cons_succ]
            refine wpAnyH_done (by kernel_rfl) ?_ _
            go_wp2
            go_roundw
            case rel => exact ⟨k + 1, by omega, by go_num, HE, hide (HB2.out.trans (HB3.out.mono HB2.out.size))⟩
            case measure => simp [intOf]; omega
          | false =>
            have HCU := hide ((unlike_any f w2.drew).mono (fun e w' h => (⟨h.1.trans (by rw [hu]), by obtain ⟨q, os, rfl⟩ := h.2; exact (Below.refl _ w2).drew.trans (below_grown_sl _ w2.drew q os (Nat.le_refl _))⟩ : e = .returned (.bool false) ∧ Below w2.heap.size w2 w')))
            simp only [Cl.val] at HCU
            have HE := hide (HFIN.out 132 (by decide) (erAt_like HZK.out HT.out hu))
            clear hu hcu x0 x1 x2 x3 x4 x5 x6
            go_wp2_with fail
            refine wp_region_held_drew (S := fun W' => W'.cell? ⟨pc, 0, none⟩ = some (.string f.k) ∧ W'.cell? ⟨pc, 1, none⟩ = some (.bool f.a.b) ∧ W'.cell? ⟨pc, 2, none⟩ = some (.string f.a.v) ∧ W'.cell? ⟨pc, 3, none⟩ = some (.bool f.b.b) ∧ W'.cell? ⟨pc, 4, none⟩ = some (.string f.b.v) ∧ W'.cell? ⟨pc, 5, none⟩ = some (.bool f.c.b) ∧ W'.cell? ⟨pc, 6, none⟩ = some (.string f.c.v)) (by kernel_rfl) ?_ (fun hHeld => ?_)
            · exact ⟨y0, y1, y2, y3, y4, y5, y6⟩
            first
              | (refine wpAnyH_take (i := 0) (v := ?_) rfl (by kernel_rfl) (by kernel_rfl) (by kernel_rfl) (fun _ _ _ h => h) (Or.inl ⟨by rfl, ?_⟩) (by assumption) ?_; rotate_left; (intro wx hSx; obtain ⟨q0, q1, q2, q3, q4, q5, q6⟩ := hSx; go_simp; first | done | with_reducible rfl))
              | (refine wpAnyH_take (i := 0) (v := undef) rfl (by kernel_rfl) (by kernel_rfl) (by kernel_rfl) (fun _ _ _ h => h) (Or.inr ⟨by rfl, rfl⟩) (by assumption) ?_)
            simp only [Act.put, List.getElem_toArray, List.getElem_cons_zero, List.setIfInBounds_toArray, List.set_cons_zero, List.set_cons_succ]
            first
              | (refine wpAnyH_take (i := 1) (v := ?_) rfl (by kernel_rfl) (by kernel_rfl) (by kernel_rfl) (fun _ _ _ h => h) (Or.inl ⟨by rfl, ?_⟩) (by assumption) ?_; rotate_left; (intro wx hSx; obtain ⟨q0, q1, q2, q3, q4, q5, q6⟩ := hSx; go_simp; first | done | with_reducible rfl))
              | (refine wpAnyH_take (i := 1) (v := undef) rfl (by kernel_rfl) (by kernel_rfl) (by kernel_rfl) (fun _ _ _ h => h) (Or.inr ⟨by rfl, rfl⟩) (by assumption) ?_)
            simp only [Act.put, List.getElem_toArray, List.getElem_cons_succ, List.getElem_cons_zero, List.setIfInBounds_toArray, List.set_cons_zero, List.set_cons_succ]
            first
              | (refine wpAnyH_take (i := 2) (v := ?_) rfl (by kernel_rfl) (by kernel_rfl) (by kernel_rfl) (fun _ _ _ h => h) (Or.inl ⟨by rfl, ?_⟩) (by assumption) ?_; rotate_left; (intro wx hSx; obtain ⟨q0, q1, q2, q3, q4, q5, q6⟩ := hSx; go_simp; first | done | with_reducible rfl))
              | (refine wpAnyH_take (i := 2) (v := undef) rfl (by kernel_rfl) (by kernel_rfl) (by kernel_rfl) (fun _ _ _ h => h) (Or.inr ⟨by rfl, rfl⟩) (by assumption) ?_)
            simp only [Act.put, List.getElem_toArray, List.getElem_cons_succ, List.getElem_cons_zero, List.setIfInBounds_toArray, List.set_cons_zero, List.set_cons_succ]
            first
              | (refine wpAnyH_take (i := 3) (v := ?_) rfl (by kernel_rfl) (by kernel_rfl) (by kernel_rfl) (fun _ _ _ h => h) (Or.inl ⟨by rfl, ?_⟩) (by assumption) ?_; rotate_left; (intro wx hSx; obtain ⟨q0, q1, q2, q3, q4, q5, q6⟩ := hSx; go_simp; first | done | with_reducible rfl))
              | (refine wpAnyH_take (i := 3) (v := undef) rfl (by kernel_rfl) (by kernel_rfl) (by kernel_rfl) (fun _ _ _ h => h) (Or.inr ⟨by rfl, rfl⟩) (by assumption) ?_)
            simp only [Act.put, List.getElem_toArray, List.getElem_cons_succ, List.getElem_cons_zero, List.setIfInBounds_toArray, List.set_cons_zero, List.set_cons_succ]
            first
              | (refine wpAnyH_take (i := 4) (v := ?_) rfl (by kernel_rfl) (by kernel_rfl) (by kernel_rfl) (fun _ _ _ h => h) (Or.inl ⟨by rfl, ?_⟩) (by assumption) ?_; rotate_left; (intro wx hSx; obtain ⟨q0, q1, q2, q3, q4, q5, q6⟩ := hSx; go_simp; first | done | with_reducible rfl))
              | (refine wpAnyH_take (i := 4) (v := undef) rfl (by kernel_rfl) (by kernel_rfl) (by kernel_rfl) (fun _ _ _ h => h) (Or.inr ⟨by rfl, rfl⟩) (by assumption) ?_)
            simp only [Act.put, List.getElem_toArray, List.getElem_cons_succ, List.getElem_cons_zero, List.setIfInBounds_toArray, List.set_cons_zero, List.set_cons_succ]
            first
              | (refine wpAnyH_take (i := 5) (v := ?_) rfl (by kernel_rfl) (by kernel_rfl) (by kernel_rfl) (fun _ _ _ h => h) (Or.inl ⟨by rfl, ?_⟩) (by assumption) ?_; rotate_left; (intro wx hSx; obtain ⟨q0, q1, q2, q3, q4, q5, q6⟩ := hSx; go_simp; first | done | with_reducible rfl))
              | (refine wpAnyH_take (i := 5) (v := undef) rfl (by kernel_rfl) (by kernel_rfl) (by kernel_rfl) (fun _ _ _ h => h) (Or.inr ⟨by rfl, rfl⟩) (by assumption) ?_)
            simp only [Act.put, List.getElem_toArray, List.getElem_cons_succ, List.getElem_cons_zero, List.setIfInBounds_toArray, List.set_cons_zero, List.set_cons_succ]
            first
              | (refine wpAnyH_take (i := 6) (v := ?_) rfl (by kernel_rfl) (by kernel_rfl) (by kernel_rfl) (fun _ _ _ h => h) (Or.inl ⟨by rfl, ?_⟩) (by assumption) ?_; rotate_left; (intro wx hSx; obtain ⟨q0, q1, q2, q3, q4, q5, q6⟩ := hSx; go_simp; first | done | with_reducible rfl))
              | (refine wpAnyH_take (i := 6) (v := undef) rfl (by kernel_rfl) (by kernel_rfl) (by kernel_rfl) (fun _ _ _ h => h) (Or.inr ⟨by rfl, rfl⟩) (by assumption) ?_)
            simp only [Act.put, List.getElem_toArray, List.getElem_cons_succ, List.getElem_cons_zero, List.setIfInBounds_toArray, List.set_cons_zero, List.set_cons_succ]
            first
              | (refine wpAnyH_take (i := 7) (v := ?_) rfl (by kernel_rfl) (by kernel_rfl) (by kernel_rfl) (fun _ _ _ h => h) (Or.inl ⟨by rfl, ?_⟩) (by assumption) ?_; rotate_left; (intro wx hSx; obtain ⟨q0, q1, q2, q3, q4, q5, q6⟩ := hSx; go_simp; first | done | with_reducible rfl))
              | (refine wpAnyH_take (i := 7) (v := undef) rfl (by kernel_rfl) (by kernel_rfl) (by kernel_rfl) (fun _ _ _ h => h) (Or.inr ⟨by rfl, rfl⟩) (by assumption) ?_)
            simp only [Act.put, List.getElem_toArray, List.getElem_cons_succ, List.getElem_cons_zero, List.setIfInBounds_toArray, List.set_cons_zero, List.set_cons_succ]
            first
              | (refine wpAnyH_take (i := 8) (v := ?_) rfl (by kernel_rfl) (by kernel_rfl) (by kernel_rfl) (fun _ _ _ h => h) (Or.inl ⟨by rfl, ?_⟩) (by assumption) ?_; rotate_left; (intro wx hSx; obtain ⟨q0, q1, q2, q3, q4, q5, q6⟩ := hSx; go_simp; first | done | with_reducible rfl))
              | (refine wpAnyH_take (i := 8) (v := undef) rfl (by kernel_rfl) (by kernel_rfl) (by kernel_rfl) (fun _ _ _ h => h) (Or.inr ⟨by rfl, rfl⟩) (by assumption) ?_)
            simp only [Act.put, List.getElem_toArray, List.getElem_cons_succ, List.getElem_cons_zero, List.setIfInBounds_toArray, List.set_cons_zero, List.set_cons_succ]
            first
              | (refine wpAnyH_take (i := 9) (v := ?_) rfl (by kernel_rfl) (by kernel_rfl) (by kernel_rfl) (fun _ _ _ h => h) (Or.inl ⟨by rfl, ?_⟩) (by assumption) ?_; rotate_left; (intro wx hSx; obtain ⟨q0, q1, q2, q3, q4, q5, q6⟩ := hSx; go_simp; first | done | with_reducible rfl))
              | (refine wpAnyH_take (i := 9) (v := undef) rfl (by kernel_rfl) (by kernel_rfl) (by kernel_rfl) (fun _ _ _ h => h) (Or.inr ⟨by rfl, rfl⟩) (by assumption) ?_)
            simp only [Act.put, List.getElem_toArray, List.getElem_cons_succ, List.getElem_cons_zero, List.setIfInBounds_toArray, List.set_cons_zero, List.set_cons_succ]
            first
              | (refine wpAnyH_take (i := 10) (v := ?_) rfl (by kernel_rfl) (by kernel_rfl) (by kernel_rfl) (fun _ _ _ h => h) (Or.inl ⟨by rfl, ?_⟩) (by assumption) ?_; rotate_left; (intro wx hSx; obtain ⟨q0, q1, q2, q3, q4, q5, q6⟩ := hSx; go_simp; first | done | with_reducible rfl))
              | (refine wpAnyH_take (i := 10) (v := undef) rfl (by kernel_rfl) (by kernel_rfl) (by kernel_rfl) (fun _ _ _ h => h) (Or.inr ⟨by rfl, rfl⟩) (by assumption) ?_)
            simp only [Act.put, List.getElem_toArray, List.getElem_cons_succ, List.getElem_cons_zero, List.setIfInBounds_toArray, List.set_cons_zero, List.set_cons_succ]
            first
              | (refine wpAnyH_take (i := 11) (v := ?_) rfl (by kernel_rfl) (by kernel_rfl) (by kernel_rfl) (fun _ _ _ h => h) (Or.inl ⟨by rfl, ?_⟩) (by assumption) ?_; rotate_left; (intro wx hSx; obtain ⟨q0, q1, q2, q3, q4, q5, q6⟩ := hSx; go_simp; first | done | with_reducible rfl))
              | (refine wpAnyH_take (i := 11) (v := undef) rfl (by kernel_rfl) (by kernel_rfl) (by kernel_rfl) (fun _ _ _ h => h) (Or.inr ⟨by rfl, rfl⟩) (by assumption) ?_)
            simp only [Act.put, List.getElem_toArray, List.getElem_cons_succ, List.getElem_cons_zero, List.setIfInBounds_toArray, List.set_cons_zero, List.set_cons_succ]
            first
              | (refine wpAnyH_take (i := 12) (v := ?_) rfl (by kernel_rfl) (by kernel_rfl) (by kernel_rfl) (fun _ _ _ h => h) (Or.inl ⟨by rfl, ?_⟩) (by assumption) ?_; rotate_left; (intro wx hSx; obtain ⟨q0, q1, q2, q3, q4, q5, q6⟩ := hSx; go_simp; first | done | with_reducible rfl))
              | (refine wpAnyH_take (i := 12) (v := undef) rfl (by kernel_rfl) (by kernel_rfl) (by kernel_rfl) (fun _ _ _ h => h) (Or.inr ⟨by rfl, rfl⟩) (by assumption) ?_)
            simp only [Act.put, List.getElem_toArray, List.getElem_cons_succ, List.getElem_cons_zero, List.setIfInBounds_toArray, List.set_cons_zero, List.set_cons_succ]
            first
              | (refine wpAnyH_take (i := 13) (v := ?_) rfl (by kernel_rfl) (by kernel_rfl) (by kernel_rfl) (fun _ _ _ h => h) (Or.inl ⟨by rfl, ?_⟩) (by assumption) ?_; rotate_left; (intro wx hSx; obtain ⟨q0, q1, q2, q3, q4, q5, q6⟩ := hSx; go_simp; first | done | with_reducible rfl))
              | (refine wpAnyH_take (i := 13) (v := undef) rfl (by kernel_rfl) (by kernel_rfl) (by kernel_rfl) (fun _ _ _ h => h) (Or.inr ⟨by rfl, rfl⟩) (by assumption) ?_)
            simp only [Act.put, List.getElem_toArray, List.getElem_cons_succ, List.getElem_cons_zero, List.setIfInBounds_toArray, List.set_cons_zero, List.set_cons_succ]
            first
              | (refine wpAnyH_take (i := 14) (v := ?_) rfl (by kernel_rfl) (by kernel_rfl) (by kernel_rfl) (fun _ _ _ h => h) (Or.inl ⟨by rfl, ?_⟩) (by assumption) ?_; rotate_left; (intro wx hSx; obtain ⟨q0, q1, q2, q3, q4, q5, q6⟩ := hSx; go_simp; first | done | with_reducible rfl))
              | (refine wpAnyH_take (i := 14) (v := undef) rfl (by kernel_rfl) (by kernel_rfl) (by kernel_rfl) (fun _ _ _ h => h) (Or.inr ⟨by rfl, rfl⟩) (by assumption) ?_)
            simp only [Act.put, List.getElem_toArray, List.getElem_cons_succ, List.getElem_cons_zero, List.setIfInBounds_toArray, List.set_cons_zero, List.set_cons_succ]
            refine wpAnyH_ready (rs := [15]) (by kernel_rfl) (by simp) ?_
            refine AllReadyH.cons rfl (fun K hK => ?_) AllReadyH.nil
            go_simp
            go_at_call 69
            refine HCU.out.mono ?_
            rintro e w3 ⟨rfl, b3⟩
            have HB3 := hide b3
            have z0 := (b3.cell (p := ⟨pc, 0, none⟩) hkl2).trans y0
            have z1 := (b3.cell (p := ⟨pc, 1, none⟩) hkl2).trans y1
            have z2 := (b3.cell (p := ⟨pc, 2, none⟩) hkl2).trans y2
            have z3 := (b3.cell (p := ⟨pc, 3, none⟩) hkl2).trans y3
            have z4 := (b3.cell (p := ⟨pc, 4, none⟩) hkl2).trans y4
            have z5 := (b3.cell (p := ⟨pc, 5, none⟩) hkl2).trans y5
            have z6 := (b3.cell (p := ⟨pc, 6, none⟩) hkl2).trans y6
            clear b3
            go_wp2_with fail
            refine hK.out _ _ ?_ (fun hHeld => ?_)
            · exact ⟨z0, z1, z2, z3, z4, z5, z6⟩
            clear hK K
            first
              | (refine wpAnyH_take (i := 16) (v := ?_) rfl (by kernel_rfl) (by kernel_rfl) (by kernel_rfl) (fun _ _ _ h => h) (Or.inl ⟨by rfl, ?_⟩) (by assumption) ?_; rotate_left; (intro wx hSx; obtain ⟨q0, q1, q2, q3, q4, q5, q6⟩ := hSx; go_simp; first | done | with_reducible rfl))
              | (refine wpAnyH_take (i := 16) (v := undef) rfl (by kernel_rfl) (by kernel_rfl) (by kernel_rfl) (fun _ _ _ h => h) (Or.inr ⟨by rfl, rfl⟩) (by assumption) ?_)
            simp only [Act.put, List.getElem_toArray, List.getElem_cons_succ, List.getElem_cons_zero, List.setIfInBounds_toArray, List.set_cons_zero, List.set_cons_succ]
            first
              | (refine wpAnyH_take (i := 17) (v := ?_) rfl (by kernel_rfl) (by kernel_rfl) (by kernel_rfl) (fun _ _ _ h => h) (Or.inl ⟨by rfl, ?_⟩) (by assumption) ?_; rotate_left; (intro wx hSx; obtain ⟨q0, q1, q2, q3, q4, q5, q6⟩ := hSx; go_simp; first | done | with_reducible rfl))
              | (refine wpAnyH_take (i := 17) (v := undef) rfl (by kernel_rfl) (by kernel_rfl) (by kernel_rfl) (fun _ _ _ h => h) (Or.inr ⟨by rfl, rfl⟩) (by assumption) ?_)
            simp only [Act.put, List.getElem_toArray, List.getElem_cons_succ, List.getElem_cons_zero, List.setIfInBounds_toArray, List.set_cons_zero, List.set_cons_succ]
            refine wpAnyH_done (by kernel_rfl) ?_ _
            go_wp2
            go_ret
            exact ⟨by rw [HE.out]; rfl, HB2.out.trans (HB3.out.mono HB2.out.size)⟩
        · obtain ⟨kp, hkp⟩ : ∃ kp, kp = k - 1 := ⟨_, rfl⟩
          obtain ⟨pr, hpr⟩ : ∃ pr, l[k - 1]? = some pr := ⟨l[k - 1]'(by omega), List.getElem?_eq_getElem _⟩
          clear y0 y1 y2 y3 y4 y5 y6
          have v0 := fun n os => cell_grown (w := w2) (a := ⟨p, off + (k - 1) * 7, none⟩) (by
            have h1 := World.block_lt_of_cell? _ _ (HPV.out pr (by omega) hpr)
            have h2 := HU2.out.size
            exact Nat.lt_of_lt_of_le h1 h2) ((HU2.out.cell (p := ⟨p, off + (k - 1) * 7, none⟩) (World.block_lt_of_cell? _ _ (HPV.out pr (by omega) hpr))).trans (HPV.out pr (by omega) hpr)) n os
          rw [← hkp] at v0
          have d0 : decide ((0 : Int) < (k : Int)) = true := by simp; omega
          have d0n : decide (0 < k) = true := by simp; omega
          have wj : IntKind.i64.wrap ((k : Int) - 1) = (kp : Int) := by rw [IntKind.wrap_i64]; omega
          have wj2 : (k : Int) - 1 = (kp : Int) := by omega
          have wj3 : IntKind.i64.wrap (kp : Int) = (kp : Int) := by rw [IntKind.wrap_i64]; omega
          have g1 : kp < n := by omega
          have HKP := hide hkp
          have HPR := hide hpr
          have hk00 : 0 < k := by omega
          clear hkp hpr hk0
          cases hsl : sLt pr.k f.k with
          | false =>
            have HE := hide (HFIN.out 132 (by decide) (erAt_low HZK.out HT.out hk00 HPR.out hsl))
            have hbl : Op.bytesLess pr.k.toList f.k.toList = false := hsl
            clear hsl
            go_wp2_with fail
            go_quiet_grown (first | (go_at_call 69; refine Calls.grown_of (hcu _ _)))
            go_wp2
            go_ret
            exact ⟨by rw [HE.out]; rfl, HB2.out.trans ((HG.out nq osq).mono HB2.out.size)⟩
          | true =>
            have hbl : Op.bytesLess pr.k.toList f.k.toList = true := hsl
            cases hu : unlikeB f with
            | true =>
              rw [hu] at hcu
              have HE := HNXT.out (erAt_ok HZK.out HT.out (fun p q z => by rw [HPR.out] at z; injection z with z; rw [← z]; exact hsl) hu)
              clear hu hsl
              go_wp2_with fail
              go_quiet_grown (first | (go_at_call 69; refine Calls.grown_of (hcu _ _)))
              go_wp2
              go_roundw
              case rel => exact ⟨k + 1, by omega, by go_num, HE, hide (HB2.out.trans ((HG.out nq osq).mono HB2.out.size))⟩
              case measure => simp [intOf]; omega
            | false =>
              rw [hu] at hcu
              have HE := hide (HFIN.out 132 (by decide) (erAt_like HZK.out HT.out hu))
              clear hu hsl
              go_wp2_with fail
              go_quiet_grown (first | (go_at_call 69; refine Calls.grown_of (hcu _ _)))
              go_wp2
              go_ret
              exact ⟨by rw [HE.out]; rfl, HB2.out.trans ((HG.out nq osq).mono HB2.out.size)⟩
      · have hne : clT f ≠ 0 := by rcases hT with q | q <;> rw [q] <;> decide
        have HE := hide (show F = clT f by rw [HF.out]; exact clashE_at hkl HK.out (erAt_text hz hne) hne)
        obtain ⟨T, hTT⟩ : ∃ T, T = clT f := ⟨_, rfl⟩
        rw [← hTT] at HC HE hne
        have hnb : (T != 0) = true := by simpa using hne
        clear hT hz hTT hne
        rw [hW1] at HC
        go_wp2_with fail
        refine HC.out.mono ?_
        rintro e w2 ⟨rfl, u2⟩
        rw [← hW1] at u2
        have HB2 := hide (HB1.out.trans (u2.mono HB1.out.size))
        clear u2 HC hW1
        go_wp2
        go_ret
        exact ⟨by rw [HE.out]; rfl, HB2.out⟩
    · obtain rfl : k = n := by omega
      have HE : Hid (F = 0) := hide (by rw [HF.out]; exact clashE_zero (by rw [← HN.out]; exact HK.out))
      go_wp2
      go_ret
      exact ⟨by rw [HE.out]; rfl, HB.out⟩
end Go.Proofs.Ytgjhmpmjbedjoaa
