/- The program's Right of layer 9, over the translation. -/
import Derived.Test.YtandjkogpdamcaaNeR
namespace Apo
open Go Go.RowKit
theorem nodeE_texts {n : Nd} (h : textsE n ≠ 0) : nodeE n = textsE n := by
  unfold textsE at h ⊢
  unfold nodeE
  by_cases q : firstE enE n.es ≠ 0
  · rw [if_pos q, if_pos q]
  · rw [if_neg q] at h ⊢
    rw [if_neg q, if_pos h]
theorem nodeE_rest {n : Nd} (h : textsE n = 0) : nodeE n = if (n.leaf || n.inner) = false then 90 else if ∃ i, i < n.keys.length ∧ badAt n.lv n.keys i = true then 90 else if ∃ k ∈ n.ks, k.i = 0 then 90 else 0 := by
  unfold textsE at h
  unfold nodeE
  by_cases q : firstE enE n.es ≠ 0
  · rw [if_pos q] at h
    exact absurd h q
  · rw [if_neg q] at h
    rw [if_neg q, if_neg (by rw [h]; simp)]
theorem texts_sizes {n : Nd} (h : textsE n = 0) : ∀ s ∈ n.keys, s.size ≤ 1099511627776 := by
  intro s hs
  unfold textsE at h
  by_cases q : firstE enE n.es ≠ 0
  · rw [if_pos q] at h
    exact absurd h q
  · rw [if_neg q] at h
    unfold Nd.keys at hs
    rcases List.mem_append.1 hs with z | z
    · obtain ⟨e, he, rfl⟩ := List.mem_map.1 z
      have h1 := firstE_zero (by simpa using q) e he
      unfold enE at h1
      by_cases y : keyE e.k ≠ 0
      · rw [if_pos y] at h1
        exact absurd h1 y
      · have := keyE_ok (by simpa using y)
        omega
    · obtain ⟨e, he, rfl⟩ := List.mem_map.1 z
      have h1 := keyE_ok (firstE_zero h e he)
      omega
end Apo
namespace Go.Proofs.Ytandjkogpdamcaa
open Go.RowKit Apo
set_option maxRecDepth 100000 in
set_option maxHeartbeats 4000000 in
theorem right_any (w : World) (x : NdA) (hx : OkN w x) (he : x.n.es.length ≤ 1000000) (hk : x.n.ks.length ≤ 1000000) :
    Calls Try.prog 13 #[.agg x.cells.toArray] w fun e w' => e = .returned (.int .i64 (nodeE x.n)) ∧ Below w.heap.size w w' := by
  obtain ⟨W0, hW0⟩ : ∃ W0, W0 = w.alloc (.cells x.cells.toArray 25) := ⟨_, rfl⟩
  have b0 : Below w.heap.size w W0 := by rw [hW0]; exact (Below.refl _ w).alloc (Nat.le_refl _) _
  have s0 : W0.heap.size = w.heap.size + 1 := by rw [hW0]; simp
  have x0 := hx.below b0
  have kb : Ob W0 w.heap.size 25 x.cells := by rw [hW0]; exact Ob.new w x.cells 25
  have HBX := hide (fun (W : World) (b : Below W0.heap.size W0 W) => kb.old b)
  have HCT := hide (texts_any W0 x x0)
  have HCF := hide (fun (W : World) (b : Below W0.heap.size W0 W) => fits_any W x (x0.below b))
  have HCK := hide (fun (W : World) (b : Below W0.heap.size W0 W) => keys_any W x (x0.below b) he hk)
  have HKL : Hid (x.n.keys.length ≤ 10000000) := hide (by unfold Nd.keys; simp; omega)
  have HTX := hide (nodeE_texts (n := x.n))
  have HRS := hide (nodeE_rest (n := x.n))
  have HSZ := hide (texts_sizes (n := x.n))
  have HK := hide x0.ks
  have HB0 := hide b0
  have hkl : x.n.ks.length ≤ 9223372036854775807 := by omega
  obtain ⟨KS, hKS⟩ : ∃ KS, KS = x.n.keys := ⟨_, rfl⟩
  obtain ⟨sh, hsh⟩ : ∃ sh, sh = (x.n.leaf || x.n.inner) := ⟨_, rfl⟩
  obtain ⟨te, hte⟩ : ∃ te, te = textsE x.n := ⟨_, rfl⟩
  obtain ⟨nE, hnE⟩ : ∃ nE, nE = nodeE x.n := ⟨_, rfl⟩
  rw [← hKS] at HCK HKL HRS HSZ
  rw [← hsh] at HCF HRS
  rw [← hte] at HCT HTX HRS HSZ
  rw [← hnE] at HTX HRS ⊢
  obtain ⟨⟨lv, es, ks⟩, ea, ec, ka, kc⟩ := x
  simp only [NdA.cells] at *
  obtain ⟨ne, hne⟩ : ∃ ne, ne = es.length := ⟨_, rfl⟩
  obtain ⟨n, hn⟩ : ∃ n, n = ks.length := ⟨_, rfl⟩
  rw [← hne, ← hn] at HBX HCT HCF HCK hW0 ⊢
  rw [← hn] at hkl
  have HN := hide hn
  rw [hW0] at HCT
  clear hx b0 x0 kb hn hne hKS hsh hte hnE he hk
  go_enter Try.func13, Try.ntmps13
  go_wp2_with fail
  refine HCT.out.mono ?_
  rintro e w1 ⟨rfl, b1'⟩
  rw [← hW0] at b1'
  have HB1 := hide b1'
  have HB1D : Hid (Below W0.heap.size W0 w1.drew) := hide b1'.drew
  clear b1' HCT
  by_cases ht : te = 0
  · subst ht
    have kx := HBX.out w1 HB1.out
    have c0 := kx.cell 0
    have c1 := kx.cell 1
    have c2 := kx.cell 2
    simp only [List.getElem?_cons_zero, List.getElem?_cons_succ] at c0 c1 c2
    have HR2 := hide (HRS.out rfl)
    have HSZ2 := hide (HSZ.out rfl)
    clear kx HRS HTX HSZ
    cases sh
    · have HX : Hid (nE = 90) := hide (by rw [HR2.out]; simp)
      go_wp2
      refine wp_region_held_drew (S := fun W' => W'.cell? ⟨w.heap.size, 0, none⟩ = some (.int .i64 lv) ∧ W'.cell? ⟨w.heap.size, 1, none⟩ = some (.slice ea ne ec) ∧ W'.cell? ⟨w.heap.size, 2, none⟩ = some (.slice ka n kc)) (by kernel_rfl) ?_ (fun hHeld => ?_)
      · exact ⟨c0, c1, c2⟩
      first
        | (refine wpAnyH_take (i := 0) (v := ?_) rfl (by kernel_rfl) (by kernel_rfl) (by kernel_rfl) (fun _ _ _ h => h) (Or.inl ⟨by rfl, ?_⟩) (by assumption) ?_; rotate_left; (intro wx hSx; obtain ⟨e0, e1, e2⟩ := hSx; go_simp; first | done | with_reducible rfl))
        | (refine wpAnyH_take (i := 0) (v := undef) rfl (by kernel_rfl) (by kernel_rfl) (by kernel_rfl) (fun _ _ _ h => h) (Or.inr ⟨by rfl, rfl⟩) (by assumption) ?_)
      simp only [Act.put, List.getElem_toArray, List.getElem_cons_zero, List.setIfInBounds_toArray, List.set_cons_zero, List.set_cons_succ]
      refine wpAnyH_ready (rs := [1]) (by kernel_rfl) (by simp) ?_
      refine AllReadyH.cons rfl (fun K hK => ?_) AllReadyH.nil
      go_simp
      go_at_call 41
      refine (HCF.out w1.drew HB1D.out).mono ?_
      rintro en w2 ⟨rfl, b2⟩
      have HB2 := hide (HB1D.out.trans (b2.mono HB1D.out.size))
      have kx2 := HBX.out w2 HB2.out
      have z0 := kx2.cell 0
      have z1 := kx2.cell 1
      have z2 := kx2.cell 2
      simp only [List.getElem?_cons_zero, List.getElem?_cons_succ] at z0 z1 z2
      have HHH := hide (And.intro z0 (And.intro z1 z2))
      clear b2 kx2
      go_wp2_with fail
      refine hK.out _ _ ?_ (fun hHeld => ?_)
      · exact HHH.out
      clear hK K
      first
        | (refine wpAnyH_take (i := 2) (v := ?_) rfl (by kernel_rfl) (by kernel_rfl) (by kernel_rfl) (fun _ _ _ h => h) (Or.inl ⟨by rfl, ?_⟩) (by assumption) ?_; rotate_left; (intro wx hSx; obtain ⟨e0, e1, e2⟩ := hSx; go_simp; first | done | with_reducible rfl))
        | (refine wpAnyH_take (i := 2) (v := undef) rfl (by kernel_rfl) (by kernel_rfl) (by kernel_rfl) (fun _ _ _ h => h) (Or.inr ⟨by rfl, rfl⟩) (by assumption) ?_)
      simp only [Act.put, List.getElem_toArray, List.getElem_cons_succ, List.getElem_cons_zero, List.setIfInBounds_toArray, List.set_cons_zero, List.set_cons_succ]
      first
        | (refine wpAnyH_take (i := 3) (v := ?_) rfl (by kernel_rfl) (by kernel_rfl) (by kernel_rfl) (fun _ _ _ h => h) (Or.inl ⟨by rfl, ?_⟩) (by assumption) ?_; rotate_left; (intro wx hSx; obtain ⟨e0, e1, e2⟩ := hSx; go_simp; first | done | with_reducible rfl))
        | (refine wpAnyH_take (i := 3) (v := undef) rfl (by kernel_rfl) (by kernel_rfl) (by kernel_rfl) (fun _ _ _ h => h) (Or.inr ⟨by rfl, rfl⟩) (by assumption) ?_)
      simp only [Act.put, List.getElem_toArray, List.getElem_cons_succ, List.getElem_cons_zero, List.setIfInBounds_toArray, List.set_cons_zero, List.set_cons_succ]
      first
        | (refine wpAnyH_take (i := 4) (v := ?_) rfl (by kernel_rfl) (by kernel_rfl) (by kernel_rfl) (fun _ _ _ h => h) (Or.inl ⟨by rfl, ?_⟩) (by assumption) ?_; rotate_left; (intro wx hSx; obtain ⟨e0, e1, e2⟩ := hSx; go_simp; first | done | with_reducible rfl))
        | (refine wpAnyH_take (i := 4) (v := undef) rfl (by kernel_rfl) (by kernel_rfl) (by kernel_rfl) (fun _ _ _ h => h) (Or.inr ⟨by rfl, rfl⟩) (by assumption) ?_)
      simp only [Act.put, List.getElem_toArray, List.getElem_cons_succ, List.getElem_cons_zero, List.setIfInBounds_toArray, List.set_cons_zero, List.set_cons_succ]
      first
        | (refine wpAnyH_take (i := 5) (v := ?_) rfl (by kernel_rfl) (by kernel_rfl) (by kernel_rfl) (fun _ _ _ h => h) (Or.inl ⟨by rfl, ?_⟩) (by assumption) ?_; rotate_left; (intro wx hSx; obtain ⟨e0, e1, e2⟩ := hSx; go_simp; first | done | with_reducible rfl))
        | (refine wpAnyH_take (i := 5) (v := undef) rfl (by kernel_rfl) (by kernel_rfl) (by kernel_rfl) (fun _ _ _ h => h) (Or.inr ⟨by rfl, rfl⟩) (by assumption) ?_)
      simp only [Act.put, List.getElem_toArray, List.getElem_cons_succ, List.getElem_cons_zero, List.setIfInBounds_toArray, List.set_cons_zero, List.set_cons_succ]
      first
        | (refine wpAnyH_take (i := 6) (v := ?_) rfl (by kernel_rfl) (by kernel_rfl) (by kernel_rfl) (fun _ _ _ h => h) (Or.inl ⟨by rfl, ?_⟩) (by assumption) ?_; rotate_left; (intro wx hSx; obtain ⟨e0, e1, e2⟩ := hSx; go_simp; first | done | with_reducible rfl))
        | (refine wpAnyH_take (i := 6) (v := undef) rfl (by kernel_rfl) (by kernel_rfl) (by kernel_rfl) (fun _ _ _ h => h) (Or.inr ⟨by rfl, rfl⟩) (by assumption) ?_)
      simp only [Act.put, List.getElem_toArray, List.getElem_cons_succ, List.getElem_cons_zero, List.setIfInBounds_toArray, List.set_cons_zero, List.set_cons_succ]
      first
        | (refine wpAnyH_take (i := 7) (v := ?_) rfl (by kernel_rfl) (by kernel_rfl) (by kernel_rfl) (fun _ _ _ h => h) (Or.inl ⟨by rfl, ?_⟩) (by assumption) ?_; rotate_left; (intro wx hSx; obtain ⟨e0, e1, e2⟩ := hSx; go_simp; first | done | with_reducible rfl))
        | (refine wpAnyH_take (i := 7) (v := undef) rfl (by kernel_rfl) (by kernel_rfl) (by kernel_rfl) (fun _ _ _ h => h) (Or.inr ⟨by rfl, rfl⟩) (by assumption) ?_)
      simp only [Act.put, List.getElem_toArray, List.getElem_cons_succ, List.getElem_cons_zero, List.setIfInBounds_toArray, List.set_cons_zero, List.set_cons_succ]
      first
        | (refine wpAnyH_take (i := 8) (v := ?_) rfl (by kernel_rfl) (by kernel_rfl) (by kernel_rfl) (fun _ _ _ h => h) (Or.inl ⟨by rfl, ?_⟩) (by assumption) ?_; rotate_left; (intro wx hSx; obtain ⟨e0, e1, e2⟩ := hSx; go_simp; first | done | with_reducible rfl))
        | (refine wpAnyH_take (i := 8) (v := undef) rfl (by kernel_rfl) (by kernel_rfl) (by kernel_rfl) (fun _ _ _ h => h) (Or.inr ⟨by rfl, rfl⟩) (by assumption) ?_)
      simp only [Act.put, List.getElem_toArray, List.getElem_cons_succ, List.getElem_cons_zero, List.setIfInBounds_toArray, List.set_cons_zero, List.set_cons_succ]
      first
        | (refine wpAnyH_take (i := 9) (v := ?_) rfl (by kernel_rfl) (by kernel_rfl) (by kernel_rfl) (fun _ _ _ h => h) (Or.inl ⟨by rfl, ?_⟩) (by assumption) ?_; rotate_left; (intro wx hSx; obtain ⟨e0, e1, e2⟩ := hSx; go_simp; first | done | with_reducible rfl))
        | (refine wpAnyH_take (i := 9) (v := undef) rfl (by kernel_rfl) (by kernel_rfl) (by kernel_rfl) (fun _ _ _ h => h) (Or.inr ⟨by rfl, rfl⟩) (by assumption) ?_)
      simp only [Act.put, List.getElem_toArray, List.getElem_cons_succ, List.getElem_cons_zero, List.setIfInBounds_toArray, List.set_cons_zero, List.set_cons_succ]
      first
        | (refine wpAnyH_take (i := 10) (v := ?_) rfl (by kernel_rfl) (by kernel_rfl) (by kernel_rfl) (fun _ _ _ h => h) (Or.inl ⟨by rfl, ?_⟩) (by assumption) ?_; rotate_left; (intro wx hSx; obtain ⟨e0, e1, e2⟩ := hSx; go_simp; first | done | with_reducible rfl))
        | (refine wpAnyH_take (i := 10) (v := undef) rfl (by kernel_rfl) (by kernel_rfl) (by kernel_rfl) (fun _ _ _ h => h) (Or.inr ⟨by rfl, rfl⟩) (by assumption) ?_)
      simp only [Act.put, List.getElem_toArray, List.getElem_cons_succ, List.getElem_cons_zero, List.setIfInBounds_toArray, List.set_cons_zero, List.set_cons_succ]
      refine wpAnyH_done (by kernel_rfl) ?_ _
      clear HHH hHeld
      go_wp2
      go_ret
      rw [HX.out]
      exact ⟨rfl, HB0.out.trans (HB2.out.mono (by omega))⟩
    · go_wp2
      go_region_held3 (fun W' => W'.cell? ⟨w.heap.size, 0, none⟩ = some (.int .i64 lv) ∧ W'.cell? ⟨w.heap.size, 1, none⟩ = some (.slice ea ne ec) ∧ W'.cell? ⟨w.heap.size, 2, none⟩ = some (.slice ka n kc)) (go_keep) (first
        | (go_at_call 41; refine (HCF.out w1.drew HB1D.out).mono ?_; rintro en w2 ⟨rfl, b2⟩; have HB2 := hide (HB1D.out.trans (b2.mono HB1D.out.size)); have kx2 := HBX.out w2 HB2.out; have z0 := kx2.cell 0; have z1 := kx2.cell 1; have z2 := kx2.cell 2; simp only [List.getElem?_cons_zero, List.getElem?_cons_succ] at z0 z1 z2; clear b2 kx2)
        | (go_at_call 43; refine (HCK.out w2 HB2.out).mono ?_; rintro en w3 ⟨va, vc, rfl, o3, b3⟩; have HB3 := hide (HB2.out.trans (b3.mono HB2.out.size)); have HCR := hide (rise_any w3 lv w2.heap.size va vc KS o3 HKL.out HSZ2.out); have kx3 := HBX.out w3 HB3.out; have y0 := kx3.cell 0; have y1 := kx3.cell 1; have y2 := kx3.cell 2; simp only [List.getElem?_cons_zero, List.getElem?_cons_succ] at y0 y1 y2; clear b3 kx3 o3)
        | (go_at_call 42; refine HCR.out.mono ?_; rintro en w4 ⟨rb, rfl, hrb, b4⟩; have HB4 := hide (HB3.out.trans (b4.mono HB3.out.size)); have HRB := hide hrb; have kx4 := HBX.out w4 HB4.out; have u0 := kx4.cell 0; have u1 := kx4.cell 1; have u2 := kx4.cell 2; simp only [List.getElem?_cons_zero, List.getElem?_cons_succ] at u0 u1 u2; clear b4 kx4 hrb))
      cases rb
      · have HX : Hid (nE = 90) := by
          refine hide ?_
          rw [HR2.out, if_neg (by simp)]
          by_cases q : ∃ i, i < KS.length ∧ badAt lv KS i = true
          · rw [if_pos q]
          · exfalso
            have := HRB.out.2 (fun i hi => by
              cases z : badAt lv KS i
              · rfl
              · exact absurd ⟨i, hi, z⟩ q)
            cases this
        go_wp2
        go_ret
        rw [HX.out]
        exact ⟨rfl, HB0.out.trans (HB4.out.mono (by omega))⟩
      · have HX : Hid (nE = if ∃ k ∈ ks, k.i = 0 then 90 else 0) := by
          refine hide ?_
          rw [HR2.out, if_neg (by simp), if_neg]
          rintro ⟨i, hi, hb⟩
          rw [HRB.out.1 rfl i hi] at hb
          cases hb
        clear HRB HR2
        go_wp2
        go_loopw [25] (fun v W => ∃ t : Nat, t ≤ n ∧ v = .int .i64 t ∧ Hid (∀ e ∈ ks.take t, e.i ≠ 0) ∧ Hid (Below W0.heap.size W0 W)) (fun v _ => n - (intOf v).toNat)
        case atStart => exact ⟨0, Nat.zero_le _, rfl, hide (by simp), HB4⟩
        case round =>
          obtain ⟨t, ht, rfl, HT, HBT⟩ := hrel
          by_cases htj : t < n
          · obtain ⟨e, hek⟩ : ∃ e, ks[t]? = some e := ⟨ks[t]'(by have := HN.out; omega), List.getElem?_eq_getElem _⟩
            obtain ⟨g, o, rfl, q1, q2⟩ := HK.out t e hek
            have q1' := (HBT.out.cell (p := ⟨g, o + t * 2, none⟩) (World.block_lt_of_cell? _ _ q1)).trans q1
            have q2' := (HBT.out.cell (p := ⟨g, o + t * 2 + 1, none⟩) (World.block_lt_of_cell? _ _ q2)).trans q2
            obtain ⟨ek, ei⟩ := e
            simp only at q1' q2'
            have HEK := hide hek
            have HBA := hide (HBT.out.alloc HBT.out.size (.cells #[.string ek, .int .u64 ei] 58))
            clear q1 q2 hek
            by_cases hz : ei = 0
            · have HX9 : Hid (nE = 90) := hide (by
                rw [HX.out, if_pos]
                exact ⟨_, List.mem_of_getElem? HEK.out, hz⟩)
              have d1 : ((ei : Int) == 0) = true := by rw [beq_iff_eq]; omega
              have d2 : (ei == 0) = true := by rw [beq_iff_eq]; omega
              clear hz
              go_wp2
              go_ret
              rw [HX9.out]
              exact ⟨rfl, HB0.out.trans (HBA.out.mono (by omega))⟩
            · have HT2 : Hid (∀ e ∈ ks.take (t + 1), e.i ≠ 0) := by
                refine hide (fun e he => ?_)
                rw [List.take_add_one, HEK.out] at he
                rcases List.mem_append.1 he with q | q
                · exact HT.out e q
                · simp at q
                  subst q
                  exact hz
              have d1 : ((ei : Int) == 0) = false := by rw [beq_eq_false_iff_ne]; omega
              have d2 : (ei == 0) = false := by rw [beq_eq_false_iff_ne]; omega
              clear hz
              go_wp2
              go_roundw
              case rel => exact ⟨t + 1, by omega, by simp, HT2, HBA⟩
              case measure => simp [intOf]; omega
          · obtain rfl : t = n := by omega
            have HX9 : Hid (nE = 0) := hide (by
              rw [HX.out, if_neg]
              rintro ⟨e, he, h0⟩
              have q := HT.out
              rw [HN.out, List.take_length] at q
              exact q e he h0)
            go_wp2
            go_ret
            rw [HX9.out]
            exact ⟨rfl, HB0.out.trans (HBT.out.mono (by omega))⟩
  · have hte2 : (te != 0) = true := by simpa using ht
    have HX := hide (HTX.out ht)
    clear ht
    go_wp2
    go_ret
    rw [HX.out]
    exact ⟨rfl, HB0.out.trans (HB1.out.mono (by omega))⟩
end Go.Proofs.Ytandjkogpdamcaa
