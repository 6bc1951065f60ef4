/- slices.siftDownOrdered and heapSortOrdered at 64-bit numbers, over the translation. slices.heapSortOrdered at 64-bit numbers, over the translation. slices.order2Ordered, medianOrdered, medianAdjacentOrdered and choosePivotOrdered at 64-bit numbers, over the translation. slices.choosePivotOrdered at 64-bit numbers, over the translation. -/
import Derived.Test.YtmkafoidfgaokaaQS1
namespace Go.Proofs.Ytmkafoidfgaokaa
open Go.RowKit Apo
theorem sift_end {hi first r : Nat} (h : hi ≤ 2 * r + 1) (e : Array Int) : Sort.siftDown lti hi first r e = e := by
  rw [Sort.siftDown, dif_pos (by omega)]
theorem sift_two {hi first r : Nat} (h : 2 * r + 2 < hi) {e : Array Int} (hl : lti e[first + (2 * r + 1)]! e[first + (2 * r + 1) + 1]! = true) : Sort.siftDown lti hi first r e = if !lti e[first + r]! e[first + (2 * r + 2)]! then e else Sort.siftDown lti hi first (2 * r + 2) (Sort.swp e (first + r) (first + (2 * r + 2))) := by
  rw [Sort.siftDown, dif_neg (by omega), if_pos (by simp [hl]; omega)]
  split
  · rfl
  · first | rfl | rw [dif_pos (by omega)]
theorem sift_one {hi first r : Nat} (h : 2 * r + 1 < hi) {e : Array Int} (hl : ¬ (2 * r + 2 < hi) ∨ lti e[first + (2 * r + 1)]! e[first + (2 * r + 1) + 1]! = false) : Sort.siftDown lti hi first r e = if !lti e[first + r]! e[first + (2 * r + 1)]! then e else Sort.siftDown lti hi first (2 * r + 1) (Sort.swp e (first + r) (first + (2 * r + 1))) := by
  rw [Sort.siftDown, dif_neg (by omega), if_neg]
  rcases hl with q | q
  · simp; intro z; omega
  · simp [q]
set_option maxRecDepth 100000 in
set_option maxHeartbeats 1600000 in
theorem usift_any (w : World) (g cap : Nat) (d : Array Int) (ex : List Value) (h : Ro w g d ex) (lo hi first : Nat) (hb : first + hi ≤ d.size) (hlo : lo ≤ d.size) (hn : d.size ≤ 1000000000) :
    Calls Try.prog 82 #[.slice (some ⟨g, 0, none⟩) d.size cap, .int .i64 lo, .int .i64 hi, .int .i64 first] w (UsP w g (Sort.siftDown lti hi first lo d) ex) := by
  obtain ⟨n, hnn⟩ : ∃ n, n = d.size := ⟨_, rfl⟩
  obtain ⟨R, hR⟩ : ∃ R, R = Sort.siftDown lti hi first lo d := ⟨_, rfl⟩
  rw [← hR]
  rw [← hnn] at hb hn hlo ⊢
  have HR : Hid (Sort.siftDown lti hi first lo d = R) := hide hR.symm
  have HH := hide h
  have HN := hide hnn
  clear h hR hnn
  go_enter Try.func82, Try.ntmps82
  go_wp2
  go_loopw [8] (fun vi wr => ∃ (r : Nat) (e : Array Int), r ≤ n ∧ vi = .int .i64 r ∧ Hid (e.size = n) ∧ Hid (Sort.siftDown lti hi first r e = R) ∧ Hid (Ro wr g e ex) ∧ Hid (w.grownBy wr (some g))) (fun vi _ => hi - (intOf vi).toNat)
  case atStart => exact ⟨lo, d, hlo, rfl, hide HN.out.symm, HR, HH, hide (World.grownBy.refl _ _)⟩
  case round =>
    obtain ⟨r, e, hr, rfl, HS, HL, HO, HG⟩ := hrel
    obtain ⟨c1, hc1⟩ : ∃ c1, c1 = 2 * r + 1 := ⟨_, rfl⟩
    have m1 : IntKind.i64.wrap (2 * (r : Int)) = 2 * (r : Int) := by rw [IntKind.wrap_i64]; omega
    have m2 : 2 * (r : Int) + 1 = (c1 : Int) := by omega
    have m3 : IntKind.i64.wrap (c1 : Int) = (c1 : Int) := by rw [IntKind.wrap_i64]; omega
    by_cases hend : hi ≤ c1
    · have d1 : decide ((hi : Int) ≤ (c1 : Int)) = true := by simp; omega
      have d2 : decide (hi ≤ c1) = true := by simp; omega
      have HE : Hid (e = R) := hide (by rw [← HL.out, sift_end (by omega)])
      clear hc1
      go_wp2
      go_returns
      exact ⟨rfl, by rw [← HE.out]; exact HO.out, HG.out⟩
    · have d1 : decide ((hi : Int) ≤ (c1 : Int)) = false := by simp; omega
      have d2 : decide (hi ≤ c1) = false := by simp; omega
      obtain ⟨fr, hfr⟩ : ∃ fr, fr = first + r := ⟨_, rfl⟩
      have HFR := hide hfr
      have r1 : (first : Int) + (r : Int) = (fr : Int) := by omega
      have r2 : IntKind.i64.wrap (fr : Int) = (fr : Int) := by rw [IntKind.wrap_i64]; omega
      have r3 : fr < n := by omega
      have hcr : r < c1 := by omega
      have hch : c1 < hi := by omega
      obtain ⟨c2, hc2⟩ : ∃ c2, c2 = c1 + 1 := ⟨_, rfl⟩
      have m4 : (c1 : Int) + 1 = (c2 : Int) := by omega
      have m5 : IntKind.i64.wrap (c2 : Int) = (c2 : Int) := by rw [IntKind.wrap_i64]; omega
      by_cases htwo : c2 < hi
      · have d3 : decide ((c2 : Int) < (hi : Int)) = true := by simp; omega
        have d4 : decide (c2 < hi) = true := by simp; omega
        obtain ⟨f1, hf1⟩ : ∃ f1, f1 = first + c1 := ⟨_, rfl⟩
        obtain ⟨f2, hf2⟩ : ∃ f2, f2 = f1 + 1 := ⟨_, rfl⟩
        have n1 : (first : Int) + (c1 : Int) = (f1 : Int) := by omega
        have n2 : IntKind.i64.wrap (f1 : Int) = (f1 : Int) := by rw [IntKind.wrap_i64]; omega
        have n3 : (f1 : Int) + 1 = (f2 : Int) := by omega
        have n4 : IntKind.i64.wrap (f2 : Int) = (f2 : Int) := by rw [IntKind.wrap_i64]; omega
        have n5 : f1 < n := by omega
        have n6 : f2 < n := by omega
        have q1 := HO.out.cell (i := f1) (by have := HS.out; omega)
        have q2 := HO.out.cell (i := f2) (by have := HS.out; omega)
        obtain ⟨u, hu⟩ : ∃ u, u = e[f1]! := ⟨_, rfl⟩
        obtain ⟨v, hv⟩ : ∃ v, v = e[f2]! := ⟨_, rfl⟩
        rw [← hu] at q1
        rw [← hv] at q2
        have hcl0 := fun W' => less_any W' u v
        cases hlt0 : decide (u < v)
        · rw [hlt0] at hcl0
          have hstep := sift_one (hi := hi) (first := first) (r := r) (by omega) (e := e) (.inr (by rw [← hc1, ← hf1, ← hf2, ← hu, ← hv]; exact hlt0))
          rw [← hc1] at hstep
          have HST := hide hstep
          have HCL0 := hide hcl0
          have hf3 : first + c1 < n := by omega
          clear hcl0 hlt0 hu hv hstep hc1 hc2 hf1 hf2 hfr
          go_wp2
          go_quiet (first | (go_at_call 77; with_reducible exact (HCL0.out _).mono (fun _ _ h => ⟨h.1, _, h.2.symm⟩)))
          clear q1 q2 n1 n2 n3 n4 n5 n6
          obtain ⟨W1, hW1⟩ : ∃ W1, W1 = wr.drewN nq := ⟨_, rfl⟩
          have hG : w.grownBy W1 (some g) := by rw [hW1]; exact grew_trans HG.out (grew_drewN _ nq (some g))
          have hO : Ro W1 g e ex := by rw [hW1]; exact HO.out.old (below_drewN (Below.refl _ _) nq)
          rw [← hW1]
          clear hW1 HO HG
          have hes := HS.out
          have hstep := HST.out
          obtain ⟨fc, hfc⟩ : ∃ fc, fc = first + c1 := ⟨_, rfl⟩
          have k1 : (first : Int) + (c1 : Int) = (fc : Int) := by omega
          have k2 : IntKind.i64.wrap (fc : Int) = (fc : Int) := by rw [IntKind.wrap_i64]; omega
          have k3 : fc < n := by omega
          have k4 : IntKind.i64.wrap (c1 : Int) = (c1 : Int) := by rw [IntKind.wrap_i64]; omega
          have cr := hO.cell (i := fr) (by omega)
          have cc := hO.cell (i := fc) (by omega)
          obtain ⟨x, hx⟩ : ∃ x, x = e[fr]! := ⟨_, rfl⟩
          obtain ⟨y, hy⟩ : ∃ y, y = e[fc]! := ⟨_, rfl⟩
          rw [← hx] at cr
          rw [← hy] at cc
          have hcl := fun W' => less_any W' x y
          have HO := hide hO
          have HG := hide hG
          have hst := hstep
          rw [← HFR.out, ← hfc, ← hx, ← hy] at hst
          cases hlt : decide (x < y)
          · rw [hlt] at hcl
            have HCL := hide hcl
            have HE : Hid (e = R) := hide (by
              rw [← HL.out, hst]
              have : lti x y = false := hlt
              rw [this]
              simp)
            clear hcl hlt hx hy hO hG hfc hst hstep
            go_wp2
            go_quiet (first | (go_at_call 77; with_reducible exact (HCL.out _).mono (fun _ _ h => ⟨h.1, _, h.2.symm⟩)))
            go_wp2
            go_returns
            exact ⟨rfl, by rw [← HE.out]; exact HO.out.old (below_drewN (Below.refl _ _) _), grew_trans HG.out (grew_drewN _ _ _)⟩
          · rw [hlt] at hcl
            have HCL := hide hcl
            have HE : Hid (Sort.siftDown lti hi first c1 (Sort.swp e fr fc) = R) := hide (by
              rw [← HL.out, hst]
              have : lti x y = true := hlt
              rw [this]
              simp)
            have HS2 : Hid ((Sort.swp e fr fc).size = n) := hide (by rw [swp_size]; exact HS.out)
            clear hcl hlt hx hy hO hG hfc hst hstep
            go_wp2
            go_quiet (first | (go_at_call 77; with_reducible exact (HCL.out _).mono (fun _ _ h => ⟨h.1, _, h.2.symm⟩)))
            clear cr cc
            obtain ⟨W2, hW2⟩ : ∃ W2, W2 = W1.drewN nq := ⟨_, rfl⟩
            have hG2 : w.grownBy W2 (some g) := by rw [hW2]; exact grew_trans HG.out (grew_drewN _ nq (some g))
            have hO2 : Ro W2 g e ex := by rw [hW2]; exact HO.out.old (below_drewN (Below.refl _ _) nq)
            rw [← hW2]
            clear hW2
            obtain ⟨x', y', F⟩ := hO2.sw (i := fr) (j := fc) (by have := HS.out; omega) (by have := HS.out; omega)
            obtain ⟨ci, cj, fi, cj2, fj2, ro, gr⟩ := F
            have HO2 := hide ro
            have HG2 := hide (grew_trans hG2 gr)
            clear ro gr hG2 hO2
            go_wp2
            go_region
            go_wp2
            go_roundw
            case rel => exact ⟨c1, Sort.swp e fr fc, by omega, by simp, HS2, HE, HO2, HG2⟩
            case measure => simp [intOf]; omega
        · rw [hlt0] at hcl0
          have hstep := sift_two (hi := hi) (first := first) (r := r) (by omega) (e := e) (by rw [← hc1, ← hf1, ← hf2, ← hu, ← hv]; exact hlt0)
          rw [show 2 * r + 2 = c2 by omega] at hstep
          have HST := hide hstep
          have HCL0 := hide hcl0
          have hf3 : first + c2 < n := by omega
          have hcr2 : r < c2 := by omega
          clear hcl0 hlt0 hu hv hstep hc1 hc2 hf1 hf2 hfr
          go_wp2
          go_quiet (first | (go_at_call 77; with_reducible exact (HCL0.out _).mono (fun _ _ h => ⟨h.1, _, h.2.symm⟩)))
          clear q1 q2 n1 n2 n3 n4 n5 n6
          obtain ⟨W1, hW1⟩ : ∃ W1, W1 = wr.drewN nq := ⟨_, rfl⟩
          have hG : w.grownBy W1 (some g) := by rw [hW1]; exact grew_trans HG.out (grew_drewN _ nq (some g))
          have hO : Ro W1 g e ex := by rw [hW1]; exact HO.out.old (below_drewN (Below.refl _ _) nq)
          rw [← hW1]
          clear hW1 HO HG
          have hes := HS.out
          have hstep := HST.out
          obtain ⟨fc, hfc⟩ : ∃ fc, fc = first + c2 := ⟨_, rfl⟩
          have k1 : (first : Int) + (c2 : Int) = (fc : Int) := by omega
          have k2 : IntKind.i64.wrap (fc : Int) = (fc : Int) := by rw [IntKind.wrap_i64]; omega
          have k3 : fc < n := by omega
          have k4 : IntKind.i64.wrap (c2 : Int) = (c2 : Int) := by rw [IntKind.wrap_i64]; omega
          have cr := hO.cell (i := fr) (by omega)
          have cc := hO.cell (i := fc) (by omega)
          obtain ⟨x, hx⟩ : ∃ x, x = e[fr]! := ⟨_, rfl⟩
          obtain ⟨y, hy⟩ : ∃ y, y = e[fc]! := ⟨_, rfl⟩
          rw [← hx] at cr
          rw [← hy] at cc
          have hcl := fun W' => less_any W' x y
          have HO := hide hO
          have HG := hide hG
          have hst := hstep
          rw [← HFR.out, ← hfc, ← hx, ← hy] at hst
          cases hlt : decide (x < y)
          · rw [hlt] at hcl
            have HCL := hide hcl
            have HE : Hid (e = R) := hide (by
              rw [← HL.out, hst]
              have : lti x y = false := hlt
              rw [this]
              simp)
            clear hcl hlt hx hy hO hG hfc hst hstep
            go_wp2
            go_quiet (first | (go_at_call 77; with_reducible exact (HCL.out _).mono (fun _ _ h => ⟨h.1, _, h.2.symm⟩)))
            go_wp2
            go_returns
            exact ⟨rfl, by rw [← HE.out]; exact HO.out.old (below_drewN (Below.refl _ _) _), grew_trans HG.out (grew_drewN _ _ _)⟩
          · rw [hlt] at hcl
            have HCL := hide hcl
            have HE : Hid (Sort.siftDown lti hi first c2 (Sort.swp e fr fc) = R) := hide (by
              rw [← HL.out, hst]
              have : lti x y = true := hlt
              rw [this]
              simp)
            have HS2 : Hid ((Sort.swp e fr fc).size = n) := hide (by rw [swp_size]; exact HS.out)
            clear hcl hlt hx hy hO hG hfc hst hstep
            go_wp2
            go_quiet (first | (go_at_call 77; with_reducible exact (HCL.out _).mono (fun _ _ h => ⟨h.1, _, h.2.symm⟩)))
            clear cr cc
            obtain ⟨W2, hW2⟩ : ∃ W2, W2 = W1.drewN nq := ⟨_, rfl⟩
            have hG2 : w.grownBy W2 (some g) := by rw [hW2]; exact grew_trans HG.out (grew_drewN _ nq (some g))
            have hO2 : Ro W2 g e ex := by rw [hW2]; exact HO.out.old (below_drewN (Below.refl _ _) nq)
            rw [← hW2]
            clear hW2
            obtain ⟨x', y', F⟩ := hO2.sw (i := fr) (j := fc) (by have := HS.out; omega) (by have := HS.out; omega)
            obtain ⟨ci, cj, fi, cj2, fj2, ro, gr⟩ := F
            have HO2 := hide ro
            have HG2 := hide (grew_trans hG2 gr)
            clear ro gr hG2 hO2
            go_wp2
            go_region
            go_wp2
            go_roundw
            case rel => exact ⟨c2, Sort.swp e fr fc, by omega, by simp, HS2, HE, HO2, HG2⟩
            case measure => simp [intOf]; omega
      · have d3 : decide ((c2 : Int) < (hi : Int)) = false := by simp; omega
        have d4 : decide (c2 < hi) = false := by simp; omega
        have hstep := sift_one (hi := hi) (first := first) (r := r) (by omega) (e := e) (.inl (by omega))
        rw [← hc1] at hstep
        have HST := hide hstep
        have hf3 : first + c1 < n := by omega
        clear hstep hc1 hc2 hfr
        go_wp2
        go_quiet (fail)
        obtain ⟨W1, hW1⟩ : ∃ W1, W1 = wr.drewN nq := ⟨_, rfl⟩
        have hG : w.grownBy W1 (some g) := by rw [hW1]; exact grew_trans HG.out (grew_drewN _ nq (some g))
        have hO : Ro W1 g e ex := by rw [hW1]; exact HO.out.old (below_drewN (Below.refl _ _) nq)
        rw [← hW1]
        clear hW1 HO HG
        have hes := HS.out
        have hstep := HST.out
        obtain ⟨fc, hfc⟩ : ∃ fc, fc = first + c1 := ⟨_, rfl⟩
        have k1 : (first : Int) + (c1 : Int) = (fc : Int) := by omega
        have k2 : IntKind.i64.wrap (fc : Int) = (fc : Int) := by rw [IntKind.wrap_i64]; omega
        have k3 : fc < n := by omega
        have k4 : IntKind.i64.wrap (c1 : Int) = (c1 : Int) := by rw [IntKind.wrap_i64]; omega
        have cr := hO.cell (i := fr) (by omega)
        have cc := hO.cell (i := fc) (by omega)
        obtain ⟨x, hx⟩ : ∃ x, x = e[fr]! := ⟨_, rfl⟩
        obtain ⟨y, hy⟩ : ∃ y, y = e[fc]! := ⟨_, rfl⟩
        rw [← hx] at cr
        rw [← hy] at cc
        have hcl := fun W' => less_any W' x y
        have HO := hide hO
        have HG := hide hG
        have hst := hstep
        rw [← HFR.out, ← hfc, ← hx, ← hy] at hst
        cases hlt : decide (x < y)
        · rw [hlt] at hcl
          have HCL := hide hcl
          have HE : Hid (e = R) := hide (by
            rw [← HL.out, hst]
            have : lti x y = false := hlt
            rw [this]
            simp)
          clear hcl hlt hx hy hO hG hfc hst hstep
          go_wp2
          go_quiet (first | (go_at_call 77; with_reducible exact (HCL.out _).mono (fun _ _ h => ⟨h.1, _, h.2.symm⟩)))
          go_wp2
          go_returns
          exact ⟨rfl, by rw [← HE.out]; exact HO.out.old (below_drewN (Below.refl _ _) _), grew_trans HG.out (grew_drewN _ _ _)⟩
        · rw [hlt] at hcl
          have HCL := hide hcl
          have HE : Hid (Sort.siftDown lti hi first c1 (Sort.swp e fr fc) = R) := hide (by
            rw [← HL.out, hst]
            have : lti x y = true := hlt
            rw [this]
            simp)
          have HS2 : Hid ((Sort.swp e fr fc).size = n) := hide (by rw [swp_size]; exact HS.out)
          clear hcl hlt hx hy hO hG hfc hst hstep
          go_wp2
          go_quiet (first | (go_at_call 77; with_reducible exact (HCL.out _).mono (fun _ _ h => ⟨h.1, _, h.2.symm⟩)))
          clear cr cc
          obtain ⟨W2, hW2⟩ : ∃ W2, W2 = W1.drewN nq := ⟨_, rfl⟩
          have hG2 : w.grownBy W2 (some g) := by rw [hW2]; exact grew_trans HG.out (grew_drewN _ nq (some g))
          have hO2 : Ro W2 g e ex := by rw [hW2]; exact HO.out.old (below_drewN (Below.refl _ _) nq)
          rw [← hW2]
          clear hW2
          obtain ⟨x', y', F⟩ := hO2.sw (i := fr) (j := fc) (by have := HS.out; omega) (by have := HS.out; omega)
          obtain ⟨ci, cj, fi, cj2, fj2, ro, gr⟩ := F
          have HO2 := hide ro
          have HG2 := hide (grew_trans hG2 gr)
          clear ro gr hG2 hO2
          go_wp2
          go_region
          go_wp2
          go_roundw
          case rel => exact ⟨c1, Sort.swp e fr fc, by omega, by simp, HS2, HE, HO2, HG2⟩
          case measure => simp [intOf]; omega
end Go.Proofs.Ytmkafoidfgaokaa
namespace Go.Proofs.Ytmkafoidfgaokaa
open Go.RowKit Apo
theorem sift_size_le (hi first : Nat) : ∀ (m r : Nat) (d : Array Int), hi - r ≤ m → (Sort.siftDown lti hi first r d).size = d.size
  | 0, r, d, h => by rw [sift_end (by omega)]
  | m + 1, r, d, h => by
    by_cases h1 : hi ≤ 2 * r + 1
    · rw [sift_end h1]
    · by_cases h2 : 2 * r + 2 < hi ∧ lti d[first + (2 * r + 1)]! d[first + (2 * r + 1) + 1]! = true
      · rw [sift_two h2.1 h2.2]
        split
        · rfl
        · rw [sift_size_le hi first m _ _ (by omega), swp_size]
      · rw [sift_one (by omega) (by
          by_cases q : 2 * r + 2 < hi
          · right
            cases z : lti d[first + (2 * r + 1)]! d[first + (2 * r + 1) + 1]!
            · rfl
            · exact absurd ⟨q, z⟩ h2
          · exact .inl q)]
        split
        · rfl
        · rw [sift_size_le hi first m _ _ (by omega), swp_size]
theorem sift_size (hi first r : Nat) (d : Array Int) : (Sort.siftDown lti hi first r d).size = d.size := sift_size_le hi first _ r d (Nat.le_refl _)
set_option maxRecDepth 100000 in
set_option maxHeartbeats 1600000 in
theorem uheap_any (w : World) (g cap : Nat) (d : Array Int) (ex : List Value) (h : Ro w g d ex) (a b : Nat) (hab : a < b) (hb : b ≤ d.size) (hn : d.size ≤ 1000000000) :
    Calls Try.prog 72 #[.slice (some ⟨g, 0, none⟩) d.size cap, .int .i64 a, .int .i64 b] w (UsP w g (Sort.heapSort lti d a b) ex) := by
  obtain ⟨n, hnn⟩ : ∃ n, n = d.size := ⟨_, rfl⟩
  obtain ⟨R, hR⟩ : ∃ R, R = Sort.heapSort lti d a b := ⟨_, rfl⟩
  obtain ⟨hi, hhi⟩ : ∃ hi, hi = b - a := ⟨_, rfl⟩
  rw [← hR]
  rw [← hnn] at hb hn ⊢
  have HR : Hid (Sort.heapPop lti a hi (Sort.heapBuild lti hi a ((hi - 1) / 2 + 1) d) = R) := hide (by rw [hR, hhi]; rfl)
  have HH := hide h
  have HN := hide hnn
  have m1 : (b : Int) - (a : Int) = (hi : Int) := by omega
  have m2 : IntKind.i64.wrap (hi : Int) = (hi : Int) := by rw [IntKind.wrap_i64]; omega
  obtain ⟨h1, hh1⟩ : ∃ h1, h1 = hi - 1 := ⟨_, rfl⟩
  have m3 : (hi : Int) - 1 = (h1 : Int) := by omega
  have m4 : IntKind.i64.wrap (h1 : Int) = (h1 : Int) := by rw [IntKind.wrap_i64]; omega
  obtain ⟨h2, hh2⟩ : ∃ h2, h2 = h1 / 2 := ⟨_, rfl⟩
  have m5 : (h1 : Int) / 2 = (h2 : Int) := by omega
  have m6 : Int.tdiv (h1 : Int) 2 = (h2 : Int) := by rw [Int.tdiv_eq_ediv_of_nonneg (by omega)]; omega
  have m7 : IntKind.i64.wrap (h2 : Int) = (h2 : Int) := by rw [IntKind.wrap_i64]; omega
  rw [← hh1, ← hh2] at HR
  have hlen : a + hi ≤ n := by omega
  have h2b : h2 < hi := by omega
  have h1b : h1 < hi := by omega
  have HP1 := hide hh1
  clear h hR hnn hhi hh1 hh2
  go_enter Try.func72, Try.ntmps72
  go_wp2
  go_loopw [9] (fun vi wr => ∃ (k : Nat) (e : Array Int), k ≤ hi ∧ ((∃ k' : Nat, k = k' + 1 ∧ vi = .int .i64 k') ∨ (k = 0 ∧ vi = .int .i64 (-1))) ∧ Hid (e.size = n) ∧ Hid (Sort.heapPop lti a hi (Sort.heapBuild lti hi a k e) = R) ∧ Hid (Ro wr g e ex) ∧ Hid (w.grownBy wr (some g))) (fun vi _ => (intOf vi + 1).toNat)
  case atStart => exact ⟨h2 + 1, d, by omega, .inl ⟨h2, rfl, rfl⟩, hide HN.out.symm, HR, HH, hide (World.grownBy.refl _ _)⟩
  case round =>
    obtain ⟨k, e, hk, hv, HS, HL, HO, HG⟩ := hrel
    rcases hv with ⟨k', rfl, rfl⟩ | ⟨rfl, rfl⟩
    · have hes := HS.out
      have HC : Hid (Calls Try.prog 82 #[.slice (some ⟨g, 0, none⟩) n cap, .int .i64 k', .int .i64 hi, .int .i64 a] wr (UsP wr g (Sort.siftDown lti hi a k' e) ex)) := hide (by rw [← hes]; exact usift_any wr g cap e ex HO.out k' hi a (by omega) (by omega) (by omega))
      obtain ⟨e2, he2⟩ : ∃ e2, e2 = Sort.siftDown lti hi a k' e := ⟨_, rfl⟩
      rw [← he2] at HC
      have HS2 : Hid (e2.size = n) := hide (by rw [he2, sift_size]; exact hes)
      have HL2 : Hid (Sort.heapPop lti a hi (Sort.heapBuild lti hi a k' e2) = R) := hide (by rw [he2]; exact HL.out)
      have hge : decide ((0 : Int) ≤ (k' : Int)) = true := by simp
      clear hes he2
      go_wp2_with fail
      refine HC.out.mono ?_
      rintro en w1 ⟨rfl, r1, g1⟩
      have HO1 := hide r1
      have HG1 := hide (grew_trans HG.out g1)
      clear r1 g1 HC
      cases k' with
      | zero =>
        go_wp2
        go_roundw
        case rel => exact ⟨0, e2, by omega, .inr ⟨rfl, by simp⟩, HS2, HL2, HO1, HG1⟩
        case measure => simp [intOf]
      | succ k'' =>
        have q1 : ((k'' + 1 : Nat) : Int) - 1 = (k'' : Int) := by omega
        go_wp2
        go_roundw
        case rel => exact ⟨k'' + 1, e2, by omega, .inl ⟨k'', rfl, by simp⟩, HS2, HL2, HO1, HG1⟩
        case measure => simp [intOf]; omega
    · have HL3 : Hid (Sort.heapPop lti a hi e = R) := hide HL.out
      go_wp2
      go_loopw [10] (fun vi wr => ∃ (k : Nat) (e : Array Int), k ≤ hi ∧ ((∃ k' : Nat, k = k' + 1 ∧ vi = .int .i64 k') ∨ (k = 0 ∧ vi = .int .i64 (-1))) ∧ Hid (e.size = n) ∧ Hid (Sort.heapPop lti a k e = R) ∧ Hid (Ro wr g e ex) ∧ Hid (w.grownBy wr (some g))) (fun vi _ => (intOf vi + 1).toNat)
      case atStart => exact ⟨hi, e, Nat.le_refl _, .inl ⟨h1, by have := HP1.out; omega, rfl⟩, HS, HL3, HO, HG⟩
      case round =>
        clear HS HL HO HG HL3
        obtain ⟨k, e, hk, hv, HS, HL, HO, HG⟩ := hrel
        rcases hv with ⟨k', rfl, rfl⟩ | ⟨rfl, rfl⟩
        · have hes := HS.out
          obtain ⟨f, hf⟩ : ∃ f, f = a + k' := ⟨_, rfl⟩
          have p1 : (a : Int) + (k' : Int) = (f : Int) := by omega
          have p2 : IntKind.i64.wrap (f : Int) = (f : Int) := by rw [IntKind.wrap_i64]; omega
          have p3 : f < n := by omega
          have p4 : a < n := by omega
          obtain ⟨x, y, F⟩ := HO.out.sw (i := a) (j := f) (by omega) (by omega)
          obtain ⟨ci, cj, fi, cj2, fj2, ro, gr⟩ := F
          obtain ⟨W1, hW1⟩ : ∃ W1, W1 = ((wr.setCell ⟨g, a, none⟩ (.int .u64 y)).setCell ⟨g, f, none⟩ (.int .u64 x)).drew := ⟨_, rfl⟩
          rw [← hW1] at ro gr
          have hs2 : (Sort.swp e a f).size = n := by rw [swp_size]; exact hes
          have HC : Hid (Calls Try.prog 82 #[.slice (some ⟨g, 0, none⟩) n cap, .int .i64 0, .int .i64 k', .int .i64 a] W1 (UsP W1 g (Sort.siftDown lti k' a 0 (Sort.swp e a f)) ex)) := hide (by rw [← hs2]; exact usift_any W1 g cap (Sort.swp e a f) ex ro 0 k' a (by omega) (by omega) (by omega))
          obtain ⟨e2, he2⟩ : ∃ e2, e2 = Sort.siftDown lti k' a 0 (Sort.swp e a f) := ⟨_, rfl⟩
          rw [← he2] at HC
          have HS2 : Hid (e2.size = n) := hide (by rw [he2, sift_size]; exact hs2)
          have HL2 : Hid (Sort.heapPop lti a k' e2 = R) := hide (by rw [he2, hf]; exact HL.out)
          have HGR := hide (grew_trans HG.out gr)
          have HW1 := hide hW1
          clear hes he2 ro gr hW1 hs2 hf
          go_wp2
          go_region
          go_wp2_with fail
          rw [← HW1.out]
          refine HC.out.mono ?_
          rintro en w1 ⟨rfl, r1, g1⟩
          have HO1 := hide r1
          have HG1 := hide (grew_trans HGR.out g1)
          clear r1 g1 HC
          cases k' with
          | zero =>
            go_wp2
            go_roundw
            case rel => exact ⟨0, e2, by omega, .inr ⟨rfl, by simp⟩, HS2, HL2, HO1, HG1⟩
            case measure => simp [intOf]
          | succ k'' =>
            have q1 : ((k'' + 1 : Nat) : Int) - 1 = (k'' : Int) := by omega
            go_wp2
            go_roundw
            case rel => exact ⟨k'' + 1, e2, by omega, .inl ⟨k'', rfl, by simp⟩, HS2, HL2, HO1, HG1⟩
            case measure => simp [intOf]; omega
        · have HE : Hid (e = R) := hide HL.out
          go_wp2
          go_returns
          exact ⟨rfl, by rw [← HE.out]; exact HO.out, HG.out⟩
end Go.Proofs.Ytmkafoidfgaokaa
namespace Go.Proofs.Ytmkafoidfgaokaa
open Go.RowKit Apo
/-- the row as it is, and how many swaps there were -/
structure Sws (w : World) (g q : Nat) (d : Array Int) (ex : List Value) (s : Nat) : Prop where
  ro : Ro w g d ex
  ob : Ob w q 3 [.int .i64 s]
  ne : q ≠ g
theorem Sws.kept {w w' : World} {g q : Nat} {d : Array Int} {ex : List Value} {s s' : Nat} (h : Sws w g q d ex s) (hg : w.grownBy w' (some q)) (ho : Ob w' q 3 [.int .i64 s']) : Sws w' g q d ex s' := ⟨Ob.kept h.ro hg (by intro e; exact h.ne (Option.some.inj e)), ho, h.ne⟩
def OrP (w : World) (g q : Nat) (d : Array Int) (ex : List Value) (r : Nat × Nat × Nat) (e : Ending) (w' : World) : Prop := e = .returned (.tuple #[.int .i64 r.1, .int .i64 r.2.1]) ∧ Sws w' g q d ex r.2.2 ∧ w.grownBy w' (some q)
def MeP (w : World) (g q : Nat) (d : Array Int) (ex : List Value) (r : Nat × Nat) (e : Ending) (w' : World) : Prop := e = .returned (.int .i64 r.1) ∧ Sws w' g q d ex r.2 ∧ w.grownBy w' (some q)
set_option maxRecDepth 100000 in
set_option maxHeartbeats 800000 in
theorem uord_any (w : World) (g q cap : Nat) (d : Array Int) (ex : List Value) (s a b : Nat) (h : Sws w g q d ex s) (ha : a < d.size) (hb : b < d.size) (hs : s ≤ 1000) :
    Calls Try.prog 88 #[.slice (some ⟨g, 0, none⟩) d.size cap, .int .i64 a, .int .i64 b, .pointer (some ⟨q, 0, none⟩)] w (OrP w g q d ex (Sort.order2 lti d a b s)) := by
  have ca := h.ro.cell ha
  have cb := h.ro.cell hb
  obtain ⟨n, hnn⟩ : ∃ n, n = d.size := ⟨_, rfl⟩
  rw [← hnn] at ha hb ⊢
  obtain ⟨x, hx⟩ : ∃ x, x = d[a]! := ⟨_, rfl⟩
  obtain ⟨y, hy⟩ : ∃ y, y = d[b]! := ⟨_, rfl⟩
  rw [← hx] at ca
  rw [← hy] at cb
  have hcl := fun W' => less_any W' y x
  obtain ⟨R, hR⟩ : ∃ R, R = Sort.order2 lti d a b s := ⟨_, rfl⟩
  rw [← hR]
  unfold Sort.order2 at hR
  rw [← hx, ← hy] at hR
  have HH := hide h
  clear h hnn hx hy
  cases hlt : decide (y < x)
  · rw [hlt] at hcl
    have HCL := hide hcl
    have HR : Hid (R = (a, b, s)) := hide (by rw [hR, if_neg (by have : lti y x = false := hlt; rw [this]; simp)])
    clear hcl hlt hR
    go_enter Try.func88, Try.ntmps88
    go_wp2
    go_quiet (first | (go_at_call 77; with_reducible exact (HCL.out _).mono (fun _ _ h => ⟨h.1, _, h.2.symm⟩)))
    go_wp2
    refine bodyPost_ret (by simp [results, Try.results88, go_sem]; rfl) rfl ?_
    refine ⟨by rw [HR.out], ?_, grew_drewN _ _ _⟩
    rw [HR.out]
    exact HH.out.kept (grew_drewN _ _ _) (HH.out.ob.old (below_drewN (Below.refl _ _) _))
  · rw [hlt] at hcl
    have HCL := hide hcl
    have HR : Hid (R = (b, a, s + 1)) := hide (by rw [hR, if_pos (by have : lti y x = true := hlt; rw [this])])
    clear hcl hlt hR
    go_enter Try.func88, Try.ntmps88
    go_wp2
    go_quiet (first | (go_at_call 77; with_reducible exact (HCL.out _).mono (fun _ _ h => ⟨h.1, _, h.2.symm⟩)))
    obtain ⟨W2, hW2⟩ : ∃ W2, W2 = w.drewN nq := ⟨_, rfl⟩
    have hg2 : w.grownBy W2 (some q) := by rw [hW2]; exact grew_drewN _ _ _
    have hS2 : Sws W2 g q d ex s := HH.out.kept hg2 (by rw [hW2]; exact HH.out.ob.old (below_drewN (Below.refl _ _) _))
    rw [← hW2]
    clear hW2 ca cb
    have c0 := hS2.ob.cell 0
    have f0 := hS2.ob.frozen 0
    simp only [List.getElem?_cons_zero] at c0
    have hob : Ob (W2.setCell ⟨q, 0, none⟩ (.int .i64 (s + 1 : Nat))) q 3 [.int .i64 (s + 1 : Nat)] := hS2.ob.set 0 _
    have HF := hide (hS2.kept (grew_set W2 q 0 _) hob)
    have HG := hide (grew_trans hg2 (grew_set W2 q 0 (.int .i64 (s + 1 : Nat))))
    have hs1 : (s : Int) + 1 = ((s + 1 : Nat) : Int) := by omega
    clear hS2 hg2 hob
    obtain ⟨s1, hs2⟩ : ∃ s1, s1 = s + 1 := ⟨_, rfl⟩
    rw [← hs2] at hs1 HF HG HR
    clear hs2
    go_wp2
    refine bodyPost_ret (by simp [results, Try.results88, go_sem]; rfl) rfl ?_
    exact ⟨by rw [HR.out], by rw [HR.out]; exact HF.out, HG.out⟩
theorem order2_in (d : Array Int) (a b s : Nat) {n : Nat} (ha : a < n) (hb : b < n) : (Sort.order2 lti d a b s).1 < n ∧ (Sort.order2 lti d a b s).2.1 < n ∧ (Sort.order2 lti d a b s).2.2 ≤ s + 1 := by
  unfold Sort.order2
  split
  · exact ⟨hb, ha, by simp⟩
  · exact ⟨ha, hb, by simp⟩
set_option maxRecDepth 100000 in
set_option maxHeartbeats 800000 in
theorem umed_any (w : World) (g q cap : Nat) (d : Array Int) (ex : List Value) (s a b c : Nat) (h : Sws w g q d ex s) (ha : a < d.size) (hb : b < d.size) (hc : c < d.size) (hs : s ≤ 900) :
    Calls Try.prog 86 #[.slice (some ⟨g, 0, none⟩) d.size cap, .int .i64 a, .int .i64 b, .int .i64 c, .pointer (some ⟨q, 0, none⟩)] w (MeP w g q d ex (Sort.median lti d a b c s)) := by
  obtain ⟨n, hnn⟩ : ∃ n, n = d.size := ⟨_, rfl⟩
  obtain ⟨R1, hR1⟩ : ∃ R1, R1 = Sort.order2 lti d a b s := ⟨_, rfl⟩
  obtain ⟨R2, hR2⟩ : ∃ R2, R2 = Sort.order2 lti d R1.2.1 c R1.2.2 := ⟨_, rfl⟩
  obtain ⟨R3, hR3⟩ : ∃ R3, R3 = Sort.order2 lti d R1.1 R2.1 R2.2.2 := ⟨_, rfl⟩
  have i1 := order2_in d a b s ha hb
  rw [← hR1] at i1
  have i2 := order2_in d R1.2.1 c R1.2.2 i1.2.1 hc
  rw [← hR2] at i2
  have i3 := order2_in d R1.1 R2.1 R2.2.2 i1.1 i2.1
  rw [← hR3] at i3
  have HC1 := hide (uord_any w g q cap d ex s a b h ha hb (by omega))
  have HC2 := hide (fun (W : World) (hW : Sws W g q d ex R1.2.2) => uord_any W g q cap d ex R1.2.2 R1.2.1 c hW i1.2.1 hc (by omega))
  have HC3 := hide (fun (W : World) (hW : Sws W g q d ex R2.2.2) => uord_any W g q cap d ex R2.2.2 R1.1 R2.1 hW i1.1 i2.1 (by omega))
  rw [← hR1] at HC1
  rw [← hR2] at HC2
  rw [← hR3] at HC3
  have HM : Hid (Sort.median lti d a b c s = (R3.2.1, R3.2.2)) := hide (by unfold Sort.median; simp only; rw [← hR1, ← hR2, ← hR3])
  rw [← hnn] at HC1 HC2 HC3 ⊢
  rw [HM.out]
  obtain ⟨p1, p2, p3⟩ := R1
  obtain ⟨r1, r2, r3⟩ := R2
  obtain ⟨t1, t2, t3⟩ := R3
  simp only at *
  clear h ha hb hc i1 i2 i3 hR1 hR2 hR3 hnn HM hs
  go_enter Try.func86, Try.ntmps86
  go_wp2_with fail
  refine HC1.out.mono ?_
  rintro e w1 ⟨rfl, s1, g1⟩
  have HC2' := hide (HC2.out w1 s1)
  have HG1 := hide g1
  clear s1 g1 HC1 HC2
  go_wp2_with fail
  refine HC2'.out.mono ?_
  rintro e w2 ⟨rfl, s2, g2⟩
  have HC3' := hide (HC3.out w2 s2)
  have HG2 := hide (grew_trans HG1.out g2)
  clear s2 g2 HC2' HC3
  go_wp2_with fail
  refine HC3'.out.mono ?_
  rintro e w3 ⟨rfl, s3, g3⟩
  have HS3 := hide s3
  have HG3 := hide (grew_trans HG2.out g3)
  clear s3 g3 HC3'
  go_wp2
  go_ret
  exact ⟨rfl, HS3.out, HG3.out⟩
theorem median_in (d : Array Int) (a b c s : Nat) {n : Nat} (ha : a < n) (hb : b < n) (hc : c < n) : (Sort.median lti d a b c s).1 < n ∧ (Sort.median lti d a b c s).2 ≤ s + 3 := by
  have i1 := order2_in d a b s ha hb
  have i2 := order2_in d (Sort.order2 lti d a b s).2.1 c (Sort.order2 lti d a b s).2.2 i1.2.1 hc
  have i3 := order2_in d (Sort.order2 lti d a b s).1 (Sort.order2 lti d (Sort.order2 lti d a b s).2.1 c (Sort.order2 lti d a b s).2.2).1 (Sort.order2 lti d (Sort.order2 lti d a b s).2.1 c (Sort.order2 lti d a b s).2.2).2.2 i1.1 i2.1
  exact ⟨i3.2.1, by show _ ≤ _; have := i3.2.2; have := i2.2.2; have := i1.2.2; unfold Sort.median; simp only; omega⟩
set_option maxRecDepth 100000 in
set_option maxHeartbeats 800000 in
theorem uadj_any (w : World) (g q cap : Nat) (d : Array Int) (ex : List Value) (s a : Nat) (h : Sws w g q d ex s) (h1 : 1 ≤ a) (ha : a + 1 < d.size) (hs : s ≤ 900) (hn : d.size ≤ 1000000000) :
    Calls Try.prog 85 #[.slice (some ⟨g, 0, none⟩) d.size cap, .int .i64 a, .pointer (some ⟨q, 0, none⟩)] w (MeP w g q d ex (Sort.medianAdjacent lti d a s)) := by
  have HC := hide (umed_any w g q cap d ex s (a - 1) a (a + 1) h (by omega) (by omega) ha hs)
  obtain ⟨a1, ha1⟩ : ∃ a1, a1 = a - 1 := ⟨_, rfl⟩
  obtain ⟨a2, ha2⟩ : ∃ a2, a2 = a + 1 := ⟨_, rfl⟩
  have e1 : (a : Int) - 1 = (a1 : Int) := by omega
  have e2 : (a : Int) + 1 = (a2 : Int) := by omega
  have HM : Hid (Sort.medianAdjacent lti d a s = Sort.median lti d a1 a a2 s) := hide (by rw [ha1, ha2]; rfl)
  rw [HM.out]
  rw [← ha1, ← ha2] at HC
  generalize Sort.median lti d a1 a a2 s = R at *
  obtain ⟨n, hnn⟩ : ∃ n, n = d.size := ⟨_, rfl⟩
  rw [← hnn] at HC ha hn ⊢
  clear h hnn HM ha1 ha2
  go_enter Try.func85, Try.ntmps85
  go_wp2_with fail
  refine HC.out.mono ?_
  rintro e w1 ⟨rfl, s1, g1⟩
  have HS1 := hide s1
  have HG1 := hide g1
  clear s1 g1 HC
  go_wp2
  go_ret
  exact ⟨rfl, HS1.out, HG1.out⟩
end Go.Proofs.Ytmkafoidfgaokaa
namespace Go.Proofs.Ytmkafoidfgaokaa
open Go.RowKit Apo
def hintN : Sort.Hint → Int
  | .unknown => 0
  | .increasing => 1
  | .decreasing => 2
def ChPU (w : World) (g : Nat) (d : Array Int) (ex : List Value) (r : Nat × Sort.Hint) (e : Ending) (w' : World) : Prop := e = .returned (.tuple #[.int .i64 r.1, .int .i64 (hintN r.2)]) ∧ Ro w' g d ex ∧ Below w.heap.size w w'
theorem wrap_natU {k : Nat} (h : k ≤ 9000000000) : IntKind.i64.wrap (k : Int) = (k : Int) := by rw [IntKind.wrap_i64]; omega
set_option maxRecDepth 100000 in
set_option maxHeartbeats 1600000 in
theorem uchoose_any (w : World) (g cap : Nat) (d : Array Int) (ex : List Value) (h : Ro w g d ex) (a b : Nat) (hab : a + 8 ≤ b) (hb : b ≤ d.size) (hn : d.size ≤ 1000000000) :
    Calls Try.prog 74 #[.slice (some ⟨g, 0, none⟩) d.size cap, .int .i64 a, .int .i64 b] w (ChPU w g d ex (Sort.choosePivot lti d a b)) := by
  obtain ⟨n, hnn⟩ : ∃ n, n = d.size := ⟨_, rfl⟩
  obtain ⟨l, hl⟩ : ∃ l, l = b - a := ⟨_, rfl⟩
  obtain ⟨q4, hq4⟩ : ∃ q4, q4 = l / 4 := ⟨_, rfl⟩
  obtain ⟨q2, hq2⟩ : ∃ q2, q2 = q4 * 2 := ⟨_, rfl⟩
  obtain ⟨q3, hq3⟩ : ∃ q3, q3 = q4 * 3 := ⟨_, rfl⟩
  obtain ⟨i, hi⟩ : ∃ i, i = a + q4 := ⟨_, rfl⟩
  obtain ⟨j, hj⟩ : ∃ j, j = a + q2 := ⟨_, rfl⟩
  obtain ⟨k, hk⟩ : ∃ k, k = a + q3 := ⟨_, rfl⟩
  have m1 : (b : Int) - (a : Int) = (l : Int) := by omega
  have m2 := wrap_natU (k := l) (by omega)
  have m3 : (l : Int) / 4 = (q4 : Int) := by omega
  have m4 : Int.tdiv (l : Int) 4 = (q4 : Int) := by rw [Int.tdiv_eq_ediv_of_nonneg (by omega)]; omega
  have m5 := wrap_natU (k := q4) (by omega)
  have m6 : (q4 : Int) * 2 = (q2 : Int) := by omega
  have m7 : (q4 : Int) * 3 = (q3 : Int) := by omega
  have m8 := wrap_natU (k := q2) (by omega)
  have m9 := wrap_natU (k := q3) (by omega)
  have m10 : (a : Int) + (q4 : Int) = (i : Int) := by omega
  have m11 : (a : Int) + (q2 : Int) = (j : Int) := by omega
  have m12 : (a : Int) + (q3 : Int) = (k : Int) := by omega
  have m13 := wrap_natU (k := i) (by omega)
  have m14 := wrap_natU (k := j) (by omega)
  have m15 := wrap_natU (k := k) (by omega)
  have d1 : decide ((8 : Int) ≤ (l : Int)) = true := by simp; omega
  have d2 : decide (8 ≤ l) = true := by simp; omega
  obtain ⟨W0, hW0⟩ : ∃ W0, W0 = w.alloc (.cells #[.int .i64 0] 3) := ⟨_, rfl⟩
  have b0 : Below w.heap.size w W0 := by rw [hW0]; exact (Below.refl _ _).alloc (Nat.le_refl _) _
  have s0 : W0.heap.size = w.heap.size + 1 := by rw [hW0]; simp
  have hq : Sws W0 g w.heap.size d ex 0 := ⟨h.old b0, by rw [hW0]; exact Ob.new w [.int .i64 0] 3, by have := h.lt; omega⟩
  have hgs := h.lt
  have HB0 := hide b0
  have hin : i < n ∧ j < n ∧ k + 1 < n ∧ 1 ≤ i := by omega
  obtain ⟨R, hR⟩ : ∃ R, R = Sort.choosePivot lti d a b := ⟨_, rfl⟩
  rw [← hR]
  unfold Sort.choosePivot at hR
  simp only at hR
  rw [← hl, if_pos (show l ≥ 8 by omega), ← hq4, ← hq2, ← hq3, Nat.mul_one, ← hi, ← hj, ← hk] at hR
  have HEND : Hid (∀ (W : World) (r : Nat × Nat), Sws W g w.heap.size d ex r.2 → W0.grownBy W (some w.heap.size) → Ro W g d ex ∧ Below w.heap.size w W) := hide (fun W r hs hg => ⟨hs.ro, HB0.out.grown hg (by omega) (fun z hz => by cases hz; omega)⟩)
  by_cases hbig : 50 ≤ l
  · have d3 : decide ((50 : Int) ≤ (l : Int)) = true := by simp; omega
    have d4 : decide (50 ≤ l) = true := by simp; omega
    rw [if_pos hbig] at hR
    obtain ⟨A, hA⟩ : ∃ A, A = Sort.medianAdjacent lti d i 0 := ⟨_, rfl⟩
    rw [← hA] at hR
    obtain ⟨B, hB⟩ : ∃ B, B = Sort.medianAdjacent lti d j A.2 := ⟨_, rfl⟩
    rw [← hB] at hR
    obtain ⟨C, hC⟩ : ∃ C, C = Sort.medianAdjacent lti d k B.2 := ⟨_, rfl⟩
    rw [← hC] at hR
    obtain ⟨M, hM⟩ : ∃ M, M = Sort.median lti d A.1 B.1 C.1 C.2 := ⟨_, rfl⟩
    rw [← hM] at hR
    have iA := median_in d (i - 1) i (i + 1) 0 (n := n) (by omega) (by omega) (by omega)
    have eA : Sort.medianAdjacent lti d i 0 = Sort.median lti d (i - 1) i (i + 1) 0 := rfl
    rw [← eA, ← hA] at iA
    have iB := median_in d (j - 1) j (j + 1) A.2 (n := n) (by omega) (by omega) (by omega)
    have eB : Sort.medianAdjacent lti d j A.2 = Sort.median lti d (j - 1) j (j + 1) A.2 := rfl
    rw [← eB, ← hB] at iB
    have iC := median_in d (k - 1) k (k + 1) B.2 (n := n) (by omega) (by omega) (by omega)
    have eC : Sort.medianAdjacent lti d k B.2 = Sort.median lti d (k - 1) k (k + 1) B.2 := rfl
    rw [← eC, ← hC] at iC
    have HC1 := hide (uadj_any W0 g w.heap.size cap d ex 0 i hq (by omega) (by omega) (by omega) (by omega))
    have HC2 := hide (fun (W : World) (hW : Sws W g w.heap.size d ex A.2) => uadj_any W g w.heap.size cap d ex A.2 j hW (by omega) (by omega) (by omega) (by omega))
    have HC3 := hide (fun (W : World) (hW : Sws W g w.heap.size d ex B.2) => uadj_any W g w.heap.size cap d ex B.2 k hW (by omega) (by omega) (by omega) (by omega))
    have HC4 := hide (fun (W : World) (hW : Sws W g w.heap.size d ex C.2) => umed_any W g w.heap.size cap d ex C.2 A.1 B.1 C.1 hW (by omega) (by omega) (by omega) (by omega))
    rw [← hA] at HC1
    rw [← hB] at HC2
    rw [← hC] at HC3
    rw [← hM] at HC4
    rw [← hnn] at HC1 HC2 HC3 HC4 ⊢
    obtain ⟨A1, A2⟩ := A
    obtain ⟨B1, B2⟩ := B
    obtain ⟨C1, C2⟩ := C
    obtain ⟨M1, M2⟩ := M
    simp only at *
    have HR := hide hR
    rw [hW0] at HC1
    clear h hR hA hB hC hM iA iB iC eA eB eC hnn hl hq4 hq2 hq3 hi hj hk b0 hq hbig
    go_enter Try.func74, Try.ntmps74
    go_wp2_with fail
    refine HC1.out.mono ?_
    rintro e w1 ⟨rfl, s1, g1⟩
    rw [← hW0] at g1
    have HC2' := hide (HC2.out w1 s1)
    have HG1 := hide g1
    clear s1 g1 HC1 HC2
    go_wp2_with fail
    refine HC2'.out.mono ?_
    rintro e w2 ⟨rfl, s2, g2⟩
    have HC3' := hide (HC3.out w2 s2)
    have HG2 := hide (grew_trans HG1.out g2)
    clear s2 g2 HC2' HC3
    go_wp2_with fail
    refine HC3'.out.mono ?_
    rintro e w3 ⟨rfl, s3, g3⟩
    have HC4' := hide (HC4.out w3 s3)
    have HG3 := hide (grew_trans HG2.out g3)
    clear s3 g3 HC3' HC4
    go_wp2_with fail
    refine HC4'.out.mono ?_
    rintro e w4 ⟨rfl, s4, g4⟩
    have HEE := hide (HEND.out w4 (M1, M2) s4 (grew_trans HG3.out g4))
    have c0 := s4.ob.cell 0
    simp only [List.getElem?_cons_zero] at c0
    clear s4 g4 HC4'
    by_cases z0 : M2 = 0
    · subst z0
      have HX : Hid (R = (M1, .increasing)) := hide (by rw [HR.out]; simp)
      go_wp2
      refine bodyPost_ret (by simp [results, Try.results74, go_sem]; rfl) rfl ?_
      exact ⟨by rw [HX.out]; rfl, HEE.out.1, HEE.out.2⟩
    · have e0 : ((M2 : Int) == 0) = false := by rw [beq_eq_false_iff_ne]; omega
      have e1 : (M2 == 0) = false := by rw [beq_eq_false_iff_ne]; omega
      by_cases z1 : M2 = 12
      · have HX : Hid (R = (M1, .decreasing)) := hide (by rw [HR.out, if_neg z0, if_pos z1])
        have e2 : ((M2 : Int) == 12) = true := by rw [beq_iff_eq]; omega
        have e3 : (M2 == 12) = true := by rw [beq_iff_eq]; omega
        clear z0 z1
        go_wp2
        refine bodyPost_ret (by simp [results, Try.results74, go_sem]; rfl) rfl ?_
        exact ⟨by rw [HX.out]; rfl, HEE.out.1, HEE.out.2⟩
      · have HX : Hid (R = (M1, .unknown)) := hide (by rw [HR.out, if_neg z0, if_neg z1])
        have e2 : ((M2 : Int) == 12) = false := by rw [beq_eq_false_iff_ne]; omega
        have e3 : (M2 == 12) = false := by rw [beq_eq_false_iff_ne]; omega
        clear z0 z1
        go_wp2
        refine bodyPost_ret (by simp [results, Try.results74, go_sem]; rfl) rfl ?_
        exact ⟨by rw [HX.out]; rfl, HEE.out.1, HEE.out.2⟩
  · have d3 : decide ((50 : Int) ≤ (l : Int)) = false := by simp; omega
    have d4 : decide (50 ≤ l) = false := by simp; omega
    rw [if_neg hbig] at hR
    obtain ⟨M, hM⟩ : ∃ M, M = Sort.median lti d i j k 0 := ⟨_, rfl⟩
    rw [← hM] at hR
    have HC4 := hide (umed_any W0 g w.heap.size cap d ex 0 i j k hq (by omega) (by omega) (by omega) (by omega))
    rw [← hM] at HC4
    rw [← hnn] at HC4 ⊢
    obtain ⟨M1, M2⟩ := M
    simp only at *
    have HR := hide hR
    rw [hW0] at HC4
    clear h hR hM hnn hl hq4 hq2 hq3 hi hj hk b0 hq hbig
    go_enter Try.func74, Try.ntmps74
    go_wp2_with fail
    refine HC4.out.mono ?_
    rintro e w4 ⟨rfl, s4, g4⟩
    rw [← hW0] at g4
    have HEE := hide (HEND.out w4 (M1, M2) s4 g4)
    have c0 := s4.ob.cell 0
    simp only [List.getElem?_cons_zero] at c0
    clear s4 g4 HC4
    by_cases z0 : M2 = 0
    · subst z0
      have HX : Hid (R = (M1, .increasing)) := hide (by rw [HR.out]; simp)
      go_wp2
      refine bodyPost_ret (by simp [results, Try.results74, go_sem]; rfl) rfl ?_
      exact ⟨by rw [HX.out]; rfl, HEE.out.1, HEE.out.2⟩
    · have e0 : ((M2 : Int) == 0) = false := by rw [beq_eq_false_iff_ne]; omega
      have e1 : (M2 == 0) = false := by rw [beq_eq_false_iff_ne]; omega
      by_cases z1 : M2 = 12
      · have HX : Hid (R = (M1, .decreasing)) := hide (by rw [HR.out, if_neg z0, if_pos z1])
        have e2 : ((M2 : Int) == 12) = true := by rw [beq_iff_eq]; omega
        have e3 : (M2 == 12) = true := by rw [beq_iff_eq]; omega
        clear z0 z1
        go_wp2
        refine bodyPost_ret (by simp [results, Try.results74, go_sem]; rfl) rfl ?_
        exact ⟨by rw [HX.out]; rfl, HEE.out.1, HEE.out.2⟩
      · have HX : Hid (R = (M1, .unknown)) := hide (by rw [HR.out, if_neg z0, if_neg z1])
        have e2 : ((M2 : Int) == 12) = false := by rw [beq_eq_false_iff_ne]; omega
        have e3 : (M2 == 12) = false := by rw [beq_eq_false_iff_ne]; omega
        clear z0 z1
        go_wp2
        refine bodyPost_ret (by simp [results, Try.results74, go_sem]; rfl) rfl ?_
        exact ⟨by rw [HX.out]; rfl, HEE.out.1, HEE.out.2⟩
end Go.Proofs.Ytmkafoidfgaokaa
