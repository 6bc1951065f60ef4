/- slices.partitionEqualOrdered at 64-bit numbers, over the translation. -/
import Derived.Test.YtmkafoidfgaokaaQS2
namespace Go.Proofs.Ytmkafoidfgaokaa
open Go.RowKit Apo
theorem up_res {p : Int → Bool} {e : Array Int} {j : Nat} : ∀ (m i : Nat), j + 1 - i ≤ m → Sort.scanUp p e j i ≤ j → p e[Sort.scanUp p e j i]! = false
  | m, i, hm, h => by
    by_cases hc : i ≤ j ∧ p e[i]! = true
    · have e1 : Sort.scanUp p e j i = Sort.scanUp p e j (i + 1) := by rw [Sort.scanUp, if_pos (by simp [hc.1, hc.2])]
      cases m with
      | zero => omega
      | succ m =>
        rw [e1] at h ⊢
        exact up_res m (i + 1) (by omega) h
    · have e1 : Sort.scanUp p e j i = i := by
        rw [Sort.scanUp, if_neg]
        simpa using hc
      rw [e1] at h ⊢
      cases q : p e[i]!
      · rfl
      · exact absurd ⟨h, q⟩ hc
theorem dn_res {p : Int → Bool} {e : Array Int} {i : Nat} (h1 : 1 ≤ i) : ∀ j, i ≤ Sort.scanDown p e i j → p e[Sort.scanDown p e i j]! = false
  | 0, h => by simp [Sort.scanDown] at h; omega
  | j + 1, h => by
    by_cases hc : i ≤ j + 1 ∧ p e[j + 1]! = true
    · have e1 : Sort.scanDown p e i (j + 1) = Sort.scanDown p e i j := by rw [Sort.scanDown, if_pos (by simp [hc.1, hc.2])]
      rw [e1] at h ⊢
      exact dn_res h1 j h
    · have e1 : Sort.scanDown p e i (j + 1) = j + 1 := by
        rw [Sort.scanDown, if_neg]
        simpa using hc
      rw [e1] at h ⊢
      cases q : p e[j + 1]!
      · rfl
      · exact absurd ⟨h, q⟩ hc
/-- the two scans never stop at one place -/
theorem scans_apart {p : Int → Bool} {e : Array Int} {i j i2 j2 : Nat} (h1 : Sort.scanUp p e j i = i2) (h2 : Sort.scanDown (fun x => !p x) e i2 j = j2) (hi : 1 ≤ i2) (hj : j2 ≤ j) : i2 ≠ j2 := by
  intro q
  have r1 := up_res (p := p) (e := e) (j := j) _ i (Nat.le_refl _) (by rw [h1]; omega)
  have r2 := dn_res (p := fun x => !p x) (e := e) hi j (by rw [h2]; omega)
  rw [h1] at r1
  rw [h2, ← q] at r2
  simp [r1] at r2
theorem up_stop {p : Int → Bool} {e : Array Int} {i j : Nat} (h : ¬ i ≤ j ∨ p e[i]! = false) : Sort.scanUp p e j i = i := by
  rw [Sort.scanUp, if_neg]
  rcases h with h | h
  · simp [h]
  · simp [h]
theorem up_step {p : Int → Bool} {e : Array Int} {i j : Nat} (h : i ≤ j) (h2 : p e[i]! = true) : Sort.scanUp p e j i = Sort.scanUp p e j (i + 1) := by
  rw [Sort.scanUp, if_pos (by simp [h, h2])]
theorem dn_stop {p : Int → Bool} {e : Array Int} {i j : Nat} (h : ¬ i ≤ j ∨ p e[j]! = false) : Sort.scanDown p e i j = j := by
  cases j with
  | zero => rfl
  | succ j =>
    rw [Sort.scanDown, if_neg]
    rcases h with h | h
    · simp; intro q; omega
    · simp [h]
theorem dn_step {p : Int → Bool} {e : Array Int} {i j : Nat} (h : i ≤ j) (h0 : 0 < j) (h2 : p e[j]! = true) : Sort.scanDown p e i j = Sort.scanDown p e i (j - 1) := by
  cases j with
  | zero => omega
  | succ j => rw [Sort.scanDown, if_pos (by simp [h2]; omega)]; rfl
theorem pe_end {a i j i2 j2 : Nat} {e : Array Int} (h1 : Sort.scanUp (fun x => !lti e[a]! x) e j i = i2) (h2 : Sort.scanDown (fun x => lti e[a]! x) e i2 j = j2) (h : j2 < i2) : Sort.partEqLoop lti a i j e = (i2, e) := by
  rw [Sort.partEqLoop]
  simp only [h1, h2]
  rw [if_pos (by omega)]
theorem pe_step {a i j i2 j2 : Nat} {e : Array Int} (h1 : Sort.scanUp (fun x => !lti e[a]! x) e j i = i2) (h2 : Sort.scanDown (fun x => lti e[a]! x) e i2 j = j2) (h : i2 ≤ j2) (hi : i ≤ i2) (hj : j2 ≤ j) : Sort.partEqLoop lti a i j e = Sort.partEqLoop lti a (i2 + 1) (j2 - 1) (Sort.swp e i2 j2) := by
  rw [Sort.partEqLoop]
  simp only [h1, h2]
  rw [if_neg (by omega), dif_pos (by omega)]
def PeP (w : World) (g : Nat) (ex : List Value) (r : Nat × Array Int) (e : Ending) (w' : World) : Prop := e = .returned (.int .i64 r.1) ∧ Ro w' g r.2 ex ∧ w.grownBy w' (some g)
set_option maxRecDepth 100000 in
set_option maxHeartbeats 3000000 in
theorem upeq_any (w : World) (g cap : Nat) (d : Array Int) (ex : List Value) (h : Ro w g d ex) (a b pivot : Nat) (hab : a ≤ pivot) (hpb : pivot < b) (hb : b ≤ d.size) (hn : d.size ≤ 1000000000) :
    Calls Try.prog 78 #[.slice (some ⟨g, 0, none⟩) d.size cap, .int .i64 a, .int .i64 b, .int .i64 pivot] w (PeP w g ex (Sort.partitionEqual lti d a b pivot)) := by
  obtain ⟨n, hnn⟩ : ∃ n, n = d.size := ⟨_, rfl⟩
  obtain ⟨R, hR⟩ : ∃ R, R = Sort.partitionEqual lti d a b pivot := ⟨_, rfl⟩
  rw [← hR]
  obtain ⟨x0, y0, F0⟩ := h.sw (i := a) (j := pivot) (by omega) (by omega)
  obtain ⟨ci, cj, fi, cj2, fj2, ro, gr⟩ := F0
  rw [← hnn] at hb hn ⊢
  obtain ⟨W0, hW0⟩ : ∃ W0, W0 = ((w.setCell ⟨g, a, none⟩ (.int .u64 y0)).setCell ⟨g, pivot, none⟩ (.int .u64 x0)).drew := ⟨_, rfl⟩
  rw [← hW0] at ro gr
  obtain ⟨e0, he0⟩ : ∃ e0, e0 = Sort.swp d a pivot := ⟨_, rfl⟩
  rw [← he0] at ro
  have HW0 := hide hW0
  have HO0 := hide ro
  have HG0 := hide gr
  have HS0 : Hid (e0.size = n) := hide (by rw [he0, swp_size]; exact hnn.symm)
  obtain ⟨a1, ha1⟩ : ∃ a1, a1 = a + 1 := ⟨_, rfl⟩
  obtain ⟨b1, hb1⟩ : ∃ b1, b1 = b - 1 := ⟨_, rfl⟩
  have u1 : (a : Int) + 1 = (a1 : Int) := by omega
  have u2 : (b : Int) - 1 = (b1 : Int) := by omega
  have han : a < n := by omega
  have hpn : pivot < n := by omega
  have hr1 : a1 ≤ b1 + 1 ∧ a < a1 ∧ b1 < n ∧ a ≤ b1 := by omega
  have HR : Hid (Sort.partEqLoop lti a a1 b1 e0 = R) := hide (by rw [hR, he0, ha1, hb1]; rfl)
  clear h hR hnn ro gr hW0 he0 ha1 hb1
  go_enter Try.func78, Try.ntmps78
  go_wp2
  go_region
  rw [← HW0.out]
  clear HW0 ci cj fi cj2 fj2
  go_wp2
  go_loopw [9, 10] (fun vi vj wr => ∃ (i j : Nat) (e : Array Int), a < i ∧ i ≤ j + 2 ∧ j < n ∧ vi = .int .i64 i ∧ vj = .int .i64 j ∧ Hid (e.size = n) ∧ Hid (Sort.partEqLoop lti a i j e = R) ∧ Hid (Ro wr g e ex) ∧ Hid (w.grownBy wr (some g))) (fun vi vj _ => (intOf vj + 2 - intOf vi).toNat)
  case atStart => exact ⟨a1, b1, e0, by omega, by omega, by omega, rfl, rfl, HS0, HR, HO0, HG0⟩
  case round =>
    obtain ⟨i0, j0, e, hq1, hq2, hq3, rfl, rfl, HS, HL, HO, HG⟩ := hrel
    clear HR HO0 HG0 HS0
    obtain ⟨I2, hI2⟩ : ∃ I2, I2 = Sort.scanUp (fun x => !lti e[a]! x) e j0 i0 := ⟨_, rfl⟩
    have HI : Hid (Sort.scanUp (fun x => !lti e[a]! x) e j0 i0 = I2) := hide hI2.symm
    clear hI2
    go_wp2
    go_loopw [9] (fun vi wr => ∃ i : Nat, i0 ≤ i ∧ i ≤ j0 + 2 ∧ vi = .int .i64 i ∧ Hid (Sort.scanUp (fun x => !lti e[a]! x) e j0 i = I2) ∧ Hid (Ro wr g e ex) ∧ Hid (w.grownBy wr (some g))) (fun vi _ => j0 + 2 + 1 - (intOf vi).toNat)
    case atStart => exact ⟨i0, Nat.le_refl _, by omega, rfl, HI, HO, HG⟩
    case round =>
      clear HO HG
      obtain ⟨i, hl1, hl2, rfl, HX, HO, HG⟩ := hrel
      have hes := HS.out
      by_cases hc : i ≤ j0
      · have d1 : decide ((i : Int) ≤ (j0 : Int)) = true := by simp; omega
        have d2 : decide (i ≤ j0) = true := by simp; omega
        have hxn : i < n := by omega
        have ca := HO.out.cell (i := a) (by omega)
        have cx := HO.out.cell (i := i) (by omega)
        obtain ⟨pv, hpv⟩ : ∃ pv, pv = e[a]! := ⟨_, rfl⟩
        obtain ⟨xv, hxv⟩ : ∃ xv, xv = e[i]! := ⟨_, rfl⟩
        rw [← hpv] at ca
        rw [← hxv] at cx
        have hcl := fun W' => less_any W' pv xv
        cases hlt : decide (pv < xv)
        · rw [hlt] at hcl
          have HCL := hide hcl
          have hpe : (fun x => !lti e[a]! x) e[i]! = true := by
            show (!(lti _ _)) = _
            rw [← hpv, ← hxv]
            show (!(decide (pv < xv))) = _
            rw [hlt]
            rfl
          have HX2 : Hid (Sort.scanUp (fun x => !lti e[a]! x) e j0 (i + 1) = I2) := hide (by rw [← up_step (p := fun x => !lti e[a]! x) hc hpe]; exact HX.out)
          clear hcl hlt hpe hpv hxv hes
          go_wp2
          go_quiet (first | (go_at_call 77; with_reducible exact (HCL.out _).mono (fun _ _ h => ⟨h.1, _, h.2.symm⟩)))
          go_wp2
          go_roundw
          case rel => exact ⟨i + 1, by omega, by omega, by simp, HX2, hide (HO.out.old (below_drewN (Below.refl _ _) _)), hide (grew_trans HG.out (grew_drewN _ _ _))⟩
          case measure => simp [intOf]; omega
        · rw [hlt] at hcl
          have HCL := hide hcl
          have hpe : (fun x => !lti e[a]! x) e[i]! = false := by
            show (!(lti _ _)) = _
            rw [← hpv, ← hxv]
            show (!(decide (pv < xv))) = _
            rw [hlt]
            rfl
          have HXX : Hid (i = I2) := hide (by rw [← HX.out, up_stop (p := fun x => !lti e[a]! x) (.inr hpe)])
          clear hcl hlt hpe hpv hxv hes
          go_wp2
          go_quiet (first | (go_at_call 77; with_reducible exact (HCL.out _).mono (fun _ _ h => ⟨h.1, _, h.2.symm⟩)))
          have HOQ := hide (HO.out.old (below_drewN (Below.refl _ _) nq))
          have HGQ := hide (grew_trans HG.out (grew_drewN _ nq _))
          clear ca cx
          obtain ⟨WQ, hWQ⟩ : ∃ WQ, WQ = wr.drewN nq := ⟨_, rfl⟩
          rw [← hWQ] at HOQ HGQ ⊢
          clear hWQ
          have hi2 := HXX.out
          subst hi2
          clear HXX
          obtain ⟨i2, hi2⟩ : ∃ i2, i2 = i := ⟨_, rfl⟩
          subst hi2
          have HI2 : Hid (Sort.scanUp (fun x => !lti e[a]! x) e j0 i0 = i2) := HI
          obtain ⟨J2, hJ2⟩ : ∃ J2, J2 = Sort.scanDown (fun x => lti e[a]! x) e i2 j0 := ⟨_, rfl⟩
          have HX0 : Hid (Sort.scanDown (fun x => lti e[a]! x) e i2 j0 = J2) := hide hJ2.symm
          have HO := HOQ
          have HG := HGQ
          clear hJ2 HOQ HGQ
          go_wp2
          go_loopw [10] (fun vj wr => ∃ j : Nat, i2 - 2 ≤ j ∧ j ≤ j0 ∧ vj = .int .i64 j ∧ Hid (Sort.scanDown (fun x => lti e[a]! x) e i2 j = J2) ∧ Hid (Ro wr g e ex) ∧ Hid (w.grownBy wr (some g))) (fun vj _ => (intOf vj).toNat)
          case atStart => exact ⟨j0, by omega, Nat.le_refl _, rfl, HX0, HO, HG⟩
          case round =>
            clear HO HG
            obtain ⟨j, hl1, hl2, rfl, HX, HO, HG⟩ := hrel
            have hes := HS.out
            by_cases hc : i2 ≤ j
            · have d1 : decide ((i2 : Int) ≤ (j : Int)) = true := by simp; omega
              have d2 : decide (i2 ≤ j) = true := by simp; omega
              have hxn : j < n := by omega
              have ca := HO.out.cell (i := a) (by omega)
              have cx := HO.out.cell (i := j) (by omega)
              obtain ⟨pv, hpv⟩ : ∃ pv, pv = e[a]! := ⟨_, rfl⟩
              obtain ⟨xv, hxv⟩ : ∃ xv, xv = e[j]! := ⟨_, rfl⟩
              rw [← hpv] at ca
              rw [← hxv] at cx
              have hcl := fun W' => less_any W' pv xv
              cases hlt : decide (pv < xv)
              · rw [hlt] at hcl
                have HCL := hide hcl
                have hpe : (fun x => lti e[a]! x) e[j]! = false := by
                  show ((lti _ _)) = _
                  rw [← hpv, ← hxv]
                  show ((decide (pv < xv))) = _
                  rw [hlt]
                have HXX : Hid (j = J2) := hide (by rw [← HX.out, dn_stop (p := fun x => lti e[a]! x) (.inr hpe)])
                clear hcl hlt hpe hpv hxv hes
                go_wp2
                go_quiet (first | (go_at_call 77; with_reducible exact (HCL.out _).mono (fun _ _ h => ⟨h.1, _, h.2.symm⟩)))
                have HOQ := hide (HO.out.old (below_drewN (Below.refl _ _) nq))
                have HGQ := hide (grew_trans HG.out (grew_drewN _ nq _))
                clear ca cx
                obtain ⟨WQ, hWQ⟩ : ∃ WQ, WQ = wr.drewN nq := ⟨_, rfl⟩
                rw [← hWQ] at HOQ HGQ ⊢
                clear hWQ
                have hj2 := HXX.out
                subst hj2
                clear HXX
                by_cases hgt : j < i2
                · have g1 : decide ((j : Int) < (i2 : Int)) = true := by simp; omega
                  have g2 : decide (j < i2) = true := by simp; omega
                  have HE : Hid (R = (i2, e)) := hide (by rw [← HL.out]; exact pe_end HI2.out HX0.out hgt)
                  clear hgt
                  go_wp2
                  go_ret
                  exact ⟨by rw [HE.out]; rfl, by rw [HE.out]; exact HOQ.out, HGQ.out⟩
                · have g1 : decide ((j : Int) < (i2 : Int)) = false := by simp; omega
                  have g2 : decide (j < i2) = false := by simp; omega
                  have hnq : i2 ≠ j := scans_apart (p := fun x => !lti e[a]! x) HI2.out (by simpa using HX0.out) (by omega) (by omega)
                  have hlt9 : i2 < j := by omega
                  have HE : Hid (Sort.partEqLoop lti a (i2 + 1) (j - 1) (Sort.swp e i2 j) = R) := hide (by rw [← HL.out]; exact (pe_step HI2.out HX0.out (by omega) (by omega) (by omega)).symm)
                  have HS2 : Hid ((Sort.swp e i2 j).size = n) := hide (by rw [swp_size]; exact HS.out)
                  obtain ⟨x', y', F⟩ := HOQ.out.sw (i := i2) (j := j) (by have := HS.out; omega) (by have := HS.out; omega)
                  obtain ⟨ci, cj, fi, cj2, fj2, ro, gr⟩ := F
                  have HO2 := hide ro
                  have HG2 := hide (grew_trans HGQ.out gr)
                  clear ro gr
                  obtain ⟨j3, hj3⟩ : ∃ j3, j3 = j - 1 := ⟨_, rfl⟩
                  have e5 : (j : Int) - 1 = (j3 : Int) := by omega
                  rw [← hj3] at HE
                  have hjn : j < n := by omega
                  have hin : i2 < n := by omega
                  have hfin : a < i2 + 1 ∧ i2 + 1 ≤ j3 + 2 ∧ j3 < n ∧ j3 < j ∧ 1 ≤ i2 ∧ 1 ≤ j := by omega
                  clear hgt hj3
                  go_wp2
                  go_region
                  all_goals
                    go_wp2
                    go_roundw
                    case rel => exact ⟨i2 + 1, j3, Sort.swp e i2 j, by omega, by omega, by omega, by simp, by simp, HS2, HE, HO2, HG2⟩
                    case measure => simp [intOf]; omega
              · rw [hlt] at hcl
                have HCL := hide hcl
                have hpe : (fun x => lti e[a]! x) e[j]! = true := by
                  show ((lti _ _)) = _
                  rw [← hpv, ← hxv]
                  show ((decide (pv < xv))) = _
                  rw [hlt]
                obtain ⟨j1, hj1⟩ : ∃ j1, j1 = j - 1 := ⟨_, rfl⟩
                have e1 : (j : Int) - 1 = (j1 : Int) := by omega
                have HX2 : Hid (Sort.scanDown (fun x => lti e[a]! x) e i2 j1 = J2) := hide (by rw [hj1, ← dn_step (p := fun x => lti e[a]! x) hc (by omega) hpe]; exact HX.out)
                have hlx : i2 - 2 ≤ j1 ∧ j1 ≤ j0 ∧ j1 < j := by omega
                clear hcl hlt hpe hpv hxv hes hj1
                go_wp2
                go_quiet (first | (go_at_call 77; with_reducible exact (HCL.out _).mono (fun _ _ h => ⟨h.1, _, h.2.symm⟩)))
                go_wp2
                go_roundw
                case rel => exact ⟨j1, by omega, by omega, by simp, HX2, hide (HO.out.old (below_drewN (Below.refl _ _) _)), hide (grew_trans HG.out (grew_drewN _ _ _))⟩
                case measure => simp [intOf]; omega
            · have d1 : decide ((i2 : Int) ≤ (j : Int)) = false := by simp; omega
              have d2 : decide (i2 ≤ j) = false := by simp; omega
              have HXX : Hid (j = J2) := hide (by rw [← HX.out, dn_stop (p := fun x => lti e[a]! x) (.inl hc)])
              clear hes
              go_wp2
              go_quiet (fail)
              have HOQ := hide (HO.out.old (below_drewN (Below.refl _ _) nq))
              have HGQ := hide (grew_trans HG.out (grew_drewN _ nq _))
              obtain ⟨WQ, hWQ⟩ : ∃ WQ, WQ = wr.drewN nq := ⟨_, rfl⟩
              rw [← hWQ] at HOQ HGQ ⊢
              clear hWQ
              have hj2 := HXX.out
              subst hj2
              clear HXX
              by_cases hgt : j < i2
              · have g1 : decide ((j : Int) < (i2 : Int)) = true := by simp; omega
                have g2 : decide (j < i2) = true := by simp; omega
                have HE : Hid (R = (i2, e)) := hide (by rw [← HL.out]; exact pe_end HI2.out HX0.out hgt)
                clear hgt
                go_wp2
                go_ret
                exact ⟨by rw [HE.out]; rfl, by rw [HE.out]; exact HOQ.out, HGQ.out⟩
              · have g1 : decide ((j : Int) < (i2 : Int)) = false := by simp; omega
                have g2 : decide (j < i2) = false := by simp; omega
                have hnq : i2 ≠ j := scans_apart (p := fun x => !lti e[a]! x) HI2.out (by simpa using HX0.out) (by omega) (by omega)
                have hlt9 : i2 < j := by omega
                have HE : Hid (Sort.partEqLoop lti a (i2 + 1) (j - 1) (Sort.swp e i2 j) = R) := hide (by rw [← HL.out]; exact (pe_step HI2.out HX0.out (by omega) (by omega) (by omega)).symm)
                have HS2 : Hid ((Sort.swp e i2 j).size = n) := hide (by rw [swp_size]; exact HS.out)
                obtain ⟨x', y', F⟩ := HOQ.out.sw (i := i2) (j := j) (by have := HS.out; omega) (by have := HS.out; omega)
                obtain ⟨ci, cj, fi, cj2, fj2, ro, gr⟩ := F
                have HO2 := hide ro
                have HG2 := hide (grew_trans HGQ.out gr)
                clear ro gr
                obtain ⟨j3, hj3⟩ : ∃ j3, j3 = j - 1 := ⟨_, rfl⟩
                have e5 : (j : Int) - 1 = (j3 : Int) := by omega
                rw [← hj3] at HE
                have hjn : j < n := by omega
                have hin : i2 < n := by omega
                have hfin : a < i2 + 1 ∧ i2 + 1 ≤ j3 + 2 ∧ j3 < n ∧ j3 < j ∧ 1 ≤ i2 ∧ 1 ≤ j := by omega
                clear hgt hj3
                go_wp2
                go_region
                all_goals
                  go_wp2
                  go_roundw
                  case rel => exact ⟨i2 + 1, j3, Sort.swp e i2 j, by omega, by omega, by omega, by simp, by simp, HS2, HE, HO2, HG2⟩
                  case measure => simp [intOf]; omega
      · have d1 : decide ((i : Int) ≤ (j0 : Int)) = false := by simp; omega
        have d2 : decide (i ≤ j0) = false := by simp; omega
        have HXX : Hid (i = I2) := hide (by rw [← HX.out, up_stop (p := fun x => !lti e[a]! x) (.inl hc)])
        clear hes
        go_wp2
        go_quiet (fail)
        have HOQ := hide (HO.out.old (below_drewN (Below.refl _ _) nq))
        have HGQ := hide (grew_trans HG.out (grew_drewN _ nq _))
        obtain ⟨WQ, hWQ⟩ : ∃ WQ, WQ = wr.drewN nq := ⟨_, rfl⟩
        rw [← hWQ] at HOQ HGQ ⊢
        clear hWQ
        have hi2 := HXX.out
        subst hi2
        clear HXX
        obtain ⟨i2, hi2⟩ : ∃ i2, i2 = i := ⟨_, rfl⟩
        subst hi2
        have HI2 : Hid (Sort.scanUp (fun x => !lti e[a]! x) e j0 i0 = i2) := HI
        obtain ⟨J2, hJ2⟩ : ∃ J2, J2 = Sort.scanDown (fun x => lti e[a]! x) e i2 j0 := ⟨_, rfl⟩
        have HX0 : Hid (Sort.scanDown (fun x => lti e[a]! x) e i2 j0 = J2) := hide hJ2.symm
        have HO := HOQ
        have HG := HGQ
        clear hJ2 HOQ HGQ
        go_wp2
        go_loopw [10] (fun vj wr => ∃ j : Nat, i2 - 2 ≤ j ∧ j ≤ j0 ∧ vj = .int .i64 j ∧ Hid (Sort.scanDown (fun x => lti e[a]! x) e i2 j = J2) ∧ Hid (Ro wr g e ex) ∧ Hid (w.grownBy wr (some g))) (fun vj _ => (intOf vj).toNat)
        case atStart => exact ⟨j0, by omega, Nat.le_refl _, rfl, HX0, HO, HG⟩
        case round =>
          clear HO HG
          obtain ⟨j, hl1, hl2, rfl, HX, HO, HG⟩ := hrel
          have hes := HS.out
          by_cases hc : i2 ≤ j
          · have d1 : decide ((i2 : Int) ≤ (j : Int)) = true := by simp; omega
            have d2 : decide (i2 ≤ j) = true := by simp; omega
            have hxn : j < n := by omega
            have ca := HO.out.cell (i := a) (by omega)
            have cx := HO.out.cell (i := j) (by omega)
            obtain ⟨pv, hpv⟩ : ∃ pv, pv = e[a]! := ⟨_, rfl⟩
            obtain ⟨xv, hxv⟩ : ∃ xv, xv = e[j]! := ⟨_, rfl⟩
            rw [← hpv] at ca
            rw [← hxv] at cx
            have hcl := fun W' => less_any W' pv xv
            cases hlt : decide (pv < xv)
            · rw [hlt] at hcl
              have HCL := hide hcl
              have hpe : (fun x => lti e[a]! x) e[j]! = false := by
                show ((lti _ _)) = _
                rw [← hpv, ← hxv]
                show ((decide (pv < xv))) = _
                rw [hlt]
              have HXX : Hid (j = J2) := hide (by rw [← HX.out, dn_stop (p := fun x => lti e[a]! x) (.inr hpe)])
              clear hcl hlt hpe hpv hxv hes
              go_wp2
              go_quiet (first | (go_at_call 77; with_reducible exact (HCL.out _).mono (fun _ _ h => ⟨h.1, _, h.2.symm⟩)))
              have HOQ := hide (HO.out.old (below_drewN (Below.refl _ _) nq))
              have HGQ := hide (grew_trans HG.out (grew_drewN _ nq _))
              clear ca cx
              obtain ⟨WQ, hWQ⟩ : ∃ WQ, WQ = wr.drewN nq := ⟨_, rfl⟩
              rw [← hWQ] at HOQ HGQ ⊢
              clear hWQ
              have hj2 := HXX.out
              subst hj2
              clear HXX
              by_cases hgt : j < i2
              · have g1 : decide ((j : Int) < (i2 : Int)) = true := by simp; omega
                have g2 : decide (j < i2) = true := by simp; omega
                have HE : Hid (R = (i2, e)) := hide (by rw [← HL.out]; exact pe_end HI2.out HX0.out hgt)
                clear hgt
                go_wp2
                go_ret
                exact ⟨by rw [HE.out]; rfl, by rw [HE.out]; exact HOQ.out, HGQ.out⟩
              · have g1 : decide ((j : Int) < (i2 : Int)) = false := by simp; omega
                have g2 : decide (j < i2) = false := by simp; omega
                have hnq : i2 ≠ j := scans_apart (p := fun x => !lti e[a]! x) HI2.out (by simpa using HX0.out) (by omega) (by omega)
                have hlt9 : i2 < j := by omega
                have HE : Hid (Sort.partEqLoop lti a (i2 + 1) (j - 1) (Sort.swp e i2 j) = R) := hide (by rw [← HL.out]; exact (pe_step HI2.out HX0.out (by omega) (by omega) (by omega)).symm)
                have HS2 : Hid ((Sort.swp e i2 j).size = n) := hide (by rw [swp_size]; exact HS.out)
                obtain ⟨x', y', F⟩ := HOQ.out.sw (i := i2) (j := j) (by have := HS.out; omega) (by have := HS.out; omega)
                obtain ⟨ci, cj, fi, cj2, fj2, ro, gr⟩ := F
                have HO2 := hide ro
                have HG2 := hide (grew_trans HGQ.out gr)
                clear ro gr
                obtain ⟨j3, hj3⟩ : ∃ j3, j3 = j - 1 := ⟨_, rfl⟩
                have e5 : (j : Int) - 1 = (j3 : Int) := by omega
                rw [← hj3] at HE
                have hjn : j < n := by omega
                have hin : i2 < n := by omega
                have hfin : a < i2 + 1 ∧ i2 + 1 ≤ j3 + 2 ∧ j3 < n ∧ j3 < j ∧ 1 ≤ i2 ∧ 1 ≤ j := by omega
                clear hgt hj3
                go_wp2
                go_region
                all_goals
                  go_wp2
                  go_roundw
                  case rel => exact ⟨i2 + 1, j3, Sort.swp e i2 j, by omega, by omega, by omega, by simp, by simp, HS2, HE, HO2, HG2⟩
                  case measure => simp [intOf]; omega
            · rw [hlt] at hcl
              have HCL := hide hcl
              have hpe : (fun x => lti e[a]! x) e[j]! = true := by
                show ((lti _ _)) = _
                rw [← hpv, ← hxv]
                show ((decide (pv < xv))) = _
                rw [hlt]
              obtain ⟨j1, hj1⟩ : ∃ j1, j1 = j - 1 := ⟨_, rfl⟩
              have e1 : (j : Int) - 1 = (j1 : Int) := by omega
              have HX2 : Hid (Sort.scanDown (fun x => lti e[a]! x) e i2 j1 = J2) := hide (by rw [hj1, ← dn_step (p := fun x => lti e[a]! x) hc (by omega) hpe]; exact HX.out)
              have hlx : i2 - 2 ≤ j1 ∧ j1 ≤ j0 ∧ j1 < j := by omega
              clear hcl hlt hpe hpv hxv hes hj1
              go_wp2
              go_quiet (first | (go_at_call 77; with_reducible exact (HCL.out _).mono (fun _ _ h => ⟨h.1, _, h.2.symm⟩)))
              go_wp2
              go_roundw
              case rel => exact ⟨j1, by omega, by omega, by simp, HX2, hide (HO.out.old (below_drewN (Below.refl _ _) _)), hide (grew_trans HG.out (grew_drewN _ _ _))⟩
              case measure => simp [intOf]; omega
          · have d1 : decide ((i2 : Int) ≤ (j : Int)) = false := by simp; omega
            have d2 : decide (i2 ≤ j) = false := by simp; omega
            have HXX : Hid (j = J2) := hide (by rw [← HX.out, dn_stop (p := fun x => lti e[a]! x) (.inl hc)])
            clear hes
            go_wp2
            go_quiet (fail)
            have HOQ := hide (HO.out.old (below_drewN (Below.refl _ _) nq))
            have HGQ := hide (grew_trans HG.out (grew_drewN _ nq _))
            obtain ⟨WQ, hWQ⟩ : ∃ WQ, WQ = wr.drewN nq := ⟨_, rfl⟩
            rw [← hWQ] at HOQ HGQ ⊢
            clear hWQ
            have hj2 := HXX.out
            subst hj2
            clear HXX
            by_cases hgt : j < i2
            · have g1 : decide ((j : Int) < (i2 : Int)) = true := by simp; omega
              have g2 : decide (j < i2) = true := by simp; omega
              have HE : Hid (R = (i2, e)) := hide (by rw [← HL.out]; exact pe_end HI2.out HX0.out hgt)
              clear hgt
              go_wp2
              go_ret
              exact ⟨by rw [HE.out]; rfl, by rw [HE.out]; exact HOQ.out, HGQ.out⟩
            · have g1 : decide ((j : Int) < (i2 : Int)) = false := by simp; omega
              have g2 : decide (j < i2) = false := by simp; omega
              have hnq : i2 ≠ j := scans_apart (p := fun x => !lti e[a]! x) HI2.out (by simpa using HX0.out) (by omega) (by omega)
              have hlt9 : i2 < j := by omega
              have HE : Hid (Sort.partEqLoop lti a (i2 + 1) (j - 1) (Sort.swp e i2 j) = R) := hide (by rw [← HL.out]; exact (pe_step HI2.out HX0.out (by omega) (by omega) (by omega)).symm)
              have HS2 : Hid ((Sort.swp e i2 j).size = n) := hide (by rw [swp_size]; exact HS.out)
              obtain ⟨x', y', F⟩ := HOQ.out.sw (i := i2) (j := j) (by have := HS.out; omega) (by have := HS.out; omega)
              obtain ⟨ci, cj, fi, cj2, fj2, ro, gr⟩ := F
              have HO2 := hide ro
              have HG2 := hide (grew_trans HGQ.out gr)
              clear ro gr
              obtain ⟨j3, hj3⟩ : ∃ j3, j3 = j - 1 := ⟨_, rfl⟩
              have e5 : (j : Int) - 1 = (j3 : Int) := by omega
              rw [← hj3] at HE
              have hjn : j < n := by omega
              have hin : i2 < n := by omega
              have hfin : a < i2 + 1 ∧ i2 + 1 ≤ j3 + 2 ∧ j3 < n ∧ j3 < j ∧ 1 ≤ i2 ∧ 1 ≤ j := by omega
              clear hgt hj3
              go_wp2
              go_region
              all_goals
                go_wp2
                go_roundw
                case rel => exact ⟨i2 + 1, j3, Sort.swp e i2 j, by omega, by omega, by omega, by simp, by simp, HS2, HE, HO2, HG2⟩
                case measure => simp [intOf]; omega
end Go.Proofs.Ytmkafoidfgaokaa
