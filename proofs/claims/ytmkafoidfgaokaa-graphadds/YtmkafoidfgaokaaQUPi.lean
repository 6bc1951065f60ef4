/- slices.partialInsertionSortOrdered at 64-bit numbers, over the translation. -/
import Derived.Test.YtmkafoidfgaokaaQS2
namespace Go.Proofs.Ytmkafoidfgaokaa
open Go.RowKit Apo
theorem ss_stop {e : Array Int} {b i : Nat} (h : ¬ i < b ∨ lti e[i]! e[i - 1]! = true) : Sort.scanSorted lti e b i = i := by
  rw [Sort.scanSorted, if_neg]
  rcases h with h | h
  · simp [h]
  · simp [h]
theorem ss_step {e : Array Int} {b i : Nat} (h : i < b) (h2 : lti e[i]! e[i - 1]! = false) : Sort.scanSorted lti e b i = Sort.scanSorted lti e b (i + 1) := by
  rw [Sort.scanSorted, if_pos (by simp [h, h2])]
theorem sd_zero {e : Array Int} {j : Nat} (h : j = 0) : Sort.shiftDown lti j e = e := by subst h; rfl
theorem sd_stop {e : Array Int} {j : Nat} (h : lti e[j]! e[j - 1]! = false) : Sort.shiftDown lti j e = e := by
  cases j with
  | zero => rfl
  | succ j =>
    rw [Sort.shiftDown, if_pos]
    simp only [Nat.add_sub_cancel] at h
    simp [h]
theorem sd_step {e : Array Int} {j : Nat} (h0 : 1 ≤ j) (h : lti e[j]! e[j - 1]! = true) : Sort.shiftDown lti j e = Sort.shiftDown lti (j - 1) (Sort.swp e j (j - 1)) := by
  cases j with
  | zero => omega
  | succ j =>
    simp only [Nat.add_sub_cancel] at h ⊢
    rw [Sort.shiftDown, if_neg (by simp [h])]
theorem su_end {e : Array Int} {b j : Nat} (h : ¬ j < b) : Sort.shiftUp lti b j e = e := by rw [Sort.shiftUp, if_neg h]
theorem su_stop {e : Array Int} {b j : Nat} (h : lti e[j]! e[j - 1]! = false) : Sort.shiftUp lti b j e = e := by
  rw [Sort.shiftUp]
  split
  · rw [if_pos (by simp [h])]
  · rfl
theorem su_step {e : Array Int} {b j : Nat} (h0 : j < b) (h : lti e[j]! e[j - 1]! = true) : Sort.shiftUp lti b j e = Sort.shiftUp lti b (j + 1) (Sort.swp e j (j - 1)) := by
  rw [Sort.shiftUp, if_pos h0, if_neg (by simp [h])]
theorem pi_done {a b s i I2 : Nat} {e : Array Int} (h : Sort.scanSorted lti e b i = I2) (hb : I2 = b) : Sort.partialIns lti a b (s + 1) i e = (e, true) := by
  rw [Sort.partialIns]
  simp only [h]
  rw [if_pos hb]
theorem pi_short {a b s i I2 : Nat} {e : Array Int} (h : Sort.scanSorted lti e b i = I2) (hb : ¬ I2 = b) (hs : b - a < 50) : Sort.partialIns lti a b (s + 1) i e = (e, false) := by
  rw [Sort.partialIns]
  simp only [h]
  rw [if_neg hb, if_pos hs]
theorem pi_step {a b s i I2 : Nat} {e : Array Int} (h : Sort.scanSorted lti e b i = I2) (hb : ¬ I2 = b) (hs : ¬ b - a < 50) : Sort.partialIns lti a b (s + 1) i e = Sort.partialIns lti a b s I2 (if b - I2 ≥ 2 then Sort.shiftUp lti b (I2 + 1) (if I2 - a ≥ 2 then Sort.shiftDown lti (I2 - 1) (Sort.swp e I2 (I2 - 1)) else Sort.swp e I2 (I2 - 1)) else (if I2 - a ≥ 2 then Sort.shiftDown lti (I2 - 1) (Sort.swp e I2 (I2 - 1)) else Sort.swp e I2 (I2 - 1))) := by
  rw [Sort.partialIns]
  simp only [h]
  rw [if_neg hb, if_neg hs]
def PiP (w : World) (g : Nat) (ex : List Value) (r : Array Int × Bool) (e : Ending) (w' : World) : Prop := e = .returned (.bool r.2) ∧ Ro w' g r.1 ex ∧ w.grownBy w' (some g)
set_option maxRecDepth 100000 in
set_option maxHeartbeats 8000000 in
theorem upins_any (w : World) (g cap : Nat) (d : Array Int) (ex : List Value) (h : Ro w g d ex) (a b : Nat) (hab : a < b) (hb : b ≤ d.size) (hn : d.size ≤ 1000000000) :
    Calls Try.prog 76 #[.slice (some ⟨g, 0, none⟩) d.size cap, .int .i64 a, .int .i64 b] w (PiP w g ex (Sort.partialInsertionSort lti d a b)) := by
  obtain ⟨n, hnn⟩ : ∃ n, n = d.size := ⟨_, rfl⟩
  obtain ⟨R, hR⟩ : ∃ R, R = Sort.partialInsertionSort lti d a b := ⟨_, rfl⟩
  rw [← hR]
  rw [← hnn] at hb hn ⊢
  obtain ⟨a1, ha1⟩ : ∃ a1, a1 = a + 1 := ⟨_, rfl⟩
  have u1 : (a : Int) + 1 = (a1 : Int) := by omega
  obtain ⟨ba, hba⟩ : ∃ ba, ba = b - a := ⟨_, rfl⟩
  have u2 : (b : Int) - (a : Int) = (ba : Int) := by omega
  have u3 : IntKind.i64.wrap (ba : Int) = (ba : Int) := wrap_natU (by omega)
  have HBA := hide hba
  have HR : Hid (Sort.partialIns lti a b 5 a1 d = R) := hide (by rw [hR, ha1]; rfl)
  have HH := hide h
  have HN := hide hnn
  have hr1 : a < a1 ∧ a1 ≤ b := by omega
  clear h hR hnn ha1 hba
  go_enter Try.func76, Try.ntmps76
  go_wp2
  go_loopw [7, 8] (fun vi vj wr => ∃ (i s : Nat) (e : Array Int), a < i ∧ i ≤ b ∧ s ≤ 5 ∧ vi = .int .i64 i ∧ vj = .int .i64 (5 - (s : Int)) ∧ Hid (e.size = n) ∧ Hid (Sort.partialIns lti a b s i e = R) ∧ Hid (Ro wr g e ex) ∧ Hid (w.grownBy wr (some g))) (fun _ vj _ => (5 - intOf vj).toNat)
  case atStart => exact ⟨a1, 5, d, by omega, by omega, by omega, rfl, by simp, hide HN.out.symm, HR, HH, hide (World.grownBy.refl _ _)⟩
  case round =>
    obtain ⟨i0, s', e, hq1, hq2, hq3, rfl, rfl, HS, HL, HO, HG⟩ := hrel
    clear HR HH HN
    cases s' with
    | zero =>
      have HE : Hid (R = (e, false)) := hide (by rw [← HL.out]; rfl)
      go_wp2
      go_ret
      exact ⟨by rw [HE.out]; rfl, by rw [HE.out]; exact HO.out, HG.out⟩
    | succ s =>
      obtain ⟨t, ht⟩ : ∃ t : Nat, t = 4 - s := ⟨_, rfl⟩
      have e7 : (5 : Int) - ((s + 1 : Nat) : Int) = (t : Int) := by omega
      have hts : t + s = 4 := by omega
      rw [e7]
      have e8 : decide ((t : Int) < 5) = true := by simp; omega
      have e9 : decide (t < 5) = true := by simp; omega
      clear ht e7
      obtain ⟨I2, hI2⟩ : ∃ I2, I2 = Sort.scanSorted lti e b i0 := ⟨_, rfl⟩
      have HI : Hid (Sort.scanSorted lti e b i0 = I2) := hide hI2.symm
      clear hI2
      go_wp2
      go_loopw [7] (fun vi wr => ∃ i : Nat, i0 ≤ i ∧ i ≤ b ∧ vi = .int .i64 i ∧ Hid (Sort.scanSorted lti e b i = I2) ∧ Hid (Ro wr g e ex) ∧ Hid (w.grownBy wr (some g))) (fun vi _ => b - (intOf vi).toNat)
      case atStart => exact ⟨i0, Nat.le_refl _, by omega, rfl, HI, HO, HG⟩
      case round =>
        clear HO HG
        obtain ⟨i, hl1, hl2, rfl, HX, HO, HG⟩ := hrel
        have hes := HS.out
        by_cases hc : i < b
        · have d1 : decide ((i : Int) < (b : Int)) = true := by simp; omega
          have d2 : decide (i < b) = true := by simp; omega
          obtain ⟨k1, hk1⟩ : ∃ k1, k1 = i - 1 := ⟨_, rfl⟩
          have e1 : (i : Int) - 1 = (k1 : Int) := by omega
          have e2 : IntKind.i64.wrap (k1 : Int) = (k1 : Int) := wrap_natU (by omega)
          have hxn : i < n := by omega
          have hx1n : k1 < n := by omega
          have cx := HO.out.cell (i := i) (by omega)
          have cy := HO.out.cell (i := k1) (by omega)
          obtain ⟨xv, hxv⟩ : ∃ xv, xv = e[i]! := ⟨_, rfl⟩
          obtain ⟨yv, hyv⟩ : ∃ yv, yv = e[k1]! := ⟨_, rfl⟩
          rw [← hxv] at cx
          rw [← hyv] at cy
          have hcl := fun W' => less_any W' xv yv
          cases hlt : decide (xv < yv)
          · rw [hlt] at hcl
            have HCL := hide hcl
            have HX2 : Hid (Sort.scanSorted lti e b (i + 1) = I2) := hide (by rw [← HX.out, ss_step hc (by rw [← hk1, ← hxv, ← hyv]; exact hlt)])
            clear hcl hlt hxv hyv hes hk1
            go_wp2
            go_quiet (first | (go_at_call 77; with_reducible exact (HCL.out _).mono (fun _ _ h => ⟨h.1, _, h.2.symm⟩)))
            go_wp2
            go_roundw
            case rel => exact ⟨i + 1, by omega, by omega, by simp, HX2, hide (HO.out.old (below_drewN (Below.refl _ _) _)), hide (grew_trans HG.out (grew_drewN _ _ _))⟩
            case measure => simp [intOf]; omega
          · rw [hlt] at hcl
            have HCL := hide hcl
            have HXX : Hid (i = I2) := hide (by rw [← HX.out, ss_stop (.inr (by rw [← hk1, ← hxv, ← hyv]; exact hlt))])
            clear hcl hlt hxv hyv hes hk1
            go_wp2
            go_quiet (first | (go_at_call 77; with_reducible exact (HCL.out _).mono (fun _ _ h => ⟨h.1, _, h.2.symm⟩)))
            clear cx cy e1 e2
            have HOQ := hide (HO.out.old (below_drewN (Below.refl _ _) nq))
            have HGQ := hide (grew_trans HG.out (grew_drewN _ nq _))
            obtain ⟨WQ, hWQ⟩ : ∃ WQ, WQ = wr.drewN nq := ⟨_, rfl⟩
            rw [← hWQ] at HOQ HGQ ⊢
            clear hWQ
            have hI2 := HXX.out
            subst hI2
            clear HXX
            obtain ⟨I2, hI2⟩ : ∃ I2, I2 = i := ⟨_, rfl⟩
            subst hI2
            by_cases hib : I2 = b
            · have g1 : ((I2 : Int) == (b : Int)) = true := by rw [beq_iff_eq]; omega
              have g2 : (I2 == b) = true := by rw [beq_iff_eq]; omega
              have HE : Hid (R = (e, true)) := hide (by rw [← HL.out]; exact pi_done HI.out hib)
              clear hib
              go_wp2
              go_ret
              exact ⟨by rw [HE.out]; rfl, by rw [HE.out]; exact HOQ.out, HGQ.out⟩
            · have g1 : ((I2 : Int) == (b : Int)) = false := by rw [beq_eq_false_iff_ne]; omega
              have g2 : (I2 == b) = false := by rw [beq_eq_false_iff_ne]; omega
              by_cases hsh : ba < 50
              · have g3 : decide ((ba : Int) < 50) = true := by simp; omega
                have g4 : decide (ba < 50) = true := by simp; omega
                have HE : Hid (R = (e, false)) := hide (by rw [← HL.out]; exact pi_short HI.out hib (by rw [← HBA.out]; exact hsh))
                clear hib hsh
                go_wp2
                go_ret
                exact ⟨by rw [HE.out]; rfl, by rw [HE.out]; exact HOQ.out, HGQ.out⟩
              · have g3 : decide ((ba : Int) < 50) = false := by simp; omega
                have g4 : decide (ba < 50) = false := by simp; omega
                have HL1 : Hid (Sort.partialIns lti a b s I2 (if b - I2 ≥ 2 then Sort.shiftUp lti b (I2 + 1) (if I2 - a ≥ 2 then Sort.shiftDown lti (I2 - 1) (Sort.swp e I2 (I2 - 1)) else Sort.swp e I2 (I2 - 1)) else (if I2 - a ≥ 2 then Sort.shiftDown lti (I2 - 1) (Sort.swp e I2 (I2 - 1)) else Sort.swp e I2 (I2 - 1))) = R) := hide (by rw [← HL.out]; exact (pi_step HI.out hib (by rw [← HBA.out]; exact hsh)).symm)
                obtain ⟨i1, hi1⟩ : ∃ i1, i1 = I2 - 1 := ⟨_, rfl⟩
                have e3 : (I2 : Int) - 1 = (i1 : Int) := by omega
                have e4 : IntKind.i64.wrap (i1 : Int) = (i1 : Int) := wrap_natU (by omega)
                have hin : I2 < n := by omega
                have hi1n : i1 < n := by omega
                have hib2 : I2 < b := by omega
                have HI1 := hide hi1
                have hi1b : i1 + 1 = I2 := by omega
                obtain ⟨x', y', F⟩ := HOQ.out.sw (i := I2) (j := i1) (by have := HS.out; omega) (by have := HS.out; omega)
                obtain ⟨ci, cj, fi, cj2, fj2, ro, gr⟩ := F
                have HO2 := hide ro
                have HG2 := hide (grew_trans HGQ.out gr)
                have HS2 : Hid ((Sort.swp e I2 i1).size = n) := hide (by rw [swp_size]; exact HS.out)
                clear ro gr
                obtain ⟨e', he'⟩ : ∃ e', e' = Sort.swp e I2 i1 := ⟨_, rfl⟩
                have HE1 : Hid (e' = Sort.swp e I2 (I2 - 1)) := hide (by rw [he', hi1])
                rw [← he'] at HO2 HS2
                have HOW := HO2
                have HGW := HG2
                obtain ⟨WV, hWV⟩ : ∃ WV, WV = ((WQ.setCell ⟨g, I2, none⟩ (.int .u64 y')).setCell ⟨g, i1, none⟩ (.int .u64 x')).drew := ⟨_, rfl⟩
                rw [← hWV] at HOW HGW
                have HWV := hide hWV
                clear hib hsh hi1 he' HO2 HG2 hWV
                go_wp2
                go_region
                rw [← HWV.out]
                clear HWV ci cj fi cj2 fj2
                have HSW := HS2
                clear HS HOQ HGQ HS2 HL HO HG HX
                obtain ⟨e0, he0⟩ : ∃ e0, e0 = e := ⟨_, rfl⟩
                rw [← he0] at HE1 HL1
                clear he0 HI
                obtain ⟨e, hee⟩ : ∃ e, e = e' := ⟨_, rfl⟩
                rw [← hee] at HE1 HSW HOW
                clear hee
                have HS := HSW
                have HOQ := HOW
                have HGQ := HGW
                clear HSW HOW HGW
                obtain ⟨D3, hD3'⟩ : ∃ D3, D3 = if I2 - a ≥ 2 then Sort.shiftDown lti (I2 - 1) e else e := ⟨_, rfl⟩
                have HL2 : Hid (Sort.partialIns lti a b s I2 (if b - I2 ≥ 2 then Sort.shiftUp lti b (I2 + 1) D3 else D3) = R) := hide (by rw [hD3', HE1.out]; exact HL1.out)
                by_cases hdn : 2 ≤ I2 - a
                · have f1 : (I2 : Int) - (a : Int) = ((I2 - a : Nat) : Int) := by omega
                  obtain ⟨ia, hia⟩ : ∃ ia, ia = I2 - a := ⟨_, rfl⟩
                  rw [← hia] at f1
                  have f2 : IntKind.i64.wrap (ia : Int) = (ia : Int) := wrap_natU (by omega)
                  have f3 : decide ((2 : Int) ≤ (ia : Int)) = true := by simp; omega
                  have f4 : decide (2 ≤ ia) = true := by simp; omega
                  have HXD : Hid (Sort.shiftDown lti i1 e = D3) := hide (by rw [hD3', if_pos hdn, HI1.out])
                  clear hD3' hia HE1
                  go_wp2
                  go_loopw [9] (fun vl wr => ∃ (l : Nat) (e : Array Int), 0 ≤ l ∧ l ≤ i1 ∧ vl = .int .i64 l ∧ Hid (e.size = n) ∧ Hid (Sort.shiftDown lti l e = D3) ∧ Hid (Ro wr g e ex) ∧ Hid (w.grownBy wr (some g))) (fun vl _ => (intOf vl).toNat)
                  case atStart => exact ⟨i1, e, by omega, by omega, by simp, HS, HXD, HOQ, HGQ⟩
                  case round =>
                    clear HS HOQ HGQ HXD
                    obtain ⟨l, e, hk1, hk2, rfl, HS, HX, HO, HG⟩ := hrel
                    have hes := HS.out
                    by_cases hc : 1 ≤ l
                    · have d1 : decide ((1 : Int) ≤ (l : Int)) = true := by simp; omega
                      have d2 : decide (1 ≤ l) = true := by simp; omega
                      obtain ⟨l1, hl1⟩ : ∃ l1, l1 = l - 1 := ⟨_, rfl⟩
                      have e1 : (l : Int) - 1 = (l1 : Int) := by omega
                      have e2 : IntKind.i64.wrap (l1 : Int) = (l1 : Int) := wrap_natU (by omega)
                      have hxn : l < n := by omega
                      have hx1n : l1 < n := by omega
                      have cx := HO.out.cell (i := l) (by omega)
                      have cy := HO.out.cell (i := l1) (by omega)
                      obtain ⟨xv, hxv⟩ : ∃ xv, xv = e[l]! := ⟨_, rfl⟩
                      obtain ⟨yv, hyv⟩ : ∃ yv, yv = e[l1]! := ⟨_, rfl⟩
                      rw [← hxv] at cx
                      rw [← hyv] at cy
                      have hcl := fun W' => less_any W' xv yv
                      cases hlt : decide (xv < yv)
                      · rw [hlt] at hcl
                        have HCL := hide hcl
                        have HXX : Hid (e = D3) := hide (by
                          rw [← HX.out, sd_stop (by rw [← hl1, ← hxv, ← hyv]; exact hlt)])
                        clear hcl hlt hxv hyv hes hl1
                        go_wp2
                        go_quiet (first | (go_at_call 77; with_reducible exact (HCL.out _).mono (fun _ _ h => ⟨h.1, _, h.2.symm⟩)))
                        clear cx cy e1 e2
                        have HOQ := hide (HO.out.old (below_drewN (Below.refl _ _) nq))
                        have HGQ := hide (grew_trans HG.out (grew_drewN _ nq _))
                        obtain ⟨WQ, hWQ⟩ : ∃ WQ, WQ = wr.drewN nq := ⟨_, rfl⟩
                        rw [← hWQ] at HOQ HGQ ⊢
                        clear hWQ
                        have hD3 := HXX.out
                        obtain ⟨D4, hD4⟩ : ∃ D4, D4 = if b - I2 ≥ 2 then Sort.shiftUp lti b (I2 + 1) D3 else D3 := ⟨_, rfl⟩
                        have HLL : Hid (Sort.partialIns lti a b s I2 D4 = R) := hide (by rw [hD4]; exact HL2.out)
                        by_cases hup : 2 ≤ b - I2
                        · have f1 : (b : Int) - (I2 : Int) = ((b - I2 : Nat) : Int) := by omega
                          obtain ⟨bi, hbi⟩ : ∃ bi, bi = b - I2 := ⟨_, rfl⟩
                          rw [← hbi] at f1
                          have f2 : IntKind.i64.wrap (bi : Int) = (bi : Int) := wrap_natU (by omega)
                          have f3 : decide ((2 : Int) ≤ (bi : Int)) = true := by simp; omega
                          have f4 : decide (2 ≤ bi) = true := by simp; omega
                          obtain ⟨m1, hm1⟩ : ∃ m1, m1 = I2 + 1 := ⟨_, rfl⟩
                          have f5 : (I2 : Int) + 1 = (m1 : Int) := by omega
                          have HXD : Hid (Sort.shiftUp lti b m1 e = D4) := hide (by rw [hD4, if_pos hup, hD3, ← hm1])
                          have hm2 : 1 ≤ m1 ∧ m1 ≤ b := by omega
                          clear hD4 hD3 HXX hbi hm1
                          go_wp2
                          go_loopw [10] (fun vm wr => ∃ (m : Nat) (e : Array Int), 1 ≤ m ∧ m ≤ b ∧ vm = .int .i64 m ∧ Hid (e.size = n) ∧ Hid (Sort.shiftUp lti b m e = D4) ∧ Hid (Ro wr g e ex) ∧ Hid (w.grownBy wr (some g))) (fun vm _ => b - (intOf vm).toNat)
                          case atStart => exact ⟨m1, e, by omega, by omega, rfl, HS, HXD, HOQ, HGQ⟩
                          case round =>
                            clear HS HOQ HGQ HXD
                            obtain ⟨m, e, hk1, hk2, rfl, HS, HX, HO, HG⟩ := hrel
                            have hes := HS.out
                            by_cases hc : m < b
                            · have d1 : decide ((m : Int) < (b : Int)) = true := by simp; omega
                              have d2 : decide (m < b) = true := by simp; omega
                              obtain ⟨m1, hm1⟩ : ∃ m1, m1 = m - 1 := ⟨_, rfl⟩
                              have e1 : (m : Int) - 1 = (m1 : Int) := by omega
                              have e2 : IntKind.i64.wrap (m1 : Int) = (m1 : Int) := wrap_natU (by omega)
                              have hxn : m < n := by omega
                              have hx1n : m1 < n := by omega
                              have cx := HO.out.cell (i := m) (by omega)
                              have cy := HO.out.cell (i := m1) (by omega)
                              obtain ⟨xv, hxv⟩ : ∃ xv, xv = e[m]! := ⟨_, rfl⟩
                              obtain ⟨yv, hyv⟩ : ∃ yv, yv = e[m1]! := ⟨_, rfl⟩
                              rw [← hxv] at cx
                              rw [← hyv] at cy
                              have hcl := fun W' => less_any W' xv yv
                              cases hlt : decide (xv < yv)
                              · rw [hlt] at hcl
                                have HCL := hide hcl
                                have HXX : Hid (e = D4) := hide (by
                                  rw [← HX.out, su_stop (by rw [← hm1, ← hxv, ← hyv]; exact hlt)])
                                clear hcl hlt hxv hyv hes hm1
                                go_wp2
                                go_quiet (first | (go_at_call 77; with_reducible exact (HCL.out _).mono (fun _ _ h => ⟨h.1, _, h.2.symm⟩)))
                                clear cx cy e1 e2
                                have HOQ := hide (HO.out.old (below_drewN (Below.refl _ _) nq))
                                have HGQ := hide (grew_trans HG.out (grew_drewN _ nq _))
                                obtain ⟨WQ, hWQ⟩ : ∃ WQ, WQ = wr.drewN nq := ⟨_, rfl⟩
                                rw [← hWQ] at HOQ HGQ ⊢
                                clear hWQ
                                have HD4 := HXX
                                have HF : Hid (Sort.partialIns lti a b s I2 e = R) := hide (by rw [HD4.out]; exact HLL.out)
                                go_wp2
                                go_roundw
                                case rel => exact ⟨I2, s, e, by omega, by omega, by omega, rfl, by simp; omega, HS, HF, HOQ, HGQ⟩
                                case measure => simp [intOf]; omega
                              · rw [hlt] at hcl
                                have HCL := hide hcl
                                have HX2 : Hid (Sort.shiftUp lti b (m + 1) (Sort.swp e m m1) = D4) := hide (by
                                  rw [← HX.out, su_step hc (by rw [← hm1, ← hxv, ← hyv]; exact hlt), ← hm1])
                                have hlx : m1 ≤ m ∧ (m1 < m) := by omega
                                clear hcl hlt hxv hyv hes hm1
                                go_wp2
                                go_quiet (first | (go_at_call 77; with_reducible exact (HCL.out _).mono (fun _ _ h => ⟨h.1, _, h.2.symm⟩)))
                                clear cx cy
                                have HOQ := hide (HO.out.old (below_drewN (Below.refl _ _) nq))
                                have HGQ := hide (grew_trans HG.out (grew_drewN _ nq _))
                                obtain ⟨WQ, hWQ⟩ : ∃ WQ, WQ = wr.drewN nq := ⟨_, rfl⟩
                                rw [← hWQ] at HOQ HGQ ⊢
                                clear hWQ
                                obtain ⟨x', y', F⟩ := HOQ.out.sw (i := m) (j := m1) (by have := HS.out; omega) (by have := HS.out; omega)
                                obtain ⟨ci, cj, fi, cj2, fj2, ro, gr⟩ := F
                                have HO2 := hide ro
                                have HG2 := hide (grew_trans HGQ.out gr)
                                have HS2 : Hid ((Sort.swp e m m1).size = n) := hide (by rw [swp_size]; exact HS.out)
                                clear ro gr
                                go_wp2
                                go_region
                                all_goals
                                  go_wp2
                                  go_roundw
                                  case rel => exact ⟨m + 1, Sort.swp e m m1, by omega, by omega, by simp, HS2, HX2, HO2, HG2⟩
                                  case measure => simp [intOf]; omega
                            · have d1 : decide ((m : Int) < (b : Int)) = false := by simp; omega
                              have d2 : decide (m < b) = false := by simp; omega
                              have HXX : Hid (e = D4) := hide (by rw [← HX.out, su_end hc])
                              have HOQ := HO
                              have HGQ := HG
                              obtain ⟨WQ, hWQ⟩ : ∃ WQ, WQ = wr := ⟨_, rfl⟩
                              rw [← hWQ] at HOQ HGQ ⊢
                              clear hWQ hes
                              have HD4 := HXX
                              have HF : Hid (Sort.partialIns lti a b s I2 e = R) := hide (by rw [HD4.out]; exact HLL.out)
                              go_wp2
                              go_roundw
                              case rel => exact ⟨I2, s, e, by omega, by omega, by omega, rfl, by simp; omega, HS, HF, HOQ, HGQ⟩
                              case measure => simp [intOf]; omega
                        · have f1 : (b : Int) - (I2 : Int) = ((b - I2 : Nat) : Int) := by omega
                          obtain ⟨bi, hbi⟩ : ∃ bi, bi = b - I2 := ⟨_, rfl⟩
                          rw [← hbi] at f1
                          have f2 : IntKind.i64.wrap (bi : Int) = (bi : Int) := wrap_natU (by omega)
                          have f3 : decide ((2 : Int) ≤ (bi : Int)) = false := by simp; omega
                          have f4 : decide (2 ≤ bi) = false := by simp; omega
                          have HD4 : Hid (e = D4) := hide (by rw [hD4, if_neg (by omega), hD3])
                          clear hD4 hD3 HXX hbi
                          have HF : Hid (Sort.partialIns lti a b s I2 e = R) := hide (by rw [HD4.out]; exact HLL.out)
                          go_wp2
                          go_roundw
                          case rel => exact ⟨I2, s, e, by omega, by omega, by omega, rfl, by simp; omega, HS, HF, HOQ, HGQ⟩
                          case measure => simp [intOf]; omega
                      · rw [hlt] at hcl
                        have HCL := hide hcl
                        have HX2 : Hid (Sort.shiftDown lti l1 (Sort.swp e l l1) = D3) := hide (by
                          rw [← HX.out, sd_step hc (by rw [← hl1, ← hxv, ← hyv]; exact hlt), ← hl1])
                        have hlx : l1 ≤ l ∧ (l1 < l) := by omega
                        clear hcl hlt hxv hyv hes hl1
                        go_wp2
                        go_quiet (first | (go_at_call 77; with_reducible exact (HCL.out _).mono (fun _ _ h => ⟨h.1, _, h.2.symm⟩)))
                        clear cx cy
                        have HOQ := hide (HO.out.old (below_drewN (Below.refl _ _) nq))
                        have HGQ := hide (grew_trans HG.out (grew_drewN _ nq _))
                        obtain ⟨WQ, hWQ⟩ : ∃ WQ, WQ = wr.drewN nq := ⟨_, rfl⟩
                        rw [← hWQ] at HOQ HGQ ⊢
                        clear hWQ
                        obtain ⟨x', y', F⟩ := HOQ.out.sw (i := l) (j := l1) (by have := HS.out; omega) (by have := HS.out; omega)
                        obtain ⟨ci, cj, fi, cj2, fj2, ro, gr⟩ := F
                        have HO2 := hide ro
                        have HG2 := hide (grew_trans HGQ.out gr)
                        have HS2 : Hid ((Sort.swp e l l1).size = n) := hide (by rw [swp_size]; exact HS.out)
                        clear ro gr
                        go_wp2
                        go_region
                        all_goals
                          go_wp2
                          go_roundw
                          case rel => exact ⟨l1, Sort.swp e l l1, by omega, by omega, by simp, HS2, HX2, HO2, HG2⟩
                          case measure => simp [intOf]; omega
                    · have d1 : decide ((1 : Int) ≤ (l : Int)) = false := by simp; omega
                      have d2 : decide (1 ≤ l) = false := by simp; omega
                      have HXX : Hid (e = D3) := hide (by rw [← HX.out, sd_zero (by omega)])
                      have HOQ := HO
                      have HGQ := HG
                      obtain ⟨WQ, hWQ⟩ : ∃ WQ, WQ = wr := ⟨_, rfl⟩
                      rw [← hWQ] at HOQ HGQ ⊢
                      clear hWQ hes
                      have hD3 := HXX.out
                      obtain ⟨D4, hD4⟩ : ∃ D4, D4 = if b - I2 ≥ 2 then Sort.shiftUp lti b (I2 + 1) D3 else D3 := ⟨_, rfl⟩
                      have HLL : Hid (Sort.partialIns lti a b s I2 D4 = R) := hide (by rw [hD4]; exact HL2.out)
                      by_cases hup : 2 ≤ b - I2
                      · have f1 : (b : Int) - (I2 : Int) = ((b - I2 : Nat) : Int) := by omega
                        obtain ⟨bi, hbi⟩ : ∃ bi, bi = b - I2 := ⟨_, rfl⟩
                        rw [← hbi] at f1
                        have f2 : IntKind.i64.wrap (bi : Int) = (bi : Int) := wrap_natU (by omega)
                        have f3 : decide ((2 : Int) ≤ (bi : Int)) = true := by simp; omega
                        have f4 : decide (2 ≤ bi) = true := by simp; omega
                        obtain ⟨m1, hm1⟩ : ∃ m1, m1 = I2 + 1 := ⟨_, rfl⟩
                        have f5 : (I2 : Int) + 1 = (m1 : Int) := by omega
                        have HXD : Hid (Sort.shiftUp lti b m1 e = D4) := hide (by rw [hD4, if_pos hup, hD3, ← hm1])
                        have hm2 : 1 ≤ m1 ∧ m1 ≤ b := by omega
                        clear hD4 hD3 HXX hbi hm1
                        go_wp2
                        go_loopw [10] (fun vm wr => ∃ (m : Nat) (e : Array Int), 1 ≤ m ∧ m ≤ b ∧ vm = .int .i64 m ∧ Hid (e.size = n) ∧ Hid (Sort.shiftUp lti b m e = D4) ∧ Hid (Ro wr g e ex) ∧ Hid (w.grownBy wr (some g))) (fun vm _ => b - (intOf vm).toNat)
                        case atStart => exact ⟨m1, e, by omega, by omega, rfl, HS, HXD, HOQ, HGQ⟩
                        case round =>
                          clear HS HOQ HGQ HXD
                          obtain ⟨m, e, hk1, hk2, rfl, HS, HX, HO, HG⟩ := hrel
                          have hes := HS.out
                          by_cases hc : m < b
                          · have d1 : decide ((m : Int) < (b : Int)) = true := by simp; omega
                            have d2 : decide (m < b) = true := by simp; omega
                            obtain ⟨m1, hm1⟩ : ∃ m1, m1 = m - 1 := ⟨_, rfl⟩
                            have e1 : (m : Int) - 1 = (m1 : Int) := by omega
                            have e2 : IntKind.i64.wrap (m1 : Int) = (m1 : Int) := wrap_natU (by omega)
                            have hxn : m < n := by omega
                            have hx1n : m1 < n := by omega
                            have cx := HO.out.cell (i := m) (by omega)
                            have cy := HO.out.cell (i := m1) (by omega)
                            obtain ⟨xv, hxv⟩ : ∃ xv, xv = e[m]! := ⟨_, rfl⟩
                            obtain ⟨yv, hyv⟩ : ∃ yv, yv = e[m1]! := ⟨_, rfl⟩
                            rw [← hxv] at cx
                            rw [← hyv] at cy
                            have hcl := fun W' => less_any W' xv yv
                            cases hlt : decide (xv < yv)
                            · rw [hlt] at hcl
                              have HCL := hide hcl
                              have HXX : Hid (e = D4) := hide (by
                                rw [← HX.out, su_stop (by rw [← hm1, ← hxv, ← hyv]; exact hlt)])
                              clear hcl hlt hxv hyv hes hm1
                              go_wp2
                              go_quiet (first | (go_at_call 77; with_reducible exact (HCL.out _).mono (fun _ _ h => ⟨h.1, _, h.2.symm⟩)))
                              clear cx cy e1 e2
                              have HOQ := hide (HO.out.old (below_drewN (Below.refl _ _) nq))
                              have HGQ := hide (grew_trans HG.out (grew_drewN _ nq _))
                              obtain ⟨WQ, hWQ⟩ : ∃ WQ, WQ = wr.drewN nq := ⟨_, rfl⟩
                              rw [← hWQ] at HOQ HGQ ⊢
                              clear hWQ
                              have HD4 := HXX
                              have HF : Hid (Sort.partialIns lti a b s I2 e = R) := hide (by rw [HD4.out]; exact HLL.out)
                              go_wp2
                              go_roundw
                              case rel => exact ⟨I2, s, e, by omega, by omega, by omega, rfl, by simp; omega, HS, HF, HOQ, HGQ⟩
                              case measure => simp [intOf]; omega
                            · rw [hlt] at hcl
                              have HCL := hide hcl
                              have HX2 : Hid (Sort.shiftUp lti b (m + 1) (Sort.swp e m m1) = D4) := hide (by
                                rw [← HX.out, su_step hc (by rw [← hm1, ← hxv, ← hyv]; exact hlt), ← hm1])
                              have hlx : m1 ≤ m ∧ (m1 < m) := by omega
                              clear hcl hlt hxv hyv hes hm1
                              go_wp2
                              go_quiet (first | (go_at_call 77; with_reducible exact (HCL.out _).mono (fun _ _ h => ⟨h.1, _, h.2.symm⟩)))
                              clear cx cy
                              have HOQ := hide (HO.out.old (below_drewN (Below.refl _ _) nq))
                              have HGQ := hide (grew_trans HG.out (grew_drewN _ nq _))
                              obtain ⟨WQ, hWQ⟩ : ∃ WQ, WQ = wr.drewN nq := ⟨_, rfl⟩
                              rw [← hWQ] at HOQ HGQ ⊢
                              clear hWQ
                              obtain ⟨x', y', F⟩ := HOQ.out.sw (i := m) (j := m1) (by have := HS.out; omega) (by have := HS.out; omega)
                              obtain ⟨ci, cj, fi, cj2, fj2, ro, gr⟩ := F
                              have HO2 := hide ro
                              have HG2 := hide (grew_trans HGQ.out gr)
                              have HS2 : Hid ((Sort.swp e m m1).size = n) := hide (by rw [swp_size]; exact HS.out)
                              clear ro gr
                              go_wp2
                              go_region
                              all_goals
                                go_wp2
                                go_roundw
                                case rel => exact ⟨m + 1, Sort.swp e m m1, by omega, by omega, by simp, HS2, HX2, HO2, HG2⟩
                                case measure => simp [intOf]; omega
                          · have d1 : decide ((m : Int) < (b : Int)) = false := by simp; omega
                            have d2 : decide (m < b) = false := by simp; omega
                            have HXX : Hid (e = D4) := hide (by rw [← HX.out, su_end hc])
                            have HOQ := HO
                            have HGQ := HG
                            obtain ⟨WQ, hWQ⟩ : ∃ WQ, WQ = wr := ⟨_, rfl⟩
                            rw [← hWQ] at HOQ HGQ ⊢
                            clear hWQ hes
                            have HD4 := HXX
                            have HF : Hid (Sort.partialIns lti a b s I2 e = R) := hide (by rw [HD4.out]; exact HLL.out)
                            go_wp2
                            go_roundw
                            case rel => exact ⟨I2, s, e, by omega, by omega, by omega, rfl, by simp; omega, HS, HF, HOQ, HGQ⟩
                            case measure => simp [intOf]; omega
                      · have f1 : (b : Int) - (I2 : Int) = ((b - I2 : Nat) : Int) := by omega
                        obtain ⟨bi, hbi⟩ : ∃ bi, bi = b - I2 := ⟨_, rfl⟩
                        rw [← hbi] at f1
                        have f2 : IntKind.i64.wrap (bi : Int) = (bi : Int) := wrap_natU (by omega)
                        have f3 : decide ((2 : Int) ≤ (bi : Int)) = false := by simp; omega
                        have f4 : decide (2 ≤ bi) = false := by simp; omega
                        have HD4 : Hid (e = D4) := hide (by rw [hD4, if_neg (by omega), hD3])
                        clear hD4 hD3 HXX hbi
                        have HF : Hid (Sort.partialIns lti a b s I2 e = R) := hide (by rw [HD4.out]; exact HLL.out)
                        go_wp2
                        go_roundw
                        case rel => exact ⟨I2, s, e, by omega, by omega, by omega, rfl, by simp; omega, HS, HF, HOQ, HGQ⟩
                        case measure => simp [intOf]; omega
                · have f1 : (I2 : Int) - (a : Int) = ((I2 - a : Nat) : Int) := by omega
                  obtain ⟨ia, hia⟩ : ∃ ia, ia = I2 - a := ⟨_, rfl⟩
                  rw [← hia] at f1
                  have f2 : IntKind.i64.wrap (ia : Int) = (ia : Int) := wrap_natU (by omega)
                  have f3 : decide ((2 : Int) ≤ (ia : Int)) = false := by simp; omega
                  have f4 : decide (2 ≤ ia) = false := by simp; omega
                  have HXX : Hid (e = D3) := hide (by rw [hD3', if_neg (by omega)])
                  clear hD3' hia HE1
                  have hD3 := HXX.out
                  obtain ⟨D4, hD4⟩ : ∃ D4, D4 = if b - I2 ≥ 2 then Sort.shiftUp lti b (I2 + 1) D3 else D3 := ⟨_, rfl⟩
                  have HLL : Hid (Sort.partialIns lti a b s I2 D4 = R) := hide (by rw [hD4]; exact HL2.out)
                  by_cases hup : 2 ≤ b - I2
                  · have f1 : (b : Int) - (I2 : Int) = ((b - I2 : Nat) : Int) := by omega
                    obtain ⟨bi, hbi⟩ : ∃ bi, bi = b - I2 := ⟨_, rfl⟩
                    rw [← hbi] at f1
                    have f2 : IntKind.i64.wrap (bi : Int) = (bi : Int) := wrap_natU (by omega)
                    have f3 : decide ((2 : Int) ≤ (bi : Int)) = true := by simp; omega
                    have f4 : decide (2 ≤ bi) = true := by simp; omega
                    obtain ⟨m1, hm1⟩ : ∃ m1, m1 = I2 + 1 := ⟨_, rfl⟩
                    have f5 : (I2 : Int) + 1 = (m1 : Int) := by omega
                    have HXD : Hid (Sort.shiftUp lti b m1 e = D4) := hide (by rw [hD4, if_pos hup, hD3, ← hm1])
                    have hm2 : 1 ≤ m1 ∧ m1 ≤ b := by omega
                    clear hD4 hD3 HXX hbi hm1
                    go_wp2
                    go_loopw [10] (fun vm wr => ∃ (m : Nat) (e : Array Int), 1 ≤ m ∧ m ≤ b ∧ vm = .int .i64 m ∧ Hid (e.size = n) ∧ Hid (Sort.shiftUp lti b m e = D4) ∧ Hid (Ro wr g e ex) ∧ Hid (w.grownBy wr (some g))) (fun vm _ => b - (intOf vm).toNat)
                    case atStart => exact ⟨m1, e, by omega, by omega, rfl, HS, HXD, HOQ, HGQ⟩
                    case round =>
                      clear HS HOQ HGQ HXD
                      obtain ⟨m, e, hk1, hk2, rfl, HS, HX, HO, HG⟩ := hrel
                      have hes := HS.out
                      by_cases hc : m < b
                      · have d1 : decide ((m : Int) < (b : Int)) = true := by simp; omega
                        have d2 : decide (m < b) = true := by simp; omega
                        obtain ⟨m1, hm1⟩ : ∃ m1, m1 = m - 1 := ⟨_, rfl⟩
                        have e1 : (m : Int) - 1 = (m1 : Int) := by omega
                        have e2 : IntKind.i64.wrap (m1 : Int) = (m1 : Int) := wrap_natU (by omega)
                        have hxn : m < n := by omega
                        have hx1n : m1 < n := by omega
                        have cx := HO.out.cell (i := m) (by omega)
                        have cy := HO.out.cell (i := m1) (by omega)
                        obtain ⟨xv, hxv⟩ : ∃ xv, xv = e[m]! := ⟨_, rfl⟩
                        obtain ⟨yv, hyv⟩ : ∃ yv, yv = e[m1]! := ⟨_, rfl⟩
                        rw [← hxv] at cx
                        rw [← hyv] at cy
                        have hcl := fun W' => less_any W' xv yv
                        cases hlt : decide (xv < yv)
                        · rw [hlt] at hcl
                          have HCL := hide hcl
                          have HXX : Hid (e = D4) := hide (by
                            rw [← HX.out, su_stop (by rw [← hm1, ← hxv, ← hyv]; exact hlt)])
                          clear hcl hlt hxv hyv hes hm1
                          go_wp2
                          go_quiet (first | (go_at_call 77; with_reducible exact (HCL.out _).mono (fun _ _ h => ⟨h.1, _, h.2.symm⟩)))
                          clear cx cy e1 e2
                          have HOQ := hide (HO.out.old (below_drewN (Below.refl _ _) nq))
                          have HGQ := hide (grew_trans HG.out (grew_drewN _ nq _))
                          obtain ⟨WQ, hWQ⟩ : ∃ WQ, WQ = wr.drewN nq := ⟨_, rfl⟩
                          rw [← hWQ] at HOQ HGQ ⊢
                          clear hWQ
                          have HD4 := HXX
                          have HF : Hid (Sort.partialIns lti a b s I2 e = R) := hide (by rw [HD4.out]; exact HLL.out)
                          go_wp2
                          go_roundw
                          case rel => exact ⟨I2, s, e, by omega, by omega, by omega, rfl, by simp; omega, HS, HF, HOQ, HGQ⟩
                          case measure => simp [intOf]; omega
                        · rw [hlt] at hcl
                          have HCL := hide hcl
                          have HX2 : Hid (Sort.shiftUp lti b (m + 1) (Sort.swp e m m1) = D4) := hide (by
                            rw [← HX.out, su_step hc (by rw [← hm1, ← hxv, ← hyv]; exact hlt), ← hm1])
                          have hlx : m1 ≤ m ∧ (m1 < m) := by omega
                          clear hcl hlt hxv hyv hes hm1
                          go_wp2
                          go_quiet (first | (go_at_call 77; with_reducible exact (HCL.out _).mono (fun _ _ h => ⟨h.1, _, h.2.symm⟩)))
                          clear cx cy
                          have HOQ := hide (HO.out.old (below_drewN (Below.refl _ _) nq))
                          have HGQ := hide (grew_trans HG.out (grew_drewN _ nq _))
                          obtain ⟨WQ, hWQ⟩ : ∃ WQ, WQ = wr.drewN nq := ⟨_, rfl⟩
                          rw [← hWQ] at HOQ HGQ ⊢
                          clear hWQ
                          obtain ⟨x', y', F⟩ := HOQ.out.sw (i := m) (j := m1) (by have := HS.out; omega) (by have := HS.out; omega)
                          obtain ⟨ci, cj, fi, cj2, fj2, ro, gr⟩ := F
                          have HO2 := hide ro
                          have HG2 := hide (grew_trans HGQ.out gr)
                          have HS2 : Hid ((Sort.swp e m m1).size = n) := hide (by rw [swp_size]; exact HS.out)
                          clear ro gr
                          go_wp2
                          go_region
                          all_goals
                            go_wp2
                            go_roundw
                            case rel => exact ⟨m + 1, Sort.swp e m m1, by omega, by omega, by simp, HS2, HX2, HO2, HG2⟩
                            case measure => simp [intOf]; omega
                      · have d1 : decide ((m : Int) < (b : Int)) = false := by simp; omega
                        have d2 : decide (m < b) = false := by simp; omega
                        have HXX : Hid (e = D4) := hide (by rw [← HX.out, su_end hc])
                        have HOQ := HO
                        have HGQ := HG
                        obtain ⟨WQ, hWQ⟩ : ∃ WQ, WQ = wr := ⟨_, rfl⟩
                        rw [← hWQ] at HOQ HGQ ⊢
                        clear hWQ hes
                        have HD4 := HXX
                        have HF : Hid (Sort.partialIns lti a b s I2 e = R) := hide (by rw [HD4.out]; exact HLL.out)
                        go_wp2
                        go_roundw
                        case rel => exact ⟨I2, s, e, by omega, by omega, by omega, rfl, by simp; omega, HS, HF, HOQ, HGQ⟩
                        case measure => simp [intOf]; omega
                  · have f1 : (b : Int) - (I2 : Int) = ((b - I2 : Nat) : Int) := by omega
                    obtain ⟨bi, hbi⟩ : ∃ bi, bi = b - I2 := ⟨_, rfl⟩
                    rw [← hbi] at f1
                    have f2 : IntKind.i64.wrap (bi : Int) = (bi : Int) := wrap_natU (by omega)
                    have f3 : decide ((2 : Int) ≤ (bi : Int)) = false := by simp; omega
                    have f4 : decide (2 ≤ bi) = false := by simp; omega
                    have HD4 : Hid (e = D4) := hide (by rw [hD4, if_neg (by omega), hD3])
                    clear hD4 hD3 HXX hbi
                    have HF : Hid (Sort.partialIns lti a b s I2 e = R) := hide (by rw [HD4.out]; exact HLL.out)
                    go_wp2
                    go_roundw
                    case rel => exact ⟨I2, s, e, by omega, by omega, by omega, rfl, by simp; omega, HS, HF, HOQ, HGQ⟩
                    case measure => simp [intOf]; omega
        · have d1 : decide ((i : Int) < (b : Int)) = false := by simp; omega
          have d2 : decide (i < b) = false := by simp; omega
          have HXX : Hid (i = I2) := hide (by rw [← HX.out, ss_stop (.inl hc)])
          have hi2 := HXX.out
          subst hi2
          have hib : i = b := by omega
          have g1 : ((i : Int) == (b : Int)) = true := by rw [beq_iff_eq]; omega
          have g2 : (i == b) = true := by rw [beq_iff_eq]; omega
          have HE : Hid (R = (e, true)) := hide (by rw [← HL.out]; exact pi_done HI.out hib)
          clear hib hes HXX
          go_wp2
          go_quiet (fail)
          have HOQ := hide (HO.out.old (below_drewN (Below.refl _ _) nq))
          have HGQ := hide (grew_trans HG.out (grew_drewN _ nq _))
          go_wp2
          go_ret
          exact ⟨by rw [HE.out]; rfl, by rw [HE.out]; exact HOQ.out, HGQ.out⟩
end Go.Proofs.Ytmkafoidfgaokaa
