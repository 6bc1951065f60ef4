/- Whether a commit may be: the document's answer, over the translation. -/
import Derived.Test.YtapomhpahdmekaaORi
namespace Go.Proofs.Ytapomhpahdmekaa
open Go.RowKit Apo
set_option maxRecDepth 100000 in
set_option maxHeartbeats 8000000 in
theorem rcommit14 (c : Cm) (a : Option Addr) (cap : Nat) (w : World) (hr : Rd .u64 w a c.ps) (hl : c.ps.length ≤ cap) (_hc : cap ≤ 9223372036854775807) (ht : c.tx.size ≤ 9223372036854775807) :
    Calls Try.prog 13 #[cmV c.id a c.ps.length cap c.gen c.root c.tx] w fun e w' => e = .returned (.int .i64 (cmE c)) ∧ Below w.heap.size w w' := by
  obtain ⟨id, ps, gen, root, tx⟩ := c
  simp only at hr hl ht ⊢
  obtain ⟨n, hn⟩ : ∃ n, n = ps.length := ⟨_, rfl⟩
  have HE : Hid (cmE ⟨id, ps, gen, root, tx⟩ = if id = 0 then 120 else if parOk id ps = false then 120 else if genOk n gen = false then 120 else if txtOk tx = false then 121 else 0) := hide (by rw [hn]; rfl)
  have HC3 := hide (fun W => rtext_any14 tx W ht)
  rw [← hn] at hl ⊢
  have HL := hide hn
  have HR := hide hr
  have bA := (Below.refl w.heap.size w).alloc (Nat.le_refl _) (.cells #[.int .u64 id, .slice a n cap, .int .u64 gen, .int .u64 root, .string tx] 25)
  have HB := hide bA
  have HK := hide (Ob.new w [.int .u64 id, .slice a n cap, .int .u64 gen, .int .u64 root, .string tx] 25)
  clear hr ht bA hn
  by_cases h0 : id = 0
  · subst h0
    have HX : Hid (cmE ⟨0, ps, gen, root, tx⟩ = 120) := hide (by rw [HE.out]; simp)
    go_enter Try.func13, Try.ntmps13
    go_wp2
    go_ret
    exact ⟨by rw [HX.out]; rfl, HB.out⟩
  · have d0 : (id == 0) = false := by simpa using h0
    by_cases h2 : 2 < n
    · have HX : Hid (cmE ⟨id, ps, gen, root, tx⟩ = 120) := hide (by rw [HE.out, if_neg h0, if_pos (parOk_long (by have := HL.out; omega))])
      have d1 : decide ((2 : Int) < (n : Int)) = true := by simp; omega
      have d2 : decide (2 < n) = true := by simp; omega
      go_enter Try.func13, Try.ntmps13
      go_wp2
      go_ret
      exact ⟨by rw [HX.out]; rfl, HB.out⟩
    · have d1 : decide ((2 : Int) < (n : Int)) = false := by simp; omega
      have d2 : decide (2 < n) = false := by simp; omega
      have h3 : n ≤ 2 := by omega
      clear h2
      go_enter Try.func13, Try.ntmps13
      go_wp2
      go_loopw [17] (fun s wx => ∃ k : Nat, k ≤ n ∧ s = .int .i64 k ∧ Hid (parOk id (ps.take k) = true) ∧ Hid (Below w.heap.size w wx) ∧ Hid (Ob wx w.heap.size 25 [.int .u64 id, .slice a n cap, .int .u64 gen, .int .u64 root, .string tx])) (fun i _ => n - (intOf i).toNat)
      case atStart => exact ⟨0, by omega, rfl, hide (by simp [parOk]), HB, HK⟩
      case round =>
        clear HB HK
        obtain ⟨k, hk, rfl, HP, HB, HK⟩ := hrel
        have x0 := HK.out.cell 0
        have x1 := HK.out.cell 1
        have x2 := HK.out.cell 2
        have x4 := HK.out.cell 4
        simp only [List.getElem?_cons_zero, List.getElem?_cons_succ] at x0 x1 x2 x4
        by_cases hlt : k < n
        · obtain ⟨b, off, z, ha, hcz, hz, _⟩ := (HR.out.below HB.out).at (by have := HL.out; omega : k < ps.length)
          subst ha
          by_cases hz0 : z = 0
          · have HX : Hid (cmE ⟨id, ps, gen, root, tx⟩ = 120) := hide (by rw [HE.out, if_neg h0, if_pos (par_no (by have := HL.out; omega) hz.out (.inl hz0))])
            subst hz0
            go_wp2
            go_ret
            exact ⟨by rw [HX.out]; rfl, HB.out⟩
          · have q1 : (z == 0) = false := by simpa using hz0
            by_cases hz1 : id ≤ z
            · have HX : Hid (cmE ⟨id, ps, gen, root, tx⟩ = 120) := hide (by rw [HE.out, if_neg h0, if_pos (par_no (by have := HL.out; omega) hz.out (.inr (.inl hz1)))])
              go_wp2
              go_ret
              exact ⟨by rw [HX.out]; rfl, HB.out⟩
            · by_cases hk0 : k = 0
              · subst hk0
                rw [Nat.add_zero] at hcz
                have HS := hide (par_step (by have := HL.out; omega) HP.out hz.out hz0 (by omega) (fun j hj => by omega))
                go_wp2
                go_roundw
                case rel => exact ⟨1, by omega, by simp, HS, HB, HK⟩
                case measure => simp [intOf]; omega
              · obtain rfl : k = 1 := by omega
                obtain ⟨b', off', y, ha, hcy, hy, _⟩ := (HR.out.below HB.out).at (by have := HL.out; omega : 0 < ps.length)
                injection ha with ha
                injection ha with ha1 ha2
                subst ha1 ha2
                rw [Nat.add_zero] at hcy
                by_cases hyz : z = y
                · have HX : Hid (cmE ⟨id, ps, gen, root, tx⟩ = 120) := hide (by rw [HE.out, if_neg h0, if_pos (par_no (by have := HL.out; omega) hz.out (.inr (.inr ⟨0, by omega, by rw [hyz]; exact hy.out⟩)))])
                  subst hyz
                  have q2 : (z == z) = true := by simp
                  go_wp2
                  go_ret
                  exact ⟨by rw [HX.out]; rfl, HB.out⟩
                · have q2 : (z == y) = false := by simpa using hyz
                  have HS := hide (par_step (by have := HL.out; omega) HP.out hz.out hz0 (by omega) (fun j hj => by
                    obtain rfl : j = 0 := by omega
                    rw [hy.out]
                    intro e
                    exact hyz (Option.some.inj e).symm))
                  go_wp2
                  go_roundw
                  case rel => exact ⟨2, by omega, by simp, HS, HB, HK⟩
                  case measure => simp [intOf]; omega
        · obtain rfl : k = n := by omega
          have HE2 : Hid (cmE ⟨id, ps, gen, root, tx⟩ = if genOk k gen = false then 120 else if txtOk tx = false then 121 else 0) := hide (by
            have := HP.out
            rw [HL.out, List.take_length] at this
            rw [HE.out, if_neg h0, if_neg (by simp [this])])
          clear HE HP
          by_cases hk0 : k = 0
          · subst hk0
            by_cases hg1 : gen = 1
            · have hg : genOk 0 gen = true := by simp [genOk, hg1]
              have g1 : (gen != 1) = false := by simpa using hg1
              have g2 : (gen == 1) = true := by simpa using hg1
              cases ht : txtOk tx with
              | false =>
                have HX : Hid (cmE ⟨id, ps, gen, root, tx⟩ = 121) := hide (by rw [HE2.out, if_neg (by simp [hg]), if_pos ht])
                rw [ht] at HC3
                clear ht HE2 hg
                go_wp2_with fail
                refine (HC3.out _).mono ?_
                rintro e w3 ⟨rfl, rfl⟩
                go_wp2
                go_ret
                exact ⟨by rw [HX.out]; rfl, HB.out⟩
              | true =>
                have HX : Hid (cmE ⟨id, ps, gen, root, tx⟩ = 0) := hide (by rw [HE2.out, if_neg (by simp [hg]), if_neg (by simp [ht])])
                rw [ht] at HC3
                clear ht HE2 hg
                go_wp2_with fail
                refine (HC3.out _).mono ?_
                rintro e w3 ⟨rfl, rfl⟩
                go_wp2
                go_ret
                exact ⟨by rw [HX.out]; rfl, HB.out⟩
            · have HX : Hid (cmE ⟨id, ps, gen, root, tx⟩ = 120) := hide (by rw [HE2.out, if_pos (by simp [genOk, hg1])])
              have g1 : (gen != 1) = true := by simpa using hg1
              have g2 : (gen == 1) = false := by simpa using hg1
              clear HE2
              go_wp2
              go_ret
              exact ⟨by rw [HX.out]; rfl, HB.out⟩
          · have e1 : ((k : Int) == 0) = false := by simp; omega
            have e2 : decide ((0 : Int) < (k : Int)) = true := by simp; omega
            have e3 : decide (0 < k) = true := by simp; omega
            have e4 : (k == 0) = false := by simp; omega
            by_cases hg1 : gen < 2
            · have HX : Hid (cmE ⟨id, ps, gen, root, tx⟩ = 120) := hide (by rw [HE2.out, if_pos (by unfold genOk; rw [if_neg hk0]; simp; omega)])
              clear HE2
              go_wp2
              go_ret
              exact ⟨by rw [HX.out]; rfl, HB.out⟩
            · have hg : genOk k gen = true := by unfold genOk; rw [if_neg hk0]; simp; omega
              cases ht : txtOk tx with
              | false =>
                have HX : Hid (cmE ⟨id, ps, gen, root, tx⟩ = 121) := hide (by rw [HE2.out, if_neg (by simp [hg]), if_pos ht])
                rw [ht] at HC3
                clear ht HE2 hg
                go_wp2_with fail
                refine (HC3.out _).mono ?_
                rintro e w3 ⟨rfl, rfl⟩
                go_wp2
                go_ret
                exact ⟨by rw [HX.out]; rfl, HB.out⟩
              | true =>
                have HX : Hid (cmE ⟨id, ps, gen, root, tx⟩ = 0) := hide (by rw [HE2.out, if_neg (by simp [hg]), if_neg (by simp [ht])])
                rw [ht] at HC3
                clear ht HE2 hg
                go_wp2_with fail
                refine (HC3.out _).mono ?_
                rintro e w3 ⟨rfl, rfl⟩
                go_wp2
                go_ret
                exact ⟨by rw [HX.out]; rfl, HB.out⟩
end Go.Proofs.Ytapomhpahdmekaa
