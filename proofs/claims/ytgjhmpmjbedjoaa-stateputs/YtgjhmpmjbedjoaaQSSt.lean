/- The document's State: whether a state may be. Over the translation. (Written by tools/gen_sst.py.) -/
import Derived.BigQuiet
import Derived.Test.YtgjhmpmjbedjoaaQSMd
import Derived.Test.YtgjhmpmjbedjoaaQCRc
namespace Go.Proofs.Ytgjhmpmjbedjoaa
open Go.RowKit Apo
theorem str_geq (a b : ByteArray) : (!Op.bytesLess a.toList b.toList) = !sLt a b := rfl
theorem refB_name {s : Sv} {i : Nat} {r : Rf} (h : nameM r.n = false) : refB s i r = true := by simp [refB, h]
theorem refB_low {s : Sv} {i : Nat} {r p : Rf} (hi : 0 < i) (hp : s.rf[i - 1]? = some p) (h : sLt p.n r.n = false) : refB s i r = true := by simp [refB, lowR, hi, hp, h]
theorem refB_id {s : Sv} {i : Nat} {r : Rf} (h1 : (madeG s.md r.i).isSome = false) (h2 : r.t = true ∨ r.i ≠ 0) : refB s i r = true := by
  rcases h2 with h2 | h2
  · simp [refB, h1, h2]
  · simp [refB, h1, h2]
theorem refB_ok {s : Sv} {i : Nat} {r : Rf} (h1 : nameM r.n = true) (h2 : ∀ p, 0 < i → s.rf[i - 1]? = some p → sLt p.n r.n = true) (h3 : (madeG s.md r.i).isSome = true ∨ (r.t = false ∧ r.i = 0)) : refB s i r = false := by
  have hb : (decide (0 < i) && lowR s.rf[i - 1]? r.n) = false := by
    by_cases hi : 0 < i
    · cases hp : s.rf[i - 1]? with
      | none => simp [lowR]
      | some p => simp [lowR, h2 p hi hp]
    · simp [hi]
  unfold refB
  rw [h1, hb]
  rcases h3 with h3 | ⟨h3, h4⟩
  · simp [h3]
  · simp [h3, h4]
theorem hdB_step {hd : ByteArray} {l : List Rf} {k : Nat} {r : Rf} (h : l[k]? = some r) : (l.take (k + 1)).any (hdB hd) = ((l.take k).any (hdB hd) || hdB hd r) := by
  rw [List.take_add_one, h, List.any_append]
  simp
theorem mkB_of {s : Sv} {i : Nat} {m : Mk} (h : m.id = 0 ∨ s.nx ≤ m.id ∨ m.ch = 0) : mkB s i m = true := by
  rcases h with h | h | h <;> simp [mkB, h]
theorem mkB_low {s : Sv} {i : Nat} {m p : Mk} (hi : 0 < i) (hp : s.md[i - 1]? = some p) (h : m.id ≤ p.id) : mkB s i m = true := by simp [mkB, lowM, hi, hp, h]
theorem mkB_ok {s : Sv} {i : Nat} {m : Mk} (h1 : m.id ≠ 0) (h2 : ¬ s.nx ≤ m.id) (h3 : m.ch ≠ 0) (h4 : ∀ p, 0 < i → s.md[i - 1]? = some p → ¬ m.id ≤ p.id) : mkB s i m = false := by
  have hb : (decide (0 < i) && lowM s.md[i - 1]? m.id) = false := by
    by_cases hi : 0 < i
    · cases hp : s.md[i - 1]? with
      | none => simp [lowM]
      | some p => have := h4 p hi hp; simp [lowM]; omega
    · simp [hi]
  unfold mkB
  rw [hb]
  simp [h1, h2, h3]
set_option maxRecDepth 100000 in
set_option maxHeartbeats 32000000 in
theorem rstate_any (x : SvA) (w : World) (h : SvR w x) (hlc : x.s.cl.length ≤ 1000000) :
    Calls Try.prog 13 #[.agg (cSv x).toArray] w fun e w' => e = .returned (.int .i64 (stateE x.s)) ∧ Below w.heap.size w w' := by
  obtain ⟨s, ra, rc, ma, mc, ca, cc⟩ := x
  unfold cSv
  simp only at hlc ⊢
  have HX := hide h
  have hb1 : s.rf.length ≤ 9223372036854775807 := by have := h.rl; simp only at this; unfold maxLen at this; omega
  have hb2 : s.md.length ≤ 9223372036854775807 := by have := h.ml; simp only at this; unfold maxLen at this; omega
  have hb3 : s.cl.length ≤ 9223372036854775807 := by have := h.cl; simp only at this; unfold maxLen at this; omega
  obtain ⟨E, hE⟩ : ∃ E, E = stateE s := ⟨_, rfl⟩
  obtain ⟨n1, hn1⟩ : ∃ n, n = s.rf.length := ⟨_, rfl⟩
  obtain ⟨n2, hn2⟩ : ∃ n, n = s.md.length := ⟨_, rfl⟩
  obtain ⟨n3, hn3⟩ : ∃ n, n = s.cl.length := ⟨_, rfl⟩
  rw [← hE, ← hn1, ← hn2, ← hn3]
  rw [← hn1] at hb1
  rw [← hn2] at hb2
  rw [← hn3] at hb3
  have HLC : Hid (s.cl.length ≤ 1000000) := hide hlc
  have HE := hide hE
  have HN1 := hide hn1
  have HN2 := hide hn2
  have HN3 := hide hn3
  have bA : Below w.heap.size w (w.alloc (.cells #[.string s.hd, .int .u64 s.wk, .int .u64 s.nx, .int .u64 s.pd, .slice ra n1 rc, .slice ma n2 mc, .slice ca n3 cc] 27)) := (Below.refl _ w).alloc (Nat.le_refl _) _
  have HBA := hide bA
  have HK := hide (Ob.new w [.string s.hd, .int .u64 s.wk, .int .u64 s.nx, .int .u64 s.pd, .slice ra n1 rc, .slice ma n2 mc, .slice ca n3 cc] 27)
  have HMD : Hid (∀ (id : Int) (W : World), Below w.heap.size w W → Calls Try.prog 11 #[.agg #[.string s.hd, .int .u64 s.wk, .int .u64 s.nx, .int .u64 s.pd, .slice ra n1 rc, .slice ma n2 mc, .slice ca n3 cc], .int .u64 id] W fun e w' => e = .returned (.tuple #[.int .u64 (chG s.md id), .bool (madeG s.md id).isSome]) ∧ Below W.heap.size W w') := hide (fun id W b => by
    have := rmade_of (.string s.hd) (.int .u64 s.wk) (.int .u64 s.nx) (.int .u64 s.pd) (.slice ra n1 rc) (.slice ca n3 cc) ma mc s.md id W (HX.out.mr.below b) (by rw [← hn2]; exact hb2)
    rw [← hn2] at this
    exact this)
  have HRF : Hid (∀ k r, s.rf[k]? = some r → refB s k r = true → E = 150) := hide (fun k r h1 h2 => by rw [HE.out]; exact stateE_ref h1 h2)
  have HMK : Hid (∀ k m, s.md[k]? = some m → mkB s k m = true → E = 150) := hide (fun k r h1 h2 => by rw [HE.out]; exact stateE_mk h1 h2)
  clear h hE hn1 hn2 hn3 bA hlc
  go_enter Try.func13, Try.ntmps13
  go_wp2
  go_loopw [3, 15] (fun hv i wr => ∃ (k : Nat) (H : Bool), k ≤ n1 ∧ hv = .bool H ∧ i = .int .i64 k ∧ Hid (H = (s.rf.take k).any (hdB s.hd)) ∧ Hid (∀ j r, j < k → s.rf[j]? = some r → refB s j r = false) ∧ Hid (Ob wr w.heap.size 27 [.string s.hd, .int .u64 s.wk, .int .u64 s.nx, .int .u64 s.pd, .slice ra n1 rc, .slice ma n2 mc, .slice ca n3 cc]) ∧ Hid (Below w.heap.size w wr)) (fun _ i _ => n1 - (intOf i).toNat)
  case atStart => exact ⟨0, false, Nat.zero_le _, rfl, rfl, hide (by simp), hide (fun j r hj => by omega), HK, HBA⟩
  case round =>
    obtain ⟨k, H, hk, rfl, rfl, HH, HO, HKK, HB⟩ := hrel
    have m0 := HKK.out.cell 0
    have m1 := HKK.out.cell 1
    have m2 := HKK.out.cell 2
    have m3 := HKK.out.cell 3
    have m4 := HKK.out.cell 4
    have m5 := HKK.out.cell 5
    have m6 := HKK.out.cell 6
    simp only [List.getElem?_cons_zero, List.getElem?_cons_succ] at m0 m1 m2 m3 m4 m5 m6
    by_cases hlt : k < n1
    · obtain ⟨r, hr⟩ : ∃ r, s.rf[k]? = some r := ⟨s.rf[k]'(by have := HN1.out; omega), List.getElem?_eq_getElem _⟩
      obtain ⟨g, o, rfl, q0, q1, q2⟩ := rd_rf (HX.out.below HB.out).rr hr
      have hrz : r.n.size ≤ 9223372036854775807 := by have := HX.out.rz r (List.mem_of_getElem? hr); unfold maxLen at this; omega
      have bR : Below wr.heap.size wr (wr.alloc (.cells #[.string r.n, .bool r.t, .int .u64 r.i] 57)) := (Below.refl _ _).alloc (Nat.le_refl _) _
      have HBR := hide (HB.out.trans (bR.mono HB.out.size))
      have HKR := hide (HKK.out.old bR)
      have HR0 := hide (Ob.new wr [.string r.n, .bool r.t, .int .u64 r.i] 57)
      have HCM := hide (HMD.out r.i _ HBR.out)
      have HRK := hide hr
      have HBAD := hide (fun (q : refB s k r = true) => HRF.out k r hr q)
      obtain ⟨c, hc⟩ : ∃ c, c = chG s.md r.i := ⟨_, rfl⟩
      obtain ⟨is, his⟩ : ∃ is, is = (madeG s.md r.i).isSome := ⟨_, rfl⟩
      rw [← hc, ← his] at HCM
      have HIS := hide his
      clear hr bR hc his
      have z0 := HKR.out.cell 0
      have z1 := HKR.out.cell 1
      have z2 := HKR.out.cell 2
      have z3 := HKR.out.cell 3
      have z4 := HKR.out.cell 4
      have z5 := HKR.out.cell 5
      have z6 := HKR.out.cell 6
      simp only [List.getElem?_cons_zero, List.getElem?_cons_succ] at z0 z1 z2 z3 z4 z5 z6
      go_wp2_with fail
      refine HCM.out.mono ?_
      rintro e w2 ⟨rfl, b2⟩
      have HB2 := hide (HBR.out.trans (b2.mono HBR.out.size))
      have HK2 := hide (HKR.out.old b2)
      have HR2 := hide (HR0.out.old b2)
      have u0 := HK2.out.cell 0
      have u4 := HK2.out.cell 4
      have v0 := HR2.out.cell 0
      have v1 := HR2.out.cell 1
      have v2 := HR2.out.cell 2
      simp only [List.getElem?_cons_zero, List.getElem?_cons_succ] at u0 u4 v0 v1 v2
      have HNM := hide (fun W => rname_any r.n W hrz)
      clear b2 m0 m1 m2 m3 m4 m5 m6 z0 z1 z2 z3 z4 z5 z6 q0 q1 q2 HCM HBR HKR HR0 HB HKK
      cases hnm : nameM r.n with
      | false =>
        have HNMF := hide hnm
        rw [hnm] at HNM
        clear hnm
        have HF : Hid (E = 150) := hide (HBAD.out (refB_name HNMF.out))
        go_wp2
        go_quiet (first | (go_at_call 33; exact (HNM.out _).mono (fun _ _ h => ⟨h.1, _, h.2.symm⟩)))
        go_wp2
        go_ret
        exact ⟨by rw [HF.out]; rfl, below_drewN HB2.out _⟩
      | true =>
      have HNMT := hide hnm
      rw [hnm] at HNM
      clear hnm
      by_cases hk0 : k = 0
      · have d0 : decide ((0 : Int) < (k : Int)) = false := by simp; omega
        have d0n : decide (0 < k) = false := by simp; omega
        have HK0 := hide hk0
        clear hk0
        cases is with
        | true =>
          have HO2 : Hid (∀ j r, j < k + 1 → s.rf[j]? = some r → refB s j r = false) := hide (fun j y hj hy => by
            by_cases q : j = k
            · subst q
              rw [HRK.out] at hy
              injection hy with hy
              rw [← hy]
              exact refB_ok HNMT.out (fun p q => absurd q (by have := HK0.out; omega)) (.inl HIS.out.symm)
            · exact HO.out j y (by omega) hy)
          cases H with
          | true =>
            have HH2 : Hid (true = (s.rf.take (k + 1)).any (hdB s.hd)) := hide (by rw [hdB_step HRK.out, ← HH.out]; simp)
            go_wp2
            go_quiet (first | (go_at_call 33; exact (HNM.out _).mono (fun _ _ h => ⟨h.1, _, h.2.symm⟩)))
            go_wp2
            go_roundw
            case rel => exact ⟨k + 1, true, by omega, rfl, by simp, HH2, HO2, hide (HK2.out.old (below_drewN (Below.refl _ _) _)), hide (below_drewN HB2.out _)⟩
            case measure => simp [intOf]; omega
          | false =>
            by_cases hh : r.n = s.hd
            · have dh : (r.n.toList == s.hd.toList) = true := by rw [hh]; simp
              have eh : decide (r.n = s.hd) = true := by simpa using hh
              have HEH := hide eh
              clear hh eh
              cases ht2 : r.t with
              | true =>
                have HT2 := hide ht2
                rw [ht2] at v1
                have HH2 : Hid (false = (s.rf.take (k + 1)).any (hdB s.hd)) := hide (by rw [hdB_step HRK.out, ← HH.out]; simp [hdB, HEH.out, HT2.out])
                go_wp2
                go_quiet (first | (go_at_call 33; exact (HNM.out _).mono (fun _ _ h => ⟨h.1, _, h.2.symm⟩)))
                go_wp2
                go_roundw
                case rel => exact ⟨k + 1, false, by omega, rfl, by simp, HH2, HO2, hide (HK2.out.old (below_drewN (Below.refl _ _) _)), hide (below_drewN HB2.out _)⟩
                case measure => simp [intOf]; omega
              | false =>
                have HT2 := hide ht2
                rw [ht2] at v1
                have HH2 : Hid (true = (s.rf.take (k + 1)).any (hdB s.hd)) := hide (by rw [hdB_step HRK.out, ← HH.out]; simp [hdB, HEH.out, HT2.out])
                go_wp2
                go_quiet (first | (go_at_call 33; exact (HNM.out _).mono (fun _ _ h => ⟨h.1, _, h.2.symm⟩)))
                go_wp2
                go_roundw
                case rel => exact ⟨k + 1, true, by omega, rfl, by simp, HH2, HO2, hide (HK2.out.old (below_drewN (Below.refl _ _) _)), hide (below_drewN HB2.out _)⟩
                case measure => simp [intOf]; omega
            · have dh : (r.n.toList == s.hd.toList) = false := by rw [beq_eq_false_iff_ne]; exact fun e => hh (bytes_of_list e)
              have eh : decide (r.n = s.hd) = false := by simpa using hh
              have HEH := hide eh
              clear hh eh
              have HH2 : Hid (false = (s.rf.take (k + 1)).any (hdB s.hd)) := hide (by rw [hdB_step HRK.out, ← HH.out]; simp [hdB, HEH.out])
              go_wp2
              go_quiet (first | (go_at_call 33; exact (HNM.out _).mono (fun _ _ h => ⟨h.1, _, h.2.symm⟩)))
              go_wp2
              go_roundw
              case rel => exact ⟨k + 1, false, by omega, rfl, by simp, HH2, HO2, hide (HK2.out.old (below_drewN (Below.refl _ _) _)), hide (below_drewN HB2.out _)⟩
              case measure => simp [intOf]; omega
        | false =>
          cases ht : r.t with
          | true =>
            have HT := hide ht
            rw [ht] at v1
            have HF : Hid (E = 150) := hide (HBAD.out (refB_id HIS.out.symm (.inl HT.out)))
            go_wp2
            go_quiet (first | (go_at_call 33; exact (HNM.out _).mono (fun _ _ h => ⟨h.1, _, h.2.symm⟩)))
            go_wp2
            go_ret
            exact ⟨by rw [HF.out]; rfl, below_drewN HB2.out _⟩
          | false =>
            have HT := hide ht
            rw [ht] at v1
            by_cases hi0 : r.i = 0
            · have di : (r.i != 0) = false := by simpa using hi0
              have HI0 := hide hi0
              clear hi0
              have HO2 : Hid (∀ j r, j < k + 1 → s.rf[j]? = some r → refB s j r = false) := hide (fun j y hj hy => by
                by_cases q : j = k
                · subst q
                  rw [HRK.out] at hy
                  injection hy with hy
                  rw [← hy]
                  exact refB_ok HNMT.out (fun p q => absurd q (by have := HK0.out; omega)) (.inr ⟨HT.out, HI0.out⟩)
                · exact HO.out j y (by omega) hy)
              cases H with
              | true =>
                have HH2 : Hid (true = (s.rf.take (k + 1)).any (hdB s.hd)) := hide (by rw [hdB_step HRK.out, ← HH.out]; simp)
                go_wp2
                go_quiet (first | (go_at_call 33; exact (HNM.out _).mono (fun _ _ h => ⟨h.1, _, h.2.symm⟩)))
                go_wp2
                go_roundw
                case rel => exact ⟨k + 1, true, by omega, rfl, by simp, HH2, HO2, hide (HK2.out.old (below_drewN (Below.refl _ _) _)), hide (below_drewN HB2.out _)⟩
                case measure => simp [intOf]; omega
              | false =>
                by_cases hh : r.n = s.hd
                · have dh : (r.n.toList == s.hd.toList) = true := by rw [hh]; simp
                  have eh : decide (r.n = s.hd) = true := by simpa using hh
                  have HEH := hide eh
                  clear hh eh
                  have HH2 : Hid (true = (s.rf.take (k + 1)).any (hdB s.hd)) := hide (by rw [hdB_step HRK.out, ← HH.out]; simp [hdB, HEH.out, HT.out])
                  go_wp2
                  go_quiet (first | (go_at_call 33; exact (HNM.out _).mono (fun _ _ h => ⟨h.1, _, h.2.symm⟩)))
                  go_wp2
                  go_roundw
                  case rel => exact ⟨k + 1, true, by omega, rfl, by simp, HH2, HO2, hide (HK2.out.old (below_drewN (Below.refl _ _) _)), hide (below_drewN HB2.out _)⟩
                  case measure => simp [intOf]; omega
                · have dh : (r.n.toList == s.hd.toList) = false := by rw [beq_eq_false_iff_ne]; exact fun e => hh (bytes_of_list e)
                  have eh : decide (r.n = s.hd) = false := by simpa using hh
                  have HEH := hide eh
                  clear hh eh
                  have HH2 : Hid (false = (s.rf.take (k + 1)).any (hdB s.hd)) := hide (by rw [hdB_step HRK.out, ← HH.out]; simp [hdB, HEH.out])
                  go_wp2
                  go_quiet (first | (go_at_call 33; exact (HNM.out _).mono (fun _ _ h => ⟨h.1, _, h.2.symm⟩)))
                  go_wp2
                  go_roundw
                  case rel => exact ⟨k + 1, false, by omega, rfl, by simp, HH2, HO2, hide (HK2.out.old (below_drewN (Below.refl _ _) _)), hide (below_drewN HB2.out _)⟩
                  case measure => simp [intOf]; omega
            · have di : (r.i != 0) = true := by simpa using hi0
              have HI0 := hide hi0
              clear hi0
              have HF : Hid (E = 150) := hide (HBAD.out (refB_id HIS.out.symm (.inr HI0.out)))
              go_wp2
              go_quiet (first | (go_at_call 33; exact (HNM.out _).mono (fun _ _ h => ⟨h.1, _, h.2.symm⟩)))
              go_wp2
              go_ret
              exact ⟨by rw [HF.out]; rfl, below_drewN HB2.out _⟩
      · obtain ⟨kp, hkp⟩ : ∃ kp, kp = k - 1 := ⟨_, rfl⟩
        obtain ⟨pr, hpr⟩ : ∃ pr, s.rf[k - 1]? = some pr := ⟨s.rf[k - 1]'(by have := HN1.out; omega), List.getElem?_eq_getElem _⟩
        have p0 : w2.cell? ⟨g, o + kp * 3, none⟩ = some (.string pr.n) := by
          obtain ⟨_, _, e1, d0, _⟩ := rd_rf (HX.out.below HB2.out).rr hpr
          injection e1 with e1
          injection e1 with e1 e2
          subst e1 e2
          rw [hkp]
          exact d0
        have d0 : decide ((0 : Int) < (k : Int)) = true := by simp; omega
        have d0n : decide (0 < k) = true := by simp; omega
        have wj : IntKind.i64.wrap ((k : Int) - 1) = (kp : Int) := by rw [IntKind.wrap_i64]; omega
        have wj2 : (k : Int) - 1 = (kp : Int) := by omega
        have wj3 : IntKind.i64.wrap (kp : Int) = (kp : Int) := by rw [IntKind.wrap_i64]; omega
        have g1 : kp < n1 := by omega
        have hk00 : 0 < k := by omega
        have HPR := hide hpr
        clear hkp hpr hk0
        cases hsl : sLt pr.n r.n with
        | false =>
          have HSL := hide hsl
          have hbl : Op.bytesLess pr.n.toList r.n.toList = false := hsl
          clear hsl
          have HF : Hid (E = 150) := hide (HBAD.out (refB_low hk00 HPR.out HSL.out))
          go_wp2
          go_quiet (first | (go_at_call 33; exact (HNM.out _).mono (fun _ _ h => ⟨h.1, _, h.2.symm⟩)))
          go_wp2
          go_ret
          exact ⟨by rw [HF.out]; rfl, below_drewN HB2.out _⟩
        | true =>
          have HSL := hide hsl
          have hbl : Op.bytesLess pr.n.toList r.n.toList = true := hsl
          clear hsl
          cases is with
          | true =>
            have HO2 : Hid (∀ j r, j < k + 1 → s.rf[j]? = some r → refB s j r = false) := hide (fun j y hj hy => by
              by_cases q : j = k
              · subst q
                rw [HRK.out] at hy
                injection hy with hy
                rw [← hy]
                exact refB_ok HNMT.out (fun p _ q => by rw [HPR.out] at q; injection q with q; rw [← q]; exact HSL.out) (.inl HIS.out.symm)
              · exact HO.out j y (by omega) hy)
            cases H with
            | true =>
              have HH2 : Hid (true = (s.rf.take (k + 1)).any (hdB s.hd)) := hide (by rw [hdB_step HRK.out, ← HH.out]; simp)
              go_wp2
              go_quiet (first | (go_at_call 33; exact (HNM.out _).mono (fun _ _ h => ⟨h.1, _, h.2.symm⟩)))
              go_wp2
              go_roundw
              case rel => exact ⟨k + 1, true, by omega, rfl, by simp, HH2, HO2, hide (HK2.out.old (below_drewN (Below.refl _ _) _)), hide (below_drewN HB2.out _)⟩
              case measure => simp [intOf]; omega
            | false =>
              by_cases hh : r.n = s.hd
              · have dh : (r.n.toList == s.hd.toList) = true := by rw [hh]; simp
                have eh : decide (r.n = s.hd) = true := by simpa using hh
                have HEH := hide eh
                clear hh eh
                cases ht2 : r.t with
                | true =>
                  have HT2 := hide ht2
                  rw [ht2] at v1
                  have HH2 : Hid (false = (s.rf.take (k + 1)).any (hdB s.hd)) := hide (by rw [hdB_step HRK.out, ← HH.out]; simp [hdB, HEH.out, HT2.out])
                  go_wp2
                  go_quiet (first | (go_at_call 33; exact (HNM.out _).mono (fun _ _ h => ⟨h.1, _, h.2.symm⟩)))
                  go_wp2
                  go_roundw
                  case rel => exact ⟨k + 1, false, by omega, rfl, by simp, HH2, HO2, hide (HK2.out.old (below_drewN (Below.refl _ _) _)), hide (below_drewN HB2.out _)⟩
                  case measure => simp [intOf]; omega
                | false =>
                  have HT2 := hide ht2
                  rw [ht2] at v1
                  have HH2 : Hid (true = (s.rf.take (k + 1)).any (hdB s.hd)) := hide (by rw [hdB_step HRK.out, ← HH.out]; simp [hdB, HEH.out, HT2.out])
                  go_wp2
                  go_quiet (first | (go_at_call 33; exact (HNM.out _).mono (fun _ _ h => ⟨h.1, _, h.2.symm⟩)))
                  go_wp2
                  go_roundw
                  case rel => exact ⟨k + 1, true, by omega, rfl, by simp, HH2, HO2, hide (HK2.out.old (below_drewN (Below.refl _ _) _)), hide (below_drewN HB2.out _)⟩
                  case measure => simp [intOf]; omega
              · have dh : (r.n.toList == s.hd.toList) = false := by rw [beq_eq_false_iff_ne]; exact fun e => hh (bytes_of_list e)
                have eh : decide (r.n = s.hd) = false := by simpa using hh
                have HEH := hide eh
                clear hh eh
                have HH2 : Hid (false = (s.rf.take (k + 1)).any (hdB s.hd)) := hide (by rw [hdB_step HRK.out, ← HH.out]; simp [hdB, HEH.out])
                go_wp2
                go_quiet (first | (go_at_call 33; exact (HNM.out _).mono (fun _ _ h => ⟨h.1, _, h.2.symm⟩)))
                go_wp2
                go_roundw
                case rel => exact ⟨k + 1, false, by omega, rfl, by simp, HH2, HO2, hide (HK2.out.old (below_drewN (Below.refl _ _) _)), hide (below_drewN HB2.out _)⟩
                case measure => simp [intOf]; omega
          | false =>
            cases ht : r.t with
            | true =>
              have HT := hide ht
              rw [ht] at v1
              have HF : Hid (E = 150) := hide (HBAD.out (refB_id HIS.out.symm (.inl HT.out)))
              go_wp2
              go_quiet (first | (go_at_call 33; exact (HNM.out _).mono (fun _ _ h => ⟨h.1, _, h.2.symm⟩)))
              go_wp2
              go_ret
              exact ⟨by rw [HF.out]; rfl, below_drewN HB2.out _⟩
            | false =>
              have HT := hide ht
              rw [ht] at v1
              by_cases hi0 : r.i = 0
              · have di : (r.i != 0) = false := by simpa using hi0
                have HI0 := hide hi0
                clear hi0
                have HO2 : Hid (∀ j r, j < k + 1 → s.rf[j]? = some r → refB s j r = false) := hide (fun j y hj hy => by
                  by_cases q : j = k
                  · subst q
                    rw [HRK.out] at hy
                    injection hy with hy
                    rw [← hy]
                    exact refB_ok HNMT.out (fun p _ q => by rw [HPR.out] at q; injection q with q; rw [← q]; exact HSL.out) (.inr ⟨HT.out, HI0.out⟩)
                  · exact HO.out j y (by omega) hy)
                cases H with
                | true =>
                  have HH2 : Hid (true = (s.rf.take (k + 1)).any (hdB s.hd)) := hide (by rw [hdB_step HRK.out, ← HH.out]; simp)
                  go_wp2
                  go_quiet (first | (go_at_call 33; exact (HNM.out _).mono (fun _ _ h => ⟨h.1, _, h.2.symm⟩)))
                  go_wp2
                  go_roundw
                  case rel => exact ⟨k + 1, true, by omega, rfl, by simp, HH2, HO2, hide (HK2.out.old (below_drewN (Below.refl _ _) _)), hide (below_drewN HB2.out _)⟩
                  case measure => simp [intOf]; omega
                | false =>
                  by_cases hh : r.n = s.hd
                  · have dh : (r.n.toList == s.hd.toList) = true := by rw [hh]; simp
                    have eh : decide (r.n = s.hd) = true := by simpa using hh
                    have HEH := hide eh
                    clear hh eh
                    have HH2 : Hid (true = (s.rf.take (k + 1)).any (hdB s.hd)) := hide (by rw [hdB_step HRK.out, ← HH.out]; simp [hdB, HEH.out, HT.out])
                    go_wp2
                    go_quiet (first | (go_at_call 33; exact (HNM.out _).mono (fun _ _ h => ⟨h.1, _, h.2.symm⟩)))
                    go_wp2
                    go_roundw
                    case rel => exact ⟨k + 1, true, by omega, rfl, by simp, HH2, HO2, hide (HK2.out.old (below_drewN (Below.refl _ _) _)), hide (below_drewN HB2.out _)⟩
                    case measure => simp [intOf]; omega
                  · have dh : (r.n.toList == s.hd.toList) = false := by rw [beq_eq_false_iff_ne]; exact fun e => hh (bytes_of_list e)
                    have eh : decide (r.n = s.hd) = false := by simpa using hh
                    have HEH := hide eh
                    clear hh eh
                    have HH2 : Hid (false = (s.rf.take (k + 1)).any (hdB s.hd)) := hide (by rw [hdB_step HRK.out, ← HH.out]; simp [hdB, HEH.out])
                    go_wp2
                    go_quiet (first | (go_at_call 33; exact (HNM.out _).mono (fun _ _ h => ⟨h.1, _, h.2.symm⟩)))
                    go_wp2
                    go_roundw
                    case rel => exact ⟨k + 1, false, by omega, rfl, by simp, HH2, HO2, hide (HK2.out.old (below_drewN (Below.refl _ _) _)), hide (below_drewN HB2.out _)⟩
                    case measure => simp [intOf]; omega
              · have di : (r.i != 0) = true := by simpa using hi0
                have HI0 := hide hi0
                clear hi0
                have HF : Hid (E = 150) := hide (HBAD.out (refB_id HIS.out.symm (.inr HI0.out)))
                go_wp2
                go_quiet (first | (go_at_call 33; exact (HNM.out _).mono (fun _ _ h => ⟨h.1, _, h.2.symm⟩)))
                go_wp2
                go_ret
                exact ⟨by rw [HF.out]; rfl, below_drewN HB2.out _⟩
    · obtain rfl : k = n1 := by omega
      have HHF : Hid (H = headB s) := hide (by
        rw [HH.out]
        unfold headB
        rw [HN1.out, List.take_length])
      have HOF : Hid (∀ i r, s.rf[i]? = some r → refB s i r = false) := hide (fun i r hi => HO.out i r (by rw [HN1.out]; exact (List.getElem?_eq_some_iff.1 hi).1) hi)
      clear HH HO m0 m1 m2 m3 m4 m6
      go_wp2
      go_loopw [77] (fun v wx => ∃ k2 : Nat, k2 ≤ n2 ∧ v = .int .i64 k2 ∧ Hid (∀ j m, j < k2 → s.md[j]? = some m → mkB s j m = false) ∧ Hid (Ob wx w.heap.size 27 [.string s.hd, .int .u64 s.wk, .int .u64 s.nx, .int .u64 s.pd, .slice ra k rc, .slice ma n2 mc, .slice ca n3 cc]) ∧ Hid (Below w.heap.size w wx)) (fun v _ => n2 - (intOf v).toNat)
      case atStart => exact ⟨0, Nat.zero_le _, rfl, hide (fun j m hj => by omega), HKK, HB⟩
      case round =>
        clear HKK HB m5
        obtain ⟨k2, hk2, rfl, HM2, HKK, HB⟩ := hrel
        have m0 := HKK.out.cell 0
        have m1 := HKK.out.cell 1
        have m2 := HKK.out.cell 2
        have m3 := HKK.out.cell 3
        have m4 := HKK.out.cell 4
        have m5 := HKK.out.cell 5
        have m6 := HKK.out.cell 6
        simp only [List.getElem?_cons_zero, List.getElem?_cons_succ] at m0 m1 m2 m3 m4 m5 m6
        by_cases hlt2 : k2 < n2
        · obtain ⟨m, hm⟩ : ∃ m, s.md[k2]? = some m := ⟨s.md[k2]'(by have := HN2.out; omega), List.getElem?_eq_getElem _⟩
          obtain ⟨g, o, rfl, q0, q1⟩ := rd_mk (HX.out.below HB.out).mr hm
          have bR : Below wr.heap.size wr (wr.alloc (.cells #[.int .u64 m.id, .int .u64 m.ch] 60)) := (Below.refl _ _).alloc (Nat.le_refl _) _
          have HB2 := hide (HB.out.trans (bR.mono HB.out.size))
          have HK2 := hide (HKK.out.old bR)
          have HRK := hide hm
          have HBAD := hide (fun (q : mkB s k2 m = true) => HMK.out k2 m hm q)
          clear hm bR
          have a2 := HK2.out.cell 2
          have a5 := HK2.out.cell 5
          simp only [List.getElem?_cons_zero, List.getElem?_cons_succ] at a2 a5
          by_cases hi0 : m.id = 0
          · have di : (m.id == 0) = true := by simpa using hi0
            have HI0 := hide hi0
            clear hi0
            have HF : Hid (E = 150) := hide (HBAD.out (mkB_of (.inl HI0.out)))
            go_wp2
            go_quiet (fail)
            go_wp2
            go_ret
            exact ⟨by rw [HF.out]; rfl, below_drewN HB2.out _⟩
          have di : (m.id == 0) = false := by simpa using hi0
          have HI0 := hide hi0
          clear hi0
          by_cases hnx : s.nx ≤ m.id
          · have dx : decide (s.nx ≤ m.id) = true := by simpa using hnx
            have HNX := hide hnx
            clear hnx
            have HF : Hid (E = 150) := hide (HBAD.out (mkB_of (.inr (.inl HNX.out))))
            go_wp2
            go_quiet (fail)
            go_wp2
            go_ret
            exact ⟨by rw [HF.out]; rfl, below_drewN HB2.out _⟩
          have dx : decide (s.nx ≤ m.id) = false := by simpa using hnx
          have HNX := hide hnx
          clear hnx
          by_cases hc0 : m.ch = 0
          · have dc : (m.ch == 0) = true := by simpa using hc0
            have HC0 := hide hc0
            clear hc0
            have HF : Hid (E = 150) := hide (HBAD.out (mkB_of (.inr (.inr HC0.out))))
            go_wp2
            go_quiet (fail)
            go_wp2
            go_ret
            exact ⟨by rw [HF.out]; rfl, below_drewN HB2.out _⟩
          have dc : (m.ch == 0) = false := by simpa using hc0
          have HC0 := hide hc0
          clear hc0
          by_cases hk0 : k2 = 0
          · have d0 : decide ((0 : Int) < (k2 : Int)) = false := by simp; omega
            have d0n : decide (0 < k2) = false := by simp; omega
            have HK0 := hide hk0
            clear hk0
            have HM3 : Hid (∀ j m, j < k2 + 1 → s.md[j]? = some m → mkB s j m = false) := hide (fun j y hj hy => by
              by_cases q : j = k2
              · subst q
                rw [HRK.out] at hy
                injection hy with hy
                rw [← hy]
                exact mkB_ok HI0.out HNX.out HC0.out (fun p q => absurd q (by have := HK0.out; omega))
              · exact HM2.out j y (by omega) hy)
            go_wp2
            go_quiet (fail)
            go_wp2
            go_roundw
            case rel => exact ⟨k2 + 1, by omega, by simp, HM3, hide (HK2.out.old (below_drewN (Below.refl _ _) _)), hide (below_drewN HB2.out _)⟩
            case measure => simp [intOf]; omega
          obtain ⟨kp, hkp⟩ : ∃ kp, kp = k2 - 1 := ⟨_, rfl⟩
          obtain ⟨pr, hpr⟩ : ∃ pr, s.md[k2 - 1]? = some pr := ⟨s.md[k2 - 1]'(by have := HN2.out; omega), List.getElem?_eq_getElem _⟩
          have p0 : (wr.alloc (.cells #[.int .u64 m.id, .int .u64 m.ch] 60)).cell? ⟨g, o + kp * 2, none⟩ = some (.int .u64 pr.id) := by
            obtain ⟨_, _, e1, d0, _⟩ := rd_mk (HX.out.below HB2.out).mr hpr
            injection e1 with e1
            injection e1 with e1 e2
            subst e1 e2
            rw [hkp]
            exact d0
          have d0 : decide ((0 : Int) < (k2 : Int)) = true := by simp; omega
          have d0n : decide (0 < k2) = true := by simp; omega
          have wj : IntKind.i64.wrap ((k2 : Int) - 1) = (kp : Int) := by rw [IntKind.wrap_i64]; omega
          have wj2 : (k2 : Int) - 1 = (kp : Int) := by omega
          have wj3 : IntKind.i64.wrap (kp : Int) = (kp : Int) := by rw [IntKind.wrap_i64]; omega
          have g1 : kp < n2 := by omega
          have hk00 : 0 < k2 := by omega
          have HPR := hide hpr
          clear hkp hpr hk0
          by_cases hle : m.id ≤ pr.id
          · have dl : decide (m.id ≤ pr.id) = true := by simpa using hle
            have HLE := hide hle
            clear hle
            have HF : Hid (E = 150) := hide (HBAD.out (mkB_low hk00 HPR.out HLE.out))
            go_wp2
            go_quiet (fail)
            go_wp2
            go_ret
            exact ⟨by rw [HF.out]; rfl, below_drewN HB2.out _⟩
          · have dl : decide (m.id ≤ pr.id) = false := by simpa using hle
            have HLE := hide hle
            clear hle
            have HM3 : Hid (∀ j m, j < k2 + 1 → s.md[j]? = some m → mkB s j m = false) := hide (fun j y hj hy => by
              by_cases q : j = k2
              · subst q
                rw [HRK.out] at hy
                injection hy with hy
                rw [← hy]
                exact mkB_ok HI0.out HNX.out HC0.out (fun p _ q => by rw [HPR.out] at q; injection q with q; rw [← q]; exact HLE.out)
              · exact HM2.out j y (by omega) hy)
            go_wp2
            go_quiet (fail)
            go_wp2
            go_roundw
            case rel => exact ⟨k2 + 1, by omega, by simp, HM3, hide (HK2.out.old (below_drewN (Below.refl _ _) _)), hide (below_drewN HB2.out _)⟩
            case measure => simp [intOf]; omega
        · obtain rfl : k2 = n2 := by omega
          have HMF : Hid (∀ i m, s.md[i]? = some m → mkB s i m = false) := hide (fun i m hi => HM2.out i m (by rw [HN2.out]; exact (List.getElem?_eq_some_iff.1 hi).1) hi)
          have HCM := hide (HMD.out s.pd _ HB.out)
          obtain ⟨c, hc⟩ : ∃ c, c = chG s.md s.pd := ⟨_, rfl⟩
          obtain ⟨is, his⟩ : ∃ is, is = (madeG s.md s.pd).isSome := ⟨_, rfl⟩
          rw [← hc, ← his] at HCM
          have HFB : Hid (finB s = ((((((!H || (s.nx == 0)) || decide (40 < k)) || decide (200 < k2)) || ((s.pd != 0) && !is)) || ((s.pd == 0) && decide (0 < n3))) || (clashE s.cl != 0))) := hide (by unfold finB; rw [HHF.out, his, HN1.out, HN2.out, HN3.out])
          have HCL := hide (fun W (b : Below w.heap.size w W) => rclashes_any W ca cc s.cl (HX.out.cr.below b) HLC.out HX.out.cz)
          rw [← HN3.out] at HCL
          have HOK : Hid (finB s = false → E = 0) := hide (fun q => by rw [HE.out]; exact stateE_ok HOF.out HMF.out q)
          have HNO : Hid (finB s = true → E = 150) := hide (fun q => by rw [HE.out]; exact stateE_fin q)
          clear hc his
          go_wp2_with fail
          refine HCM.out.mono ?_
          rintro e w2 ⟨rfl, b2⟩
          have HB2 := hide (HB.out.trans (b2.mono HB.out.size))
          have HK2 := hide (HKK.out.old b2)
          have u2 := HK2.out.cell 2
          have u3 := HK2.out.cell 3
          have u4 := HK2.out.cell 4
          have u5 := HK2.out.cell 5
          have u6 := HK2.out.cell 6
          simp only [List.getElem?_cons_zero, List.getElem?_cons_succ] at u2 u3 u4 u5 u6
          have HCC := hide (HCL.out _ HB2.out)
          obtain ⟨ce, hce⟩ : ∃ ce, ce = clashE s.cl := ⟨_, rfl⟩
          rw [← hce] at HCC HFB
          clear b2 hce HKK HB HCM m0 m1 m2 m3 m4 m5 m6 HCL
          cases H with
          | false =>
            have HF : Hid (E = 150) := hide (HNO.out (by rw [HFB.out]; simp))
            go_wp2
            go_ret
            exact ⟨by rw [HF.out]; rfl, HB2.out⟩
          | true =>
          by_cases t1 : s.nx = 0
          · have dt1 : (s.nx == 0) = true := by simpa using t1
            have xt1 := dt1
            clear t1
            have HF : Hid (E = 150) := hide (HNO.out (by rw [HFB.out, xt1]; simp))
            go_wp2
            go_ret
            exact ⟨by rw [HF.out]; rfl, HB2.out⟩
          have dt1 : (s.nx == 0) = false := by simpa using t1
          have xt1 := dt1
          by_cases t2 : 40 < k
          · have dt2 : decide ((40 : Int) < (k : Int)) = true := by simp; omega
            have xt2 : decide (40 < k) = true := by simpa using t2
            clear t2
            have HF : Hid (E = 150) := hide (HNO.out (by rw [HFB.out, xt1, xt2]; simp))
            go_wp2
            go_ret
            exact ⟨by rw [HF.out]; rfl, HB2.out⟩
          have dt2 : decide ((40 : Int) < (k : Int)) = false := by simp; omega
          have xt2 : decide (40 < k) = false := by simpa using t2
          by_cases t3 : 200 < k2
          · have dt3 : decide ((200 : Int) < (k2 : Int)) = true := by simp; omega
            have xt3 : decide (200 < k2) = true := by simpa using t3
            clear t3
            have HF : Hid (E = 150) := hide (HNO.out (by rw [HFB.out, xt1, xt2, xt3]; simp))
            go_wp2
            go_ret
            exact ⟨by rw [HF.out]; rfl, HB2.out⟩
          have dt3 : decide ((200 : Int) < (k2 : Int)) = false := by simp; omega
          have xt3 : decide (200 < k2) = false := by simpa using t3
          by_cases t4 : s.pd = 0
          · have d4 : (s.pd == 0) = true := by simpa using t4
            have d4' : (s.pd != 0) = false := by simpa using t4
            clear t4
            by_cases t5 : 0 < n3
            · have d5 : decide ((0 : Int) < (n3 : Int)) = true := by simp; omega
              have x5 : decide (0 < n3) = true := by simpa using t5
              clear t5
              have HF : Hid (E = 150) := hide (HNO.out (by rw [HFB.out, xt1, xt2, xt3, d4, d4', x5]; simp))
              go_wp2
              go_ret
              exact ⟨by rw [HF.out]; rfl, HB2.out⟩
            · have d5 : decide ((0 : Int) < (n3 : Int)) = false := by simp; omega
              have x5 : decide (0 < n3) = false := by simpa using t5
              clear t5
              by_cases t6 : ce = 0
              · have d6 : (ce != 0) = false := by simpa using t6
                have HF : Hid (E = 0) := hide (HOK.out (by rw [HFB.out, xt1, xt2, xt3, d4, d4', x5, d6]; simp))
                clear t6
                go_wp2_with fail
                refine HCC.out.mono ?_
                rintro e w3 ⟨rfl, b3⟩
                have HB3 := hide (HB2.out.trans (b3.mono HB2.out.size))
                clear b3
                go_wp2
                go_ret
                exact ⟨by rw [HF.out]; rfl, HB3.out⟩
              · have d6 : (ce != 0) = true := by simpa using t6
                have HF : Hid (E = 150) := hide (HNO.out (by rw [HFB.out, xt1, xt2, xt3, d4, d4', x5, d6]; simp))
                clear t6
                go_wp2_with fail
                refine HCC.out.mono ?_
                rintro e w3 ⟨rfl, b3⟩
                have HB3 := hide (HB2.out.trans (b3.mono HB2.out.size))
                clear b3
                go_wp2
                go_ret
                exact ⟨by rw [HF.out]; rfl, HB3.out⟩
          · have d4 : (s.pd == 0) = false := by simpa using t4
            have d4' : (s.pd != 0) = true := by simpa using t4
            clear t4
            cases is with
            | false =>
              have HF : Hid (E = 150) := hide (HNO.out (by rw [HFB.out, xt1, xt2, xt3, d4, d4']; simp))
              go_wp2
              go_ret
              exact ⟨by rw [HF.out]; rfl, HB2.out⟩
            | true =>
              by_cases t6 : ce = 0
              · have d6 : (ce != 0) = false := by simpa using t6
                have HF : Hid (E = 0) := hide (HOK.out (by rw [HFB.out, xt1, xt2, xt3, d4, d4', d6]; simp))
                clear t6
                go_wp2_with fail
                refine HCC.out.mono ?_
                rintro e w3 ⟨rfl, b3⟩
                have HB3 := hide (HB2.out.trans (b3.mono HB2.out.size))
                clear b3
                go_wp2
                go_ret
                exact ⟨by rw [HF.out]; rfl, HB3.out⟩
              · have d6 : (ce != 0) = true := by simpa using t6
                have HF : Hid (E = 150) := hide (HNO.out (by rw [HFB.out, xt1, xt2, xt3, d4, d4', d6]; simp))
                clear t6
                go_wp2_with fail
                refine HCC.out.mono ?_
                rintro e w3 ⟨rfl, b3⟩
                have HB3 := hide (HB2.out.trans (b3.mono HB2.out.size))
                clear b3
                go_wp2
                go_ret
                exact ⟨by rw [HF.out]; rfl, HB3.out⟩
end Go.Proofs.Ytgjhmpmjbedjoaa
