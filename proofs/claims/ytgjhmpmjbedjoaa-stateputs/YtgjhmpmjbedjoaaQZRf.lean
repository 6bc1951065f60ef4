/- state.leads, state.refsMay. Over the translation. -/
import Derived.Test.YtgjhmpmjbedjoaaQSSt
import Derived.Test.YtgjhmpmjbedjoaaQZFd
import Derived.Test.YtgjhmpmjbedjoaaQA3
namespace Go.Proofs.Ytgjhmpmjbedjoaa
open Go.RowKit Apo
def leadB (s : Sv) (r : Rf) : Bool := (madeG s.md r.i).isSome || ((r.i == 0) && !r.t)
set_option maxRecDepth 100000 in
set_option maxHeartbeats 4000000 in
theorem leads_of (c0 c1 c2 c3 c4 c6 : Value) (a : Option Addr) (cap : Nat) (s : Sv) (r : Rf) (w : World) (h : RdG cMk 2 w a s.md) (hl : s.md.length ≤ 9223372036854775807) :
    Calls Try.prog 54 #[.agg #[c0, c1, c2, c3, c4, .slice a s.md.length cap, c6], .agg #[.string r.n, .bool r.t, .int .u64 r.i]] w fun e w' => e = .returned (.bool (leadB s r)) ∧ Below w.heap.size w w' := by
  have b1 : Below w.heap.size w (w.alloc (.cells #[c0, c1, c2, c3, c4, .slice a s.md.length cap, c6] 27)) := (Below.refl _ w).alloc (Nat.le_refl _) _
  have b2 : Below w.heap.size w ((w.alloc (.cells #[c0, c1, c2, c3, c4, .slice a s.md.length cap, c6] 27)).alloc (.cells #[.string r.n, .bool r.t, .int .u64 r.i] 57)) := b1.alloc b1.size _
  have HC := hide (find_of c0 c1 c2 c3 c4 c6 a cap s.md r.i _ (h.below b2) hl)
  have HB := hide b2
  have hk := Ob.new (w.alloc (.cells #[c0, c1, c2, c3, c4, .slice a s.md.length cap, c6] 27)) [.string r.n, .bool r.t, .int .u64 r.i] 57
  rw [World.size_alloc] at hk
  have HK := hide hk
  have k1 := (Ob.new w [c0, c1, c2, c3, c4, .slice a s.md.length cap, c6] 27).alloc (.cells #[.string r.n, .bool r.t, .int .u64 r.i] 57)
  have x0 := k1.cell 0
  have x1 := k1.cell 1
  have x2 := k1.cell 2
  have x3 := k1.cell 3
  have x4 := k1.cell 4
  have x5 := k1.cell 5
  have x6 := k1.cell 6
  have y2 := hk.cell 2
  simp only [List.getElem?_cons_zero, List.getElem?_cons_succ] at x0 x1 x2 x3 x4 x5 x6 y2
  obtain ⟨C, hC⟩ : ∃ C, C = chG s.md r.i := ⟨_, rfl⟩
  obtain ⟨S, hS⟩ : ∃ S, S = (madeG s.md r.i).isSome := ⟨_, rfl⟩
  unfold leadB
  rw [← hC, ← hS] at HC
  rw [← hS]
  generalize s.md.length = n at *
  clear h hl b1 b2 hk k1 hC hS
  go_enter Try.func54, Try.ntmps54
  go_wp2_with fail
  refine HC.out.mono ?_
  rintro e w2 ⟨rfl, b3⟩
  have k3 := HK.out.old b3
  have HB3 := hide (HB.out.trans (b3.mono HB.out.size))
  have z1 := k3.cell 1
  have z2 := k3.cell 2
  simp only [List.getElem?_cons_zero, List.getElem?_cons_succ] at z1 z2
  clear x0 x1 x2 x3 x4 x5 x6 y2 b3 k3 HC
  cases S with
  | true =>
    go_wp2
    go_ret
    exact ⟨rfl, HB3.out⟩
  | false =>
    by_cases hi : r.i = 0
    · have di : (r.i == 0) = true := by simpa using hi
      have HI := hide di
      clear hi
      go_wp2
      go_ret
      exact ⟨by rw [HI.out]; simp, HB3.out⟩
    · have di : (r.i == 0) = false := by simpa using hi
      have HI := hide di
      clear hi
      go_wp2
      go_ret
      exact ⟨by rw [HI.out]; simp, HB3.out⟩
theorem str_leq (a b : ByteArray) : (Op.bytesLess a.toList b.toList || (a.toList == b.toList)) = !sLt b a := by
  show (sLt a b || (a.toList == b.toList)) = !sLt b a
  cases h : sLt b a with
  | true =>
    have h1 : sLt a b = false := by
      cases q : sLt a b with
      | false => rfl
      | true => have := sLt_trans q h; rw [sLt_irr] at this; cases this
    have h2 : (a.toList == b.toList) = false := by
      rw [beq_eq_false_iff_ne]
      intro e
      rw [bytes_of_list e, sLt_irr] at h
      cases h
    rw [h1, h2]
    rfl
  | false =>
    cases q : sLt a b with
    | true => rfl
    | false =>
      rw [sLt_conn q h]
      simp
/-- the Name ahead of a place -/
def aheadR (l : List Rf) : Nat → ByteArray
  | 0 => ⟨#[]⟩
  | k + 1 => match l[k]? with
    | some r => r.n
    | none => ⟨#[]⟩
theorem aheadR_next {l : List Rf} {k : Nat} {r : Rf} (h : l[k]? = some r) : aheadR l (k + 1) = r.n := by simp [aheadR, h]
theorem nameM_pos {n : ByteArray} (h : nameM n = true) : 0 < n.size := by
  unfold nameM at h
  simp only [Bool.and_eq_true, decide_eq_true_eq] at h
  omega
theorem sLt_nil {n : ByteArray} (h : 0 < n.size) : sLt ⟨#[]⟩ n = true := by
  have e : n.toList ≠ [] := fun e => by
    have : n = ⟨#[]⟩ := bytes_of_list (by rw [e]; simp)
    rw [this] at h
    exact absurd h (by decide)
  unfold sLt
  cases q : n.toList with
  | nil => exact absurd q e
  | cons c l =>
    rw [show (⟨#[]⟩ : ByteArray).toList = [] from by simp]
    rfl
theorem refB_bad {s : Sv} {k : Nat} {r : Rf} (hr : s.rf[k]? = some r) (hn : nameM r.n = true) (h : sLt (aheadR s.rf k) r.n = false) : refB s k r = true := by
  cases k with
  | zero => rw [show aheadR s.rf 0 = ⟨#[]⟩ from rfl, sLt_nil (nameM_pos hn)] at h; cases h
  | succ k =>
    have hl := (List.getElem?_eq_some_iff.1 hr).1
    have hp : s.rf[k]? = some (s.rf[k]'(by omega)) := List.getElem?_eq_getElem _
    refine refB_low (p := s.rf[k]'(by omega)) (by omega) hp ?_
    rwa [aheadR_next hp] at h
theorem refB_lead {s : Sv} {k : Nat} {r : Rf} (h : leadB s r = false) : refB s k r = true := by
  unfold leadB at h
  simp only [Bool.or_eq_false_iff, Bool.and_eq_false_iff, Bool.not_eq_false', beq_eq_false_iff_ne] at h
  obtain ⟨h1, h2⟩ := h
  exact refB_id h1 (by rcases h2 with h2 | h2; exact .inr h2; exact .inl h2)
theorem refB_fine {s : Sv} {k : Nat} {r : Rf} (hn : nameM r.n = true) (h : sLt (aheadR s.rf k) r.n = true) (hl : leadB s r = true) : refB s k r = false := by
  refine refB_ok hn (fun p hk hp => ?_) ?_
  · cases k with
    | zero => omega
    | succ k => rw [show k + 1 - 1 = k from rfl] at hp; rwa [aheadR_next hp] at h
  · unfold leadB at hl
    simp only [Bool.or_eq_true, Bool.and_eq_true, Bool.not_eq_true', beq_iff_eq] at hl
    rcases hl with hl | hl
    · exact .inl hl
    · exact .inr ⟨hl.2, hl.1⟩
def refsOk (s : Sv) : Prop := s.rf.length ≤ 40 ∧ (∀ i r, s.rf[i]? = some r → refB s i r = false) ∧ headB s = true
open Classical in
set_option maxRecDepth 100000 in
set_option maxHeartbeats 8000000 in
theorem refsmay_any (x : SvA) (w : World) (h : SvR w x) :
    Calls Try.prog 31 #[.agg (cSv x).toArray] w fun e w' => e = .returned (.bool (decide (refsOk x.s))) ∧ Below w.heap.size w w' := by
  obtain ⟨s, ra, rc, ma, mc, ca, cc⟩ := x
  unfold cSv
  simp only
  have HX := hide h
  obtain ⟨B, hB⟩ : ∃ B, B = decide (refsOk s) := ⟨_, rfl⟩
  have hb1 : s.rf.length ≤ 9223372036854775807 := by have := h.rl; simp only at this; unfold maxLen at this; omega
  have hb2 : s.md.length ≤ 9223372036854775807 := by have := h.ml; simp only at this; unfold maxLen at this; omega
  obtain ⟨n1, hn1⟩ : ∃ n, n = s.rf.length := ⟨_, rfl⟩
  obtain ⟨n2, hn2⟩ : ∃ n, n = s.md.length := ⟨_, rfl⟩
  obtain ⟨n3, hn3⟩ : ∃ n, n = s.cl.length := ⟨_, rfl⟩
  rw [← hB, ← hn1, ← hn2, ← hn3]
  rw [← hn1] at hb1
  have HB := hide hB
  have HN1 := hide hn1
  have bA : Below w.heap.size w (w.alloc (.cells #[.string s.hd, .int .u64 s.wk, .int .u64 s.nx, .int .u64 s.pd, .slice ra n1 rc, .slice ma n2 mc, .slice ca n3 cc] 27)) := (Below.refl _ w).alloc (Nat.le_refl _) _
  have HBA := hide bA
  have hk := Ob.new w [.string s.hd, .int .u64 s.wk, .int .u64 s.nx, .int .u64 s.pd, .slice ra n1 rc, .slice ma n2 mc, .slice ca n3 cc] 27
  have HK := hide hk
  have HLD : Hid (∀ (r : Rf) (W : World), Below w.heap.size w W → Calls Try.prog 54 #[.agg #[.string s.hd, .int .u64 s.wk, .int .u64 s.nx, .int .u64 s.pd, .slice ra n1 rc, .slice ma n2 mc, .slice ca n3 cc], .agg #[.string r.n, .bool r.t, .int .u64 r.i]] W fun e w' => e = .returned (.bool (leadB s r)) ∧ Below W.heap.size W w') := hide (fun r W b => by
    have := leads_of (.string s.hd) (.int .u64 s.wk) (.int .u64 s.nx) (.int .u64 s.pd) (.slice ra n1 rc) (.slice ca n3 cc) ma mc s r W (HX.out.mr.below b) hb2
    rw [← hn2] at this
    exact this)
  clear h hB hn1 hn2 hn3 bA hk hb2
  by_cases h2 : 40 < n1
  · have d : decide ((40 : Int) < (n1 : Int)) = true := by simp; omega
    have HF : Hid (B = false) := hide (by
      rw [HB.out]
      simp only [decide_eq_false_iff_not]
      rintro ⟨q, _⟩
      rw [← HN1.out] at q
      omega)
    go_enter Try.func31, Try.ntmps31
    go_wp2
    go_ret
    exact ⟨by rw [HF.out]; rfl, HBA.out⟩
  have d : decide ((40 : Int) < (n1 : Int)) = false := by simp; omega
  go_enter Try.func31, Try.ntmps31
  go_wp2
  go_loopw [3, 4, 14] (fun av hv i wr => ∃ (k : Nat) (A : ByteArray) (H : Bool), k ≤ n1 ∧ av = .string A ∧ hv = .bool H ∧ i = .int .i64 k ∧ Hid (A = aheadR s.rf k) ∧ Hid (H = (s.rf.take k).any (hdB s.hd)) ∧ Hid (∀ j r, j < k → s.rf[j]? = some r → refB s j r = false) ∧ Hid (Ob wr w.heap.size 27 [.string s.hd, .int .u64 s.wk, .int .u64 s.nx, .int .u64 s.pd, .slice ra n1 rc, .slice ma n2 mc, .slice ca n3 cc]) ∧ Hid (Below w.heap.size w wr)) (fun _ _ i _ => n1 - (intOf i).toNat)
  case atStart => exact ⟨0, ⟨#[]⟩, false, Nat.zero_le _, rfl, rfl, rfl, hide rfl, hide (by simp), hide (fun j m hj => by omega), HK, HBA⟩
  case round =>
    clear HK HBA
    obtain ⟨k, A, H, hk, rfl, rfl, rfl, HA, HH, HO, HK, HW⟩ := hrel
    by_cases hlt : k < n1
    · obtain ⟨r, hr⟩ : ∃ r, s.rf[k]? = some r := ⟨s.rf[k]'(by have := HN1.out; omega), List.getElem?_eq_getElem _⟩
      obtain ⟨g, o, rfl, q0, q1, q2⟩ := rd_rf (HX.out.below HW.out).rr hr
      have hrz : r.n.size ≤ 9223372036854775807 := by have := HX.out.rz r (List.mem_of_getElem? hr); unfold maxLen at this; omega
      have bR : Below wr.heap.size wr (wr.alloc (.cells #[.string r.n, .bool r.t, .int .u64 r.i] 57)) := (Below.refl _ _).alloc (Nat.le_refl _) _
      have HW2 := hide (HW.out.trans (bR.mono HW.out.size))
      have hk2 := HK.out.old bR
      have HK2 := hide hk2
      have hr2 := Ob.new wr [.string r.n, .bool r.t, .int .u64 r.i] 57
      have HR2 := hide hr2
      have x0 := hk2.cell 0
      have x1 := hk2.cell 1
      have x2 := hk2.cell 2
      have x3 := hk2.cell 3
      have x4 := hk2.cell 4
      have x5 := hk2.cell 5
      have x6 := hk2.cell 6
      have y0 := hr2.cell 0
      have y1 := hr2.cell 1
      have y2 := hr2.cell 2
      simp only [List.getElem?_cons_zero, List.getElem?_cons_succ] at x0 x1 x2 x3 x4 x5 x6 y0 y1 y2
      have HRK := hide hr
      have HNM := hide (pname_any r.n (wr.alloc (.cells #[.string r.n, .bool r.t, .int .u64 r.i] 57)) hrz)
      have HCL := hide (HLD.out r _ HW2.out)
      have HBAD : Hid (refB s k r = true → B = false) := hide (fun q => by
        rw [HB.out]
        simp only [decide_eq_false_iff_not]
        rintro ⟨_, q2, _⟩
        rw [q2 k r HRK.out] at q
        cases q)
      obtain ⟨LB, hLB⟩ : ∃ LB, LB = leadB s r := ⟨_, rfl⟩
      rw [← hLB] at HCL
      have HLB := hide hLB
      clear hr bR hk2 hr2 hLB
      cases hnm : nameM r.n with
      | false =>
        have HF : Hid (B = false) := hide (HBAD.out (refB_name hnm))
        rw [hnm] at HNM
        clear hnm
        go_wp2_with fail
        refine HNM.out.mono ?_
        rintro e w2 ⟨rfl, rfl⟩
        go_wp2
        go_ret
        exact ⟨by rw [HF.out]; rfl, HW2.out⟩
      | true =>
      rw [hnm] at HNM
      have HNT := hide hnm
      clear hnm
      have hge := str_leq r.n A
      cases hsl : sLt A r.n with
      | false =>
        have HF : Hid (B = false) := hide (HBAD.out (refB_bad HRK.out HNT.out (by rw [← HA.out]; exact hsl)))
        rw [hsl] at hge
        clear hsl
        go_wp2_with fail
        refine HNM.out.mono ?_
        rintro e w2 ⟨rfl, rfl⟩
        go_wp2
        go_ret
        exact ⟨by rw [HF.out]; rfl, HW2.out⟩
      | true =>
      rw [hsl] at hge
      have HSL := hide hsl
      clear hsl
      cases LB with
      | false =>
        have HF : Hid (B = false) := hide (HBAD.out (refB_lead HLB.out.symm))
        go_wp2_with fail
        refine HNM.out.mono ?_
        rintro e w2 ⟨rfl, rfl⟩
        go_wp2_with fail
        refine HCL.out.mono ?_
        rintro e w3 ⟨rfl, b3⟩
        have HW3 := hide (HW2.out.trans (b3.mono HW2.out.size))
        clear b3
        go_wp2
        go_ret
        exact ⟨by rw [HF.out]; rfl, HW3.out⟩
      | true =>
      have HO2 : Hid (∀ j y, j < k + 1 → s.rf[j]? = some y → refB s j y = false) := hide (fun j y hj hy => by
        by_cases q : j = k
        · subst q
          rw [HRK.out] at hy
          injection hy with hy
          rw [← hy]
          exact refB_fine HNT.out (by rw [← HA.out]; exact HSL.out) HLB.out.symm
        · exact HO.out j y (by omega) hy)
      have HA2 : Hid (r.n = aheadR s.rf (k + 1)) := hide (aheadR_next HRK.out).symm
      have hst := hdB_step (hd := s.hd) HRK.out
      go_wp2_with fail
      refine HNM.out.mono ?_
      rintro e w2 ⟨rfl, rfl⟩
      go_wp2_with fail
      refine HCL.out.mono ?_
      rintro e w3 ⟨rfl, b3⟩
      have HW3 := hide (HW2.out.trans (b3.mono HW2.out.size))
      have hk3 := HK2.out.old b3
      have hr3 := HR2.out.old b3
      have z0 := hk3.cell 0
      have v0 := hr3.cell 0
      have v1 := hr3.cell 1
      simp only [List.getElem?_cons_zero, List.getElem?_cons_succ] at z0 v0 v1
      have HK3 := hide hk3
      clear x0 x1 x2 x3 x4 x5 x6 y0 y1 y2 b3 hk3 hr3 HNM HCL
      cases H with
      | true =>
        have HH2 : Hid (true = (s.rf.take (k + 1)).any (hdB s.hd)) := hide (by rw [hst, ← HH.out]; rfl)
        clear hst
        go_wp2
        go_roundw
        case rel => exact ⟨k + 1, r.n, true, by omega, rfl, rfl, by simp, HA2, HH2, HO2, HK3, HW3⟩
        case measure => simp [intOf]; omega
      | false =>
      by_cases hh : r.n = s.hd
      · have dh : (r.n.toList == s.hd.toList) = true := by rw [hh]; simp
        have HH2 : Hid ((!r.t) = (s.rf.take (k + 1)).any (hdB s.hd)) := hide (by rw [hst, ← HH.out]; simp [hdB, hh])
        clear hst hh
        go_wp2
        go_roundw
        case rel => exact ⟨k + 1, r.n, !r.t, by omega, rfl, rfl, by simp, HA2, HH2, HO2, HK3, HW3⟩
        case measure => simp [intOf]; omega
      · have dh : (r.n.toList == s.hd.toList) = false := by rw [beq_eq_false_iff_ne]; exact fun e => hh (bytes_of_list e)
        have HH2 : Hid (false = (s.rf.take (k + 1)).any (hdB s.hd)) := hide (by rw [hst, ← HH.out]; simp [hdB, hh])
        clear hst hh
        go_wp2
        go_roundw
        case rel => exact ⟨k + 1, r.n, false, by omega, rfl, rfl, by simp, HA2, HH2, HO2, HK3, HW3⟩
        case measure => simp [intOf]; omega
    · obtain rfl : k = n1 := by omega
      have HF : Hid (B = H) := hide (by
        rw [HB.out, HH.out, show (s.rf.take k) = s.rf from by rw [HN1.out, List.take_length]]
        have e : decide (refsOk s) = decide (headB s = true) := by
          congr 1
          refine propext ⟨fun q => q.2.2, fun q => ⟨by rw [← HN1.out]; omega, fun i m hi => HO.out i m (by rw [HN1.out]; exact (List.getElem?_eq_some_iff.1 hi).1) hi, q⟩⟩
        rw [e]
        unfold headB
        cases s.rf.any (hdB s.hd) <;> simp)
      go_wp2
      go_ret
      exact ⟨by rw [HF.out]; rfl, HW.out⟩
end Go.Proofs.Ytgjhmpmjbedjoaa
