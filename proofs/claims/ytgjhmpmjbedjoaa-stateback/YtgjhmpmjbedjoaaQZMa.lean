/- state.madeMay. Over the translation. -/
import Derived.Test.YtgjhmpmjbedjoaaQSSt
import Derived.Test.YtgjhmpmjbedjoaaQZFd
namespace Go.Proofs.Ytgjhmpmjbedjoaa
open Go.RowKit Apo
/-- the Id ahead of a place -/
def aheadM (l : List Mk) : Nat → Int
  | 0 => 0
  | k + 1 => match l[k]? with
    | some m => m.id
    | none => 0
theorem aheadM_next {l : List Mk} {k : Nat} {m : Mk} (h : l[k]? = some m) : aheadM l (k + 1) = m.id := by simp [aheadM, h]
theorem aheadM_pos {l : List Mk} (h : ∀ m ∈ l, u64B m.id ∧ u64B m.ch) (k : Nat) : 0 ≤ aheadM l k := by
  cases k with
  | zero => exact Int.le_refl _
  | succ k =>
    cases hq : l[k]? with
    | some m => rw [aheadM_next hq]; exact (h m (List.mem_of_getElem? hq)).1.1
    | none => simp [aheadM, hq]
theorem mkB_ahead {s : Sv} {k : Nat} {m : Mk} (hm : s.md[k]? = some m) (h0 : 0 ≤ m.id) (h : m.id ≤ aheadM s.md k) : mkB s k m = true := by
  cases k with
  | zero => exact mkB_of (.inl (by rw [show aheadM s.md 0 = 0 from rfl] at h; omega))
  | succ k =>
    have hl := (List.getElem?_eq_some_iff.1 hm).1
    have hp : s.md[k]? = some (s.md[k]'(by omega)) := List.getElem?_eq_getElem _
    refine mkB_low (p := s.md[k]'(by omega)) (by omega) hp ?_
    rwa [aheadM_next hp] at h
theorem mkB_fine {s : Sv} {k : Nat} {m : Mk} (hs : 0 ≤ aheadM s.md k) (h1 : ¬ m.id ≤ aheadM s.md k) (h2 : ¬ s.nx ≤ m.id) (h3 : m.ch ≠ 0) : mkB s k m = false := by
  refine mkB_ok (by omega) h2 h3 (fun p hk hp => ?_)
  cases k with
  | zero => omega
  | succ k => rw [show k + 1 - 1 = k from rfl] at hp; rwa [aheadM_next hp] at h1
def madeOk (s : Sv) : Prop := s.md.length ≤ 200 ∧ ∀ i m, s.md[i]? = some m → mkB s i m = false
open Classical in
set_option maxRecDepth 100000 in
set_option maxHeartbeats 4000000 in
theorem mademay_any (x : SvA) (w : World) (h : SvR w x) :
    Calls Try.prog 30 #[.agg (cSv x).toArray] w fun e w' => e = .returned (.bool (decide (madeOk x.s))) ∧ Below w.heap.size w w' := by
  obtain ⟨s, ra, rc, ma, mc, ca, cc⟩ := x
  unfold cSv
  simp only
  have HX := hide h
  obtain ⟨B, hB⟩ : ∃ B, B = decide (madeOk s) := ⟨_, rfl⟩
  have hb2 : s.md.length ≤ 9223372036854775807 := by have := h.ml; simp only at this; unfold maxLen at this; omega
  obtain ⟨n1, hn1⟩ : ∃ n, n = s.rf.length := ⟨_, rfl⟩
  obtain ⟨n2, hn2⟩ : ∃ n, n = s.md.length := ⟨_, rfl⟩
  obtain ⟨n3, hn3⟩ : ∃ n, n = s.cl.length := ⟨_, rfl⟩
  rw [← hB, ← hn1, ← hn2, ← hn3]
  rw [← hn2] at hb2
  have HB := hide hB
  have HN2 := hide hn2
  have bA : Below w.heap.size w (w.alloc (.cells #[.string s.hd, .int .u64 s.wk, .int .u64 s.nx, .int .u64 s.pd, .slice ra n1 rc, .slice ma n2 mc, .slice ca n3 cc] 27)) := (Below.refl _ w).alloc (Nat.le_refl _) _
  have HBA := hide bA
  have hk := Ob.new w [.string s.hd, .int .u64 s.wk, .int .u64 s.nx, .int .u64 s.pd, .slice ra n1 rc, .slice ma n2 mc, .slice ca n3 cc] 27
  have HK := hide hk
  clear h hB hn1 hn2 hn3 bA hk
  by_cases h2 : 200 < n2
  · have d : decide ((200 : Int) < (n2 : Int)) = true := by simp; omega
    have HF : Hid (B = false) := hide (by
      rw [HB.out]
      simp only [decide_eq_false_iff_not]
      rintro ⟨q, _⟩
      rw [← HN2.out] at q
      omega)
    go_enter Try.func30, Try.ntmps30
    go_wp2
    go_ret
    exact ⟨by rw [HF.out]; rfl, HBA.out⟩
  have d : decide ((200 : Int) < (n2 : Int)) = false := by simp; omega
  go_enter Try.func30, Try.ntmps30
  go_wp2
  go_loopw [3, 13] (fun av i wr => ∃ (k : Nat) (A : Int), k ≤ n2 ∧ av = .int .u64 A ∧ i = .int .i64 k ∧ Hid (A = aheadM s.md k) ∧ Hid (∀ j m, j < k → s.md[j]? = some m → mkB s j m = false) ∧ Hid (Ob wr w.heap.size 27 [.string s.hd, .int .u64 s.wk, .int .u64 s.nx, .int .u64 s.pd, .slice ra n1 rc, .slice ma n2 mc, .slice ca n3 cc]) ∧ Hid (Below w.heap.size w wr)) (fun _ i _ => n2 - (intOf i).toNat)
  case atStart => exact ⟨0, 0, Nat.zero_le _, rfl, rfl, hide rfl, hide (fun j m hj => by omega), HK, HBA⟩
  case round =>
    clear HK HBA
    obtain ⟨k, A, hk, rfl, rfl, HA, HO, HK, HW⟩ := hrel
    by_cases hlt : k < n2
    · obtain ⟨m, hm⟩ : ∃ m, s.md[k]? = some m := ⟨s.md[k]'(by have := HN2.out; omega), List.getElem?_eq_getElem _⟩
      obtain ⟨g, o, rfl, q0, q1⟩ := rd_mk (HX.out.below HW.out).mr hm
      have bR : Below wr.heap.size wr (wr.alloc (.cells #[.int .u64 m.id, .int .u64 m.ch] 60)) := (Below.refl _ _).alloc (Nat.le_refl _) _
      have HW2 := hide (HW.out.trans (bR.mono HW.out.size))
      have hk2 := HK.out.old bR
      have HK2 := hide hk2
      have a2 := hk2.cell 2
      simp only [List.getElem?_cons_zero, List.getElem?_cons_succ] at a2
      have HRK := hide hm
      have hz := (HX.out.mi m (List.mem_of_getElem? hm)).1.1
      have hap : 0 ≤ A := by rw [HA.out]; exact aheadM_pos HX.out.mi k
      have HBAD : Hid (mkB s k m = true → B = false) := hide (fun q => by
        rw [HB.out]
        simp only [decide_eq_false_iff_not]
        rintro ⟨_, q2⟩
        rw [q2 k m HRK.out] at q
        cases q)
      clear hm bR hk2
      by_cases h1 : m.id ≤ A
      · have d1 : decide (m.id ≤ A) = true := by simpa using h1
        have HF : Hid (B = false) := hide (HBAD.out (mkB_ahead HRK.out hz (by rw [← HA.out]; exact h1)))
        clear h1
        go_wp2
        go_ret
        exact ⟨by rw [HF.out]; rfl, HW2.out⟩
      have d1 : decide (m.id ≤ A) = false := by simpa using h1
      by_cases hnx : s.nx ≤ m.id
      · have dx : decide (s.nx ≤ m.id) = true := by simpa using hnx
        have HF : Hid (B = false) := hide (HBAD.out (mkB_of (.inr (.inl hnx))))
        clear hnx h1
        go_wp2
        go_ret
        exact ⟨by rw [HF.out]; rfl, HW2.out⟩
      have dx : decide (s.nx ≤ m.id) = false := by simpa using hnx
      by_cases hc : m.ch = 0
      · have dc : (m.ch == 0) = true := by simpa using hc
        have HF : Hid (B = false) := hide (HBAD.out (mkB_of (.inr (.inr hc))))
        clear hnx h1 hc
        go_wp2
        go_ret
        exact ⟨by rw [HF.out]; rfl, HW2.out⟩
      have dc : (m.ch == 0) = false := by simpa using hc
      have HO2 : Hid (∀ j y, j < k + 1 → s.md[j]? = some y → mkB s j y = false) := hide (fun j y hj hy => by
        by_cases q : j = k
        · subst q
          rw [HRK.out] at hy
          injection hy with hy
          rw [← hy]
          exact mkB_fine (by rw [← HA.out]; exact hap) (by rw [← HA.out]; exact h1) hnx hc
        · exact HO.out j y (by omega) hy)
      have HA2 : Hid (m.id = aheadM s.md (k + 1)) := hide (aheadM_next HRK.out).symm
      clear hnx h1 hc
      go_wp2
      go_roundw
      case rel => exact ⟨k + 1, m.id, by omega, rfl, by simp, HA2, HO2, HK2, HW2⟩
      case measure => simp [intOf]; omega
    · obtain rfl : k = n2 := by omega
      have HF : Hid (B = true) := hide (by
        rw [HB.out]
        simp only [decide_eq_true_eq]
        exact ⟨by rw [← HN2.out]; omega, fun i m hi => HO.out i m (by rw [HN2.out]; exact (List.getElem?_eq_some_iff.1 hi).1) hi⟩)
      go_wp2
      go_ret
      exact ⟨by rw [HF.out]; rfl, HW.out⟩
end Go.Proofs.Ytgjhmpmjbedjoaa
