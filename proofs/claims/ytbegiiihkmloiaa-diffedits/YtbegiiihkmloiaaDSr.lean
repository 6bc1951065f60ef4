/- rotateCmpFunc, over the translation. -/
import Derived.Test.YtbegiiihkmloiaaDSq
namespace Go.Proofs.Ytbegiiihkmloiaa
open Go.RowKit Apo
/-- two blocks change places -/
def exL (d : List Ed) (s m e : Nat) : List Ed := d.take s ++ ((d.take e).drop m ++ ((d.take m).drop s ++ d.drop e))
theorem exL_get {d : List Ed} {s m e : Nat} (h1 : s ≤ m) (h2 : m ≤ e) (h3 : e ≤ d.length) (t : Nat) : (exL d s m e)[t]? = if t < s then d[t]? else if t < s + (e - m) then d[t - s + m]? else if t < e then d[t - (e - m)]? else d[t]? := by
  unfold exL
  have l1 : (d.take s).length = s := by simp; omega
  have l2 : ((d.take e).drop m).length = e - m := by simp; omega
  have l3 : ((d.take m).drop s).length = m - s := by simp; omega
  by_cases q1 : t < s
  · rw [if_pos q1, List.getElem?_append_left (by omega), List.getElem?_take, if_pos q1]
  · rw [if_neg q1, List.getElem?_append_right (by omega), l1]
    by_cases q2 : t < s + (e - m)
    · rw [if_pos q2, List.getElem?_append_left (by omega), List.getElem?_drop, List.getElem?_take, if_pos (by omega)]
      congr 1
      omega
    · rw [if_neg q2, List.getElem?_append_right (by omega), l2]
      by_cases q3 : t < e
      · rw [if_pos q3, List.getElem?_append_left (by omega), List.getElem?_drop, List.getElem?_take, if_pos (by omega)]
        congr 1
        omega
      · rw [if_neg q3, List.getElem?_append_right (by omega), l3, List.getElem?_drop]
        congr 1
        omega
theorem exL_len {d : List Ed} {s m e : Nat} (h1 : s ≤ m) (h2 : m ≤ e) (h3 : e ≤ d.length) : (exL d s m e).length = d.length := by
  unfold exL
  simp
  omega
theorem swR_get {d : List Ed} {a b : Nat} : ∀ {n : Nat}, a + n ≤ b → b + n ≤ d.length → ∀ t, (swR d a b n)[t]? = if a ≤ t ∧ t < a + n then d[t - a + b]? else if b ≤ t ∧ t < b + n then d[t - b + a]? else d[t]?
  | 0, _, _, t => by
    rw [if_neg (by omega), if_neg (by omega)]
    rfl
  | n + 1, h1, h2, t => by
    have ih := swR_get (d := d) (a := a) (b := b) (n := n) (by omega) (by omega)
    unfold swR
    rw [swL_get (by rw [swR_len]; omega) (by rw [swR_len]; omega)]
    by_cases q1 : t = b + n
    · rw [if_pos q1, ih, if_neg (by omega), if_neg (by omega), if_neg (by omega), if_pos (by omega)]
      congr 1
      omega
    · rw [if_neg q1]
      by_cases q2 : t = a + n
      · rw [if_pos q2, ih, if_neg (by omega), if_neg (by omega), if_pos (by omega)]
        congr 1
        omega
      · rw [if_neg q2, ih]
        by_cases q3 : a ≤ t ∧ t < a + n
        · rw [if_pos q3, if_pos (by omega)]
        · rw [if_neg q3, if_neg (show ¬ (a ≤ t ∧ t < a + (n + 1)) by omega)]
          by_cases q4 : b ≤ t ∧ t < b + n
          · rw [if_pos q4, if_pos (by omega)]
          · rw [if_neg q4, if_neg (by omega)]
theorem rot_more {d : List Ed} {m i j : Nat} (hi : i ≤ m) (hj : m + j ≤ d.length) (h : j < i) : exL (swR d (m - i) m j) (m - (i - j)) m (m + j) = exL d (m - i) m (m + j) := by
  refine List.ext_getElem? (fun t => ?_)
  rw [exL_get (by omega) (by omega) (by rw [swR_len]; exact hj), exL_get (by omega) (by omega) hj]
  simp only [swR_get (show m - i + j ≤ m by omega) hj]
  repeat' split
  all_goals first | rfl | (exfalso; omega) | (congr 1; omega)
theorem rot_less {d : List Ed} {m i j : Nat} (hi : i ≤ m) (hj : m + j ≤ d.length) (h : i < j) : exL (swR d (m - i) (m + j - i) i) (m - i) m (m + (j - i)) = exL d (m - i) m (m + j) := by
  refine List.ext_getElem? (fun t => ?_)
  rw [exL_get (by omega) (by omega) (by rw [swR_len]; omega), exL_get (by omega) (by omega) hj]
  simp only [swR_get (show m - i + i ≤ m + j - i by omega) (show m + j - i + i ≤ d.length by omega)]
  repeat' split
  all_goals first | rfl | (exfalso; omega) | (congr 1; omega)
theorem rot_same {d : List Ed} {m i : Nat} (hi : i ≤ m) (hj : m + i ≤ d.length) : swR d (m - i) m i = exL d (m - i) m (m + i) := by
  refine List.ext_getElem? (fun t => ?_)
  rw [exL_get (by omega) (by omega) hj]
  simp only [swR_get (show m - i + i ≤ m by omega) hj]
  repeat' split
  all_goals first | rfl | (exfalso; omega) | (congr 1; omega)
set_option maxRecDepth 100000 in
set_option maxHeartbeats 4000000 in
theorem rot_any (w : World) (g cap : Nat) (d : List Ed) (ex : List Value) (F : Value) (h : RoE w g d ex) (hl : d.length ≤ 1000000) (a m b : Nat) (ham : a < m) (hmb : m < b) (hb : b ≤ d.length) :
    Calls Try.prog 36 #[.slice (some ⟨g, 0, none⟩) d.length cap, .int .i64 a, .int .i64 m, .int .i64 b, F] w (SoP w g ex (fun d' => d' = exL d a m b)) := by
  have CS : ∀ W d' a' b' n', RoE W g d' ex → d'.length = d.length → a' + n' ≤ d.length → b' + n' ≤ d.length → Calls Try.prog 37 #[.slice (some ⟨g, 0, none⟩) d.length cap, .int .i64 ((a' : Nat) : Int), .int .i64 ((b' : Nat) : Int), .int .i64 ((n' : Nat) : Int), F] W (SoP W g ex (fun d'' => d'' = swR d' a' b' n')) := fun W d' a' b' n' hr he h1 h2 => by
    have := swr_any W g cap d' ex F hr (by omega) a' b' n' (by omega) (by omega)
    rwa [he] at this
  have HR := hide h
  obtain ⟨ln, hln⟩ : ∃ ln, ln = d.length := ⟨_, rfl⟩
  have HLN := hide hln
  have HCS := hide CS
  rw [← hln] at hb hl HCS ⊢
  clear h hln CS
  have w1 : IntKind.i64.wrap ((m : Int) - (a : Int)) = ((m - a : Nat) : Int) := by rw [IntKind.wrap_i64]; omega
  have w2 : IntKind.i64.wrap ((b : Int) - (m : Int)) = ((b - m : Nat) : Int) := by rw [IntKind.wrap_i64]; omega
  go_enter Try.func36, Try.ntmps36
  go_wp2
  clear w1 w2
  go_loopw [10, 11] (fun v u wr => ∃ (i j : Nat) (d' : List Ed), 0 < i ∧ 0 < j ∧ i ≤ m ∧ m + j ≤ ln ∧ v = .int .i64 i ∧ u = .int .i64 j ∧ Hid (RoE wr g d' ex ∧ d'.length = ln ∧ exL d' (m - i) m (m + j) = exL d a m b) ∧ Hid (Onl (fun j => j = g) w wr)) (fun v u _ => (intOf v).toNat + (intOf u).toNat)
  case atStart => exact ⟨m - a, b - m, d, by omega, by omega, by omega, by omega, rfl, rfl, hide ⟨HR.out, HLN.out.symm, by rw [show m - (m - a) = a by omega, show m + (b - m) = b by omega]⟩, hide (Onl.refl _ _)⟩
  case round =>
    obtain ⟨i, j, d', hi0, hj0, him, hjl, rfl, rfl, HRo, HO⟩ := hrel
    have w3 : IntKind.i64.wrap ((m : Int) - (i : Int)) = ((m - i : Nat) : Int) := by rw [IntKind.wrap_i64]; omega
    by_cases hij : i = j
    · subst hij
      have C := HCS.out wr d' (m - i) m i HRo.out.1 HRo.out.2.1 (by omega) (by omega)
      have HC := hide C
      clear C
      have hz : ((i : Int) != (i : Int)) = false := by simp
      go_wp2_with fail
      refine HC.out.mono ?_
      rintro e w2 ⟨rfl, d2, r2, rfl, o2⟩
      have HF : Hid (RoE w2 g (exL d a m b) ex) := by
        have h1 := rot_same (d := d') (m := m) (i := i) him (by rw [HRo.out.2.1]; exact hjl)
        rw [h1, HRo.out.2.2] at r2
        exact hide r2
      have HO2 := hide (HO.out.trans o2)
      clear r2 o2
      go_wp2
      go_end0
      exact ⟨rfl, _, HF.out, rfl, HO2.out⟩
    · have hz : ((i : Int) != (j : Int)) = true := by simp; omega
      by_cases hlt : j < i
      · have hd : decide ((j : Int) < (i : Int)) = true := decide_eq_true (by omega)
        have C := HCS.out wr d' (m - i) m j HRo.out.1 HRo.out.2.1 (by omega) (by omega)
        have HC := hide C
        clear C
        have w4 : IntKind.i64.wrap ((i : Int) - (j : Int)) = ((i - j : Nat) : Int) := by rw [IntKind.wrap_i64]; omega
        go_wp2_with fail
        refine HC.out.mono ?_
        rintro e w2 ⟨rfl, d2, r2, rfl, o2⟩
        have HF : Hid (RoE w2 g (swR d' (m - i) m j) ex ∧ (swR d' (m - i) m j).length = ln ∧ exL (swR d' (m - i) m j) (m - (i - j)) m (m + j) = exL d a m b) := hide ⟨r2, by rw [swR_len]; exact HRo.out.2.1, by rw [rot_more him (by rw [HRo.out.2.1]; exact hjl) hlt]; exact HRo.out.2.2⟩
        have HO2 := hide (HO.out.trans o2)
        clear r2 o2
        go_wp2
        go_roundw
        case rel => exact ⟨i - j, j, _, by omega, by omega, by omega, by omega, rfl, rfl, HF, HO2⟩
        case measure => simp [intOf]; omega
      · have hd : decide ((j : Int) < (i : Int)) = false := decide_eq_false (by omega)
        have C := HCS.out wr d' (m - i) (m + j - i) i HRo.out.1 HRo.out.2.1 (by omega) (by omega)
        have HC := hide C
        clear C
        have w4 : IntKind.i64.wrap ((j : Int) - (i : Int)) = ((j - i : Nat) : Int) := by rw [IntKind.wrap_i64]; omega
        have w5 : IntKind.i64.wrap ((m : Int) + (j : Int) - (i : Int)) = ((m + j - i : Nat) : Int) := by rw [IntKind.wrap_i64]; omega
        have w6 : IntKind.i64.wrap ((m : Int) + (j : Int)) = ((m + j : Nat) : Int) := by rw [IntKind.wrap_i64]; omega
        go_wp2_with fail
        refine HC.out.mono ?_
        rintro e w2 ⟨rfl, d2, r2, rfl, o2⟩
        have HF : Hid (RoE w2 g (swR d' (m - i) (m + j - i) i) ex ∧ (swR d' (m - i) (m + j - i) i).length = ln ∧ exL (swR d' (m - i) (m + j - i) i) (m - i) m (m + (j - i)) = exL d a m b) := hide ⟨r2, by rw [swR_len]; exact HRo.out.2.1, by rw [rot_less him (by rw [HRo.out.2.1]; exact hjl) (by omega)]; exact HRo.out.2.2⟩
        have HO2 := hide (HO.out.trans o2)
        clear r2 o2
        go_wp2
        go_roundw
        case rel => exact ⟨i, j - i, _, by omega, by omega, by omega, by omega, rfl, rfl, HF, HO2⟩
        case measure => simp [intOf]; omega
end Go.Proofs.Ytbegiiihkmloiaa
