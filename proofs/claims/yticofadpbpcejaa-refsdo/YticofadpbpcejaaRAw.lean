/- Law 16's awake and Few. Over the translation. -/
import Derived.Test.YticofadpbpcejaaRFd
import Derived.Test.YticofadpbpcejaaRIn
import Derived.BigRegion
import Derived.BigQuiet
namespace Go.Proofs.Yticofadpbpcejaa
open Go.RowKit Apo
def refA : Rf := ⟨⟨#[97]⟩, false, 0⟩
theorem awake_0 : makeE (newL []) refA = 0 := by kernel_rfl
theorem awake_1 : makeE (makeL (newL []) refA) refA = 112 := by kernel_rfl
theorem awake_2 : nameM ⟨#[97, 45, 49]⟩ = true := by kernel_rfl
set_option maxRecDepth 100000 in
set_option maxHeartbeats 4000000 in
theorem awake16 (w : World) : Calls Try.prog 6 #[] w fun e w' => e = .returned (.bool true) ∧ Below w.heap.size w w' := by
  have HN := hide (pnew_any (w := w) (cap := 0) (l := []) (RdG.nil w none) (by simp) (by simp))
  go_enter Try.func6, Try.ntmps6
  go_wp2_with fail
  refine HN.out.mono ?_
  rintro e w1 ⟨rfl, t1, b1⟩
  have HC1 : Hid (Calls Try.prog 10 #[.pointer (some ⟨w.heap.size + 1, 0, none⟩), .agg #[.string ⟨#[97]⟩, .bool false, .int .u64 0]] w1 (PmQ w1 (w.heap.size + 1) w.heap.size (newL []) refA)) := hide (pmake_any t1 refA (by show (1 : Nat) ≤ _; omega))
  have HB1 := hide b1
  clear t1 b1 HN
  go_wp2_with fail
  refine HC1.out.mono ?_
  rintro e w2 ⟨rfl, t2, o2⟩
  rw [awake_0]
  have HC2 : Hid (Calls Try.prog 10 #[.pointer (some ⟨w.heap.size + 1, 0, none⟩), .agg #[.string ⟨#[97]⟩, .bool false, .int .u64 0]] w2 (PmQ w2 (w.heap.size + 1) w.heap.size (makeL (newL []) refA) refA)) := hide (pmake_any t2 refA (by show (1 : Nat) ≤ _; omega))
  have HB2 := hide (Below.onl HB1.out o2 (fun i q => by omega) (Nat.le_refl _))
  clear t2 o2 HC1 HB1
  go_wp2_with fail
  refine HC2.out.mono ?_
  rintro e w3 ⟨rfl, t3, o3⟩
  rw [awake_1]
  have HC3 := hide (pname_any ⟨#[97, 45, 49]⟩ w3 (by show (3 : Nat) ≤ _; omega))
  have HB3 := hide (Below.onl HB2.out o3 (fun i q => by omega) (Nat.le_refl _))
  rw [awake_2] at HC3
  clear t3 o3 HC2 HB2
  go_wp2_with fail
  refine HC3.out.mono ?_
  rintro e w4 ⟨rfl, rfl⟩
  go_wp2
  go_ret
  exact ⟨rfl, HB3.out⟩
/-- whether refs are few and small -/
def fewR (l : List Rf) : Bool := l.all (fun x => decide (x.n.size ≤ 40)) && decide (l.length ≤ 45)
theorem fewR_ok {l : List Rf} (h : fewR l = true) : (∀ x ∈ l, x.n.size ≤ 40) ∧ l.length ≤ 45 := by
  unfold fewR at h
  simpa using h
set_option maxRecDepth 100000 in
set_option maxHeartbeats 4000000 in
theorem few16 (w : World) (f : RfA) (h : OkRfA w f) : Calls Try.prog 7 #[.slice f.a f.l.length f.c] w fun e w' => e = .returned (.bool (fewR f.l)) ∧ Below w.heap.size w w' := by
  obtain ⟨a, c, l⟩ := f
  have HR := hide h.rd
  have HSZ := hide h.sz
  have hl := h.len
  have hb := h.big
  simp only at HR HSZ hl hb ⊢
  obtain ⟨n, hn⟩ : ∃ n, n = l.length := ⟨_, rfl⟩
  have HN := hide hn
  rw [← hn] at hl ⊢
  have hnb : n ≤ 9223372036854775807 := by unfold maxLen at hb; omega
  clear h hn hl hb
  go_enter Try.func7, Try.ntmps7
  go_wp2
  go_loopw [7] (fun v wr => ∃ k : Nat, k ≤ n ∧ v = .int .i64 k ∧ Hid (∀ y ∈ l.take k, y.n.size ≤ 40) ∧ Hid (Below w.heap.size w wr)) (fun v _ => n - (intOf v).toNat)
  case atStart => exact ⟨0, Nat.zero_le _, rfl, hide (by simp), hide (Below.refl _ _)⟩
  case round =>
    obtain ⟨k, hk, rfl, HS, HB⟩ := hrel
    by_cases hlt : k < n
    · obtain ⟨x, hx⟩ : ∃ x, l[k]? = some x := ⟨l[k]'(by have := HN.out; omega), List.getElem?_eq_getElem _⟩
      obtain ⟨g, o, rfl, r0, r1, r2⟩ := rd_rf (HR.out.below HB.out) hx
      have hsz : x.n.size ≤ 9223372036854775807 := by have := HSZ.out x (List.mem_of_getElem? hx); unfold maxLen at this; omega
      have HBA := hide (HB.out.alloc HB.out.size (.cells #[.string x.n, .bool x.t, .int .u64 x.i] 32))
      by_cases hq : x.n.size ≤ 40
      · have HS2 : Hid (∀ y ∈ l.take (k + 1), y.n.size ≤ 40) := hide (fun y hy => by
          rw [List.take_add_one, hx, List.mem_append] at hy
          rcases hy with r | r
          · exact HS.out y r
          · simp only [Option.toList_some, List.mem_singleton] at r
            rw [r]; exact hq)
        have d1 : decide ((40 : Int) < (x.n.size : Int)) = false := by simp; omega
        clear hx HS
        go_wp2
        go_roundw
        case rel => exact ⟨k + 1, by omega, by simp, HS2, HBA⟩
        case measure => simp [intOf]; omega
      · have HX : Hid (fewR l = false) := hide (by
          unfold fewR
          have : l.all (fun x => decide (x.n.size ≤ 40)) = false := by
            rw [List.all_eq_false]
            exact ⟨x, List.mem_of_getElem? hx, by simpa using hq⟩
          rw [this, Bool.false_and])
        have d1 : decide ((40 : Int) < (x.n.size : Int)) = true := by simp; omega
        clear hx HS
        go_wp2
        go_ret
        rw [HX.out]
        exact ⟨rfl, HBA.out⟩
    · obtain rfl : k = n := by omega
      have HX : Hid (fewR l = decide ((k : Int) ≤ 45)) := hide (by
        unfold fewR
        have : l.all (fun x => decide (x.n.size ≤ 40)) = true := by
          rw [List.all_eq_true]
          intro y hy
          have := HS.out y (by rw [HN.out, List.take_length]; exact hy)
          simpa using this
        rw [this, Bool.true_and, ← HN.out]
        by_cases q : k ≤ 45
        · simp [q]; omega
        · simp [q]; omega)
      clear HS
      go_wp2
      go_ret
      rw [HX.out]
      exact ⟨rfl, HB.out⟩
end Go.Proofs.Yticofadpbpcejaa
