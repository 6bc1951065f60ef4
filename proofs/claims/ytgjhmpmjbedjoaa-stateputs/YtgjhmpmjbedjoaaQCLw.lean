/- Law 13's awake and Light, over the translation. -/
import Derived.Test.YtgjhmpmjbedjoaaQA4
namespace Apo
open Go Go.RowKit
def smallCl (c : Cl) : Bool := decide (c.k.size ≤ 60) && decide (c.a.v.size ≤ 250) && decide (c.b.v.size ≤ 250) && decide (c.c.v.size ≤ 250)
def lightC (l : List Cl) : Bool := l.all smallCl && decide (l.length ≤ 20)
theorem lightC_ok {l : List Cl} (h : lightC l = true) : l.length ≤ 20 ∧ ∀ c ∈ l, c.k.size ≤ 60 ∧ c.a.v.size ≤ 250 ∧ c.b.v.size ≤ 250 ∧ c.c.v.size ≤ 250 := by
  unfold lightC at h
  rw [Bool.and_eq_true, List.all_eq_true] at h
  refine ⟨by simpa using h.2, fun c hc => ?_⟩
  have := h.1 c hc
  unfold smallCl at this
  simp only [Bool.and_eq_true, decide_eq_true_eq] at this
  omega
end Apo
namespace Go.Proofs.Ytgjhmpmjbedjoaa
open Go.RowKit Apo
set_option maxRecDepth 100000 in
set_option maxHeartbeats 4000000 in
theorem light13 (w : World) (a : Option Addr) (c : Nat) (l : List Cl) (h : RdG cCl 7 w a l) (hl : l.length ≤ 9223372036854775807) (hz : ∀ f ∈ l, f.k.size ≤ maxLen ∧ f.a.v.size ≤ maxLen ∧ f.b.v.size ≤ maxLen ∧ f.c.v.size ≤ maxLen) :
    Calls Try.prog 20 #[.slice a l.length c] w fun e w' => e = .returned (.bool (lightC l)) ∧ Below w.heap.size w w' := by
  obtain ⟨n, hn⟩ : ∃ n, n = l.length := ⟨_, rfl⟩
  have HN := hide hn
  have HE := hide h
  have HZ := hide hz
  rw [← hn] at hl ⊢
  clear h hn hz
  go_enter Try.func20, Try.ntmps20
  go_wp2
  go_loopw [7] (fun i wr => ∃ k : Nat, k ≤ n ∧ i = .int .i64 k ∧ Hid ((l.take k).all smallCl = true) ∧ Hid (Below w.heap.size w wr)) (fun i _ => n - (intOf i).toNat)
  case atStart => exact ⟨0, Nat.zero_le _, rfl, hide (by simp), hide (Below.refl _ _)⟩
  case round =>
    obtain ⟨k, hk, rfl, HS, HB⟩ := hrel
    by_cases hkn : k < n
    · obtain ⟨e, hek⟩ : ∃ e, l[k]? = some e := ⟨l[k]'(by have := HN.out; omega), List.getElem?_eq_getElem _⟩
      obtain ⟨g, o, rfl, q0, q1, q2, q3, q4, q5, q6⟩ := (HE.out.below HB.out).cl hek
      have hsz := HZ.out _ (List.mem_of_getElem? hek)
      obtain ⟨ek, ⟨a0, a1⟩, ⟨b0, b1⟩, ⟨c0, c1⟩⟩ := e
      simp only at q0 q1 q2 q3 q4 q5 q6 hsz
      unfold maxLen at hsz
      have HEK := hide hek
      have HBA := hide (HB.out.alloc HB.out.size (.cells #[.string ek, .bool a0, .string a1, .bool b0, .string b1, .bool c0, .string c1] 75))
      clear hek
      by_cases h0 : ek.size ≤ 60
      · have d0 : decide ((60 : Int) < (ek.size : Int)) = false := by simp; omega
        have d0n : decide (60 < ek.size) = false := by simp; omega
        by_cases h1 : a1.size ≤ 250
        · have d1 : decide ((250 : Int) < (a1.size : Int)) = false := by simp; omega
          have d1n : decide (250 < a1.size) = false := by simp; omega
          by_cases h2 : b1.size ≤ 250
          · have d2 : decide ((250 : Int) < (b1.size : Int)) = false := by simp; omega
            have d2n : decide (250 < b1.size) = false := by simp; omega
            by_cases h3 : c1.size ≤ 250
            · have d3 : decide ((250 : Int) < (c1.size : Int)) = false := by simp; omega
              have d3n : decide (250 < c1.size) = false := by simp; omega
              have HS2 : Hid ((l.take (k + 1)).all smallCl = true) := by
                refine hide ?_
                rw [List.take_add_one, HEK.out, List.all_append, HS.out]
                simp [smallCl, h0, h1, h2, h3]
              go_wp2
              go_roundw
              case rel => exact ⟨k + 1, by omega, by simp, HS2, HBA⟩
              case measure => simp [intOf]; omega
            · have d3 : decide ((250 : Int) < (c1.size : Int)) = true := by simp; omega
              have d3n : decide (250 < c1.size) = true := by simp; omega
              have HX : Hid (lightC l = false) := hide (by unfold lightC; rw [all_take_false HEK.out (by simp [smallCl, h3])]; rfl)
              go_wp2
              go_ret
              rw [HX.out]
              exact ⟨rfl, HBA.out⟩
          · have d2 : decide ((250 : Int) < (b1.size : Int)) = true := by simp; omega
            have d2n : decide (250 < b1.size) = true := by simp; omega
            have HX : Hid (lightC l = false) := hide (by unfold lightC; rw [all_take_false HEK.out (by simp [smallCl, h2])]; rfl)
            go_wp2
            go_ret
            rw [HX.out]
            exact ⟨rfl, HBA.out⟩
        · have d1 : decide ((250 : Int) < (a1.size : Int)) = true := by simp; omega
          have d1n : decide (250 < a1.size) = true := by simp; omega
          have HX : Hid (lightC l = false) := hide (by unfold lightC; rw [all_take_false HEK.out (by simp [smallCl, h1])]; rfl)
          go_wp2
          go_ret
          rw [HX.out]
          exact ⟨rfl, HBA.out⟩
      · have d0 : decide ((60 : Int) < (ek.size : Int)) = true := by simp; omega
        have d0n : decide (60 < ek.size) = true := by simp; omega
        have HX : Hid (lightC l = false) := hide (by unfold lightC; rw [all_take_false HEK.out (by simp [smallCl, h0])]; rfl)
        go_wp2
        go_ret
        rw [HX.out]
        exact ⟨rfl, HBA.out⟩
    · obtain rfl : k = n := by omega
      have HX : Hid (lightC l = decide (k ≤ 20)) := by
        refine hide ?_
        have q := HS.out
        rw [HN.out, List.take_length] at q
        unfold lightC
        rw [q, HN.out]
        simp
      have hdd : decide ((k : Int) ≤ 20) = decide (k ≤ 20) := by
        by_cases q : k ≤ 20
        · simp [q]; omega
        · simp [q]; omega
      go_wp2
      go_ret
      rw [HX.out]
      exact ⟨by rw [← hdd]; rfl, HB.out⟩
end Go.Proofs.Ytgjhmpmjbedjoaa
