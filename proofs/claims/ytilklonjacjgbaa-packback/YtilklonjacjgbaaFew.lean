/- Whether fields are few and small, over the translation. -/
import Derived.Test.YtilklonjacjgbaaRows
import Derived.Test.YtilklonjacjgbaaFld
import Derived.WalkKit
import Derived.Handy
namespace Go.Proofs.Ytilklonjacjgbaa
open Go.RowKit Apo
theorem hide2 {p : Prop} (h : p) : Hid p := h

def fewF (l : List Fld) : Bool := l.all (fun f => decide (f.s.size ≤ 200)) && decide (l.length ≤ 20)

theorem ret_bool {a b : Bool} (h : a = b) : Ending.returned (.bool a) = .returned (.bool b) := by rw [h]
theorem few_step {l : List Fld} {k : Nat} {f : Fld} (h : ∀ g ∈ l.take k, g.s.size ≤ 200) (hz : l[k]? = some f) (hf : f.s.size ≤ 200) : ∀ g ∈ l.take (k + 1), g.s.size ≤ 200 := by
  intro g hg
  rw [List.take_add_one, hz, List.mem_append] at hg
  rcases hg with hg | hg
  · exact h g hg
  · simp at hg; subst hg; exact hf
theorem few_no {l : List Fld} {k : Nat} {f : Fld} (hz : l[k]? = some f) (hf : ¬ f.s.size ≤ 200) : fewF l = false := by
  have hm := List.mem_of_getElem? hz
  have : l.all (fun f => decide (f.s.size ≤ 200)) = false := by
    rw [List.all_eq_false]
    exact ⟨f, hm, by simpa using hf⟩
  simp [fewF, this]
theorem few_yes {l : List Fld} {k : Nat} (hk : l.length ≤ k) (h : ∀ g ∈ l.take k, g.s.size ≤ 200) : fewF l = decide ((l.length : Int) ≤ 20) := by
  rw [List.take_of_length_le hk] at h
  have h1 : l.all (fun f => decide (f.s.size ≤ 200)) = true := by simpa using h
  have h2 : decide ((l.length : Int) ≤ 20) = decide (l.length ≤ 20) := by simp; omega
  rw [fewF, h1, h2]; simp

set_option maxHeartbeats 1000000 in
theorem few_any (a : Option Addr) (cap : Nat) (l : List Fld) (w : World) (hr : RdF w a l) (hl : l.length ≤ 9223372036854775807) (hs : ∀ f ∈ l, f.s.size ≤ 9223372036854775807) :
    Calls Try.prog 8 #[.slice a l.length cap] w fun e w' => e = .returned (.bool (fewF l)) ∧ Below w.heap.size w w' := by
  have hR := hide2 hr
  have hS := hide2 hs
  clear hr hs
  go_enter Try.func8, Try.ntmps8
  go_wp2
  go_loopw [7] (fun i wr => ∃ k : Nat, k ≤ l.length ∧ i = .int .i64 k ∧ Hid (∀ f ∈ l.take k, f.s.size ≤ 200) ∧ Below w.heap.size w wr) (fun i _ => l.length - (intOf i).toNat)
  case atStart => exact ⟨0, Nat.zero_le _, rfl, by intro f hf; simp at hf, Below.refl _ _⟩
  case round =>
    obtain ⟨k, hk, rfl, hA, hbr⟩ := hrel
    by_cases hlt : k < l.length
    · have hz : l[k]? = some l[k] := List.getElem?_eq_getElem hlt
      generalize l[k] = f at hz
      obtain ⟨b, off, rfl, c0, c1, c2, c3⟩ := (hR.out.below hbr) k f hz
      have hfs := hS.out f (List.mem_of_getElem? hz)
      have hZ := hide2 hz
      clear hz
      have hsz := hbr.size
      by_cases hbig : f.s.size ≤ 200
      · go_wp2
        go_roundw
        case rel => exact ⟨k + 1, by omega, by go_num, few_step hA.out hZ.out hbig, hbr.alloc hsz _⟩
        case measure => simp [intOf]; omega
      · go_wp2
        go_ret
        exact ⟨ret_bool (few_no hZ.out hbig).symm, hbr.alloc hsz _⟩
    · go_wp2
      go_ret
      exact ⟨ret_bool (few_yes (by omega) hA.out).symm, hbr⟩
end Go.Proofs.Ytilklonjacjgbaa
