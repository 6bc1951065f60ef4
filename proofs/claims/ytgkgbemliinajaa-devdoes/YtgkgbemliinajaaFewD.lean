/- Whether deeds are few and small, over the translation. -/
import Derived.Test.YtgkgbemliinajaaDeed
namespace Go.Proofs.Ytgkgbemliinajaa
open Go.RowKit Apo

def smallD (d : Dd) : Bool := decide (d.b.length ≤ 100) && decide (d.f.keep.length ≤ 50)
def fewD (l : List Dd) : Bool := l.all smallD && decide (l.length ≤ 40)

theorem fewD_step {l : List Dd} {k : Nat} {d : Dd} (h : ∀ g ∈ l.take k, smallD g = true) (hz : l[k]? = some d) (hf : smallD d = true) : ∀ g ∈ l.take (k + 1), smallD g = true := by
  intro g hg
  rw [List.take_add_one, hz, List.mem_append] at hg
  rcases hg with hg | hg
  · exact h g hg
  · simp at hg; subst hg; exact hf
theorem fewD_no {l : List Dd} {k : Nat} {d : Dd} (hz : l[k]? = some d) (hf : smallD d = false) : fewD l = false := by
  have hm := List.mem_of_getElem? hz
  have : l.all smallD = false := by
    rw [List.all_eq_false]
    exact ⟨d, hm, by simp [hf]⟩
  simp [fewD, this]
theorem fewD_yes {l : List Dd} {k : Nat} (hk : l.length ≤ k) (h : ∀ g ∈ l.take k, smallD g = true) : fewD l = decide ((l.length : Int) ≤ 40) := by
  rw [List.take_of_length_le hk] at h
  have h1 : l.all smallD = true := by simpa using h
  have h2 : decide ((l.length : Int) ≤ 40) = decide (l.length ≤ 40) := by simp; omega
  rw [fewD, h1, h2]; simp
theorem ret_boolD {a b : Bool} (h : a = b) : Ending.returned (.bool a) = .returned (.bool b) := by rw [h]

set_option maxHeartbeats 1000000 in
theorem fewD_any (a : Option Addr) (cap : Nat) (l : List Dd) (w : World) (hr : RdD w a l) (hl : l.length ≤ maxLen) :
    Calls Try.prog 8 #[.slice a l.length cap] w fun e w' => e = .returned (.bool (fewD l)) ∧ Below w.heap.size w w' := by
  unfold maxLen at hl
  have hR := hide hr
  clear hr
  go_enter Try.func8, Try.ntmps8
  go_wp2
  go_loopw [7] (fun i wr => ∃ k : Nat, k ≤ l.length ∧ i = .int .i64 k ∧ Hid (∀ f ∈ l.take k, smallD f = true) ∧ Below w.heap.size w wr) (fun i _ => l.length - (intOf i).toNat)
  case atStart => exact ⟨0, Nat.zero_le _, rfl, by intro f hf; simp at hf, Below.refl _ _⟩
  case round =>
    obtain ⟨k, hk, rfl, hA, hbr⟩ := hrel
    by_cases hlt : k < l.length
    · have hz : l[k]? = some l[k] := List.getElem?_eq_getElem hlt
      generalize l[k] = d at hz
      obtain ⟨b, off, rfl, c0, c1, c2, c3, c4, c5, c6, ok⟩ := (hR.out.below hbr) k d hz
      have hZ := hide hz
      have h1 := ok.len
      have h2 := ok.fat.len
      unfold maxLen at h1 h2
      clear hz ok
      have hsz := hbr.size
      by_cases hb1 : d.b.length ≤ 100
      · by_cases hb2 : d.f.keep.length ≤ 50
        · have hs : smallD d = true := by simp [smallD, hb1, hb2]
          have HS := hide hs
          clear hs
          go_wp2
          go_roundw
          case rel => exact ⟨k + 1, by omega, rfl, fewD_step hA.out hZ.out HS.out, hbr.alloc hsz _⟩
          case measure => simp [intOf]; omega
        · have hs : smallD d = false := by simp [smallD, hb2]
          have HS := hide hs
          clear hs
          go_wp2
          go_ret
          exact ⟨ret_boolD (fewD_no hZ.out HS.out).symm, hbr.alloc hsz _⟩
      · have hs : smallD d = false := by simp [smallD, hb1]
        have HS := hide hs
        clear hs
        go_wp2
        go_ret
        exact ⟨ret_boolD (fewD_no hZ.out HS.out).symm, hbr.alloc hsz _⟩
    · go_wp2
      go_ret
      exact ⟨ret_boolD (fewD_yes (by omega) hA.out).symm, hbr⟩
end Go.Proofs.Ytgkgbemliinajaa
