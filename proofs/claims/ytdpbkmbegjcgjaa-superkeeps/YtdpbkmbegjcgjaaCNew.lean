/- What the program's New of a device does, over the translation. -/
import Derived.Test.YtdpbkmbegjcgjaaCSec
import Derived.Laws.MakeOwn
import Derived.Carry
namespace Go.Proofs.Ytdpbkmbegjcgjaa
open Go.RowKit Apo

/-- what has come between two worlds -/
def Fresh (w w' : World) : Nat → Prop := fun i => w.heap.size ≤ i ∧ i < w'.heap.size

theorem betw_len (n : Int) : betw n 65536 = (lenOf n : Int) := by
  unfold betw lenOf
  split
  · rfl
  · split <;> omega

theorem made_zeros : ∀ n : Nat, (madeCells (secA zeros) (n * 32)).toList = scells (List.replicate n zeros) := by
  intro n
  apply List.ext_getElem?
  intro j
  have hl : ∀ y ∈ List.replicate n zeros, (secV y).length = 32 := fun y hy => by rw [List.eq_of_mem_replicate hy]; simp [secV, zeros]
  have hlen : (scells (List.replicate n zeros)).length = n * 32 := by have := flat_len (f := secV) hl; rw [List.length_replicate] at this; exact this
  by_cases hj : j < n * 32
  · have e1 : (scells (List.replicate n zeros))[j / 32 * 32 + j % 32]? = (secV zeros)[j % 32]? := flat_at (f := secV) hl (by rw [List.getElem?_replicate, if_pos (by omega)]) (Nat.mod_lt _ (by decide))
    rw [show j / 32 * 32 + j % 32 = j by omega] at e1
    rw [e1]
    have hm : j % 32 < 32 := Nat.mod_lt _ (by decide)
    simp [madeCells, hj, secA, secV, zeros, hm]
  · rw [List.getElem?_eq_none (by simp [madeCells]; omega), List.getElem?_eq_none (by rw [hlen]; omega)]

set_option maxHeartbeats 1000000 in
theorem cnew_any (n : Int) (w : World) :
    Calls Try.prog 12 #[.int .i64 n] w fun e w' => ∃ p, e = .returned (.pointer (some ⟨p, 0, none⟩)) ∧ CDev (Fresh w w') w' p (newSd n) ∧ Below w.heap.size w w' := by
  have hln : lenOf n ≤ 65536 := by unfold lenOf; split <;> (try split) <;> omega
  obtain ⟨i0, hi, hz0, hz1, hz2⟩ := info_parts info_sec
  have hb := betw_len n
  have hmk := fun W : World => run_make (P := Try.prog) W 67 78 i0 _ Try.underlying67 hi hz0 .i64 .i64 (lenOf n) (lenOf n) (by omega) (by omega) (by rw [hz2]; omega) (by omega)
  simp only [Int.toNat_natCast, hz1, Value.cells] at hmk
  have hmm := @run_makeMap Try.prog
  have HB := hide hb
  clear hb hz0 hz1 hz2 hi
  generalize hcc : madeCells (secA zeros) (lenOf n * 32) = cc at hmk
  have HC := hide hcc
  clear hcc
  go_enter Try.func12, Try.ntmps12
  go_wp2_with fail
  refine (cbetween_any n 65536 (by omega)).mono ?_
  rintro e w1 ⟨rfl, rfl⟩
  rw [HB.out]
  go_wp2
  go_ret
  refine ⟨_, rfl, ?_, ?_⟩
  · have hcs : cc.size = lenOf n * 32 := by rw [← HC.out]; simp [madeCells]
    have hcl : cc.toList = scells (List.replicate (lenOf n) zeros) := by rw [← HC.out]; exact made_zeros _
    have k3 := Ob.new ((w.alloc (.cells cc 78)).alloc (.map #[] 0)) [.bool true, .slice (some ⟨w.heap.size, 0, none⟩) (lenOf n) (lenOf n), .slice none 0 0, .map (some (w.heap.size + 1)), .bool false, .int .i64 0, .bool false] 72
    have e2 : ((w.alloc (.cells cc 78)).alloc (.map #[] 0)).heap.size = w.heap.size + 1 + 1 := by simp
    rw [e2] at k3
    have k1 : Ob (w.alloc (.cells cc 78)) w.heap.size 78 cc.toList := by have := Ob.new w cc.toList 78; simpa using this
    have k1' := (k1.alloc (.map #[] 0)).alloc (.cells [.bool true, .slice (some ⟨w.heap.size, 0, none⟩) (lenOf n) (lenOf n), .slice none 0 0, .map (some (w.heap.size + 1)), .bool false, .int .i64 0, .bool false].toArray 72)
    have m1 := World.ownsMap_made (H := Unit) (w.alloc (.cells cc 78)) Try.prog 3 unitElem
    have m2 := m1.alloc (.cells [.bool true, .slice (some ⟨w.heap.size, 0, none⟩) (lenOf n) (lenOf n), .slice none 0 0, .map (some (w.heap.size + 1)), .bool false, .int .i64 0, .bool false].toArray 72)
    have e1 : (w.alloc (.cells cc 78)).heap.size = w.heap.size + 1 := by simp
    rw [e1] at m2
    refine ⟨_, _, w.heap.size + 1, 0, ⟨k3, ⟨by omega, by simp⟩, ⟨⟨?_, .inr ⟨w.heap.size, lenOf n, cc, ?_, Nat.zero_le _, by simpa [Ob] using k1', by simp [newSd], by unfold maxLen; omega, hcs, ?_⟩⟩, fun g hg => ?_⟩, Row.nil _ _ _ _, ⟨by omega, by simp⟩, ⟨.map [], ?_, ?_, ?_⟩, ?_, OkS.new n⟩⟩
    · simp only [newSd, List.length_replicate]
      rw [← hcl]
      simp [hcs]
    · simp [newSd]
    · simp only [newSd, List.length_replicate]
      rw [← hcl, List.take_of_length_le (by simp [hcs])]
    · simp [Value.ownBlock] at hg
      subst hg
      exact ⟨Nat.le_refl _, by simp; omega⟩
    · have : (newSd n).bad.count true = 0 := by simp [newSd, List.count_replicate]
      rw [this]
      exact m2
    · intro i hi
      simp [newSd] at hi
      simp [newSd, Maps.has, List.getD, hi]
    · simp [newSd, Maps.size, List.count_replicate]
    · simp [newSd]
  · exact (((Below.refl _ w).alloc (Nat.le_refl _) _).alloc (by simp) _).alloc (by simp; omega) _
end Go.Proofs.Ytdpbkmbegjcgjaa
