/- What the program's New of a device does, over the translation. What slices.Clone does at the program's three slice types, over the translation. What the program's Arm of a device does, over the translation. -/
import Derived.Laws.MakeOwn
import Derived.Carry
import Derived.Maps.AppendAt
import Derived.Lib.SliceRun
import Derived.Test.YtegadgncggbeoaaGreatQGDk
namespace Go.Proofs.YtegadgncggbeoaaGreat
open Go.RowKit Apo

/-- what has come between two worlds -/
def Fresh (w w' : World) : Nat → Prop := fun i => w.heap.size ≤ i ∧ i < w'.heap.size

theorem betw_len (n : Int) : betw n 65536 = (lenOf n : Int) := by
  unfold betw lenOf
  split
  · rfl
  · split <;> omega

theorem made_zeros : ∀ n : Nat, (madeCells (secA zeros) (n * 32)).toList = scells (List.replicate n zeros) := by
  intro n
  apply List.ext_getElem?
  intro j
  have hl : ∀ y ∈ List.replicate n zeros, (secV y).length = 32 := fun y hy => by rw [List.eq_of_mem_replicate hy]; simp [secV, zeros]
  have hlen : (scells (List.replicate n zeros)).length = n * 32 := by have := flat_len (f := secV) hl; rw [List.length_replicate] at this; exact this
  by_cases hj : j < n * 32
  · have e1 : (scells (List.replicate n zeros))[j / 32 * 32 + j % 32]? = (secV zeros)[j % 32]? := flat_at (f := secV) hl (by rw [List.getElem?_replicate, if_pos (by omega)]) (Nat.mod_lt _ (by decide))
    rw [show j / 32 * 32 + j % 32 = j by omega] at e1
    rw [e1]
    have hm : j % 32 < 32 := Nat.mod_lt _ (by decide)
    simp [madeCells, hj, secA, secV, zeros, hm]
  · rw [List.getElem?_eq_none (by simp [madeCells]; omega), List.getElem?_eq_none (by rw [hlen]; omega)]

set_option maxHeartbeats 1000000 in
theorem cnew_any (n : Int) (w : World) :
    Calls Tryz.prog 10 #[.int .i64 n] w fun e w' => ∃ p, e = .returned (.pointer (some ⟨p, 0, none⟩)) ∧ CDev (Fresh w w') w' p (newSd n) ∧ Below w.heap.size w w' := by
  have hln : lenOf n ≤ 65536 := by unfold lenOf; split <;> (try split) <;> omega
  obtain ⟨i0, hi, hz0, hz1, hz2⟩ := info_parts info_sec
  have hb := betw_len n
  have hmk := fun W : World => run_make (P := Tryz.prog) W 86 104 i0 _ Tryz.underlying86 hi hz0 .i64 .i64 (lenOf n) (lenOf n) (by omega) (by omega) (by rw [hz2]; omega) (by omega)
  simp only [Int.toNat_natCast, hz1, Value.cells] at hmk
  have hmm := @run_makeMap Tryz.prog
  have HB := hide hb
  clear hb hz0 hz1 hz2 hi
  generalize hcc : madeCells (secA zeros) (lenOf n * 32) = cc at hmk
  have HC := hide hcc
  clear hcc
  go_enter Tryz.func10, Tryz.ntmps10
  go_wp2_with fail
  refine (cbetween_any n 65536 (by omega)).mono ?_
  rintro e w1 ⟨rfl, rfl⟩
  rw [HB.out]
  go_wp2
  go_ret
  refine ⟨_, rfl, ?_, ?_⟩
  · have hcs : cc.size = lenOf n * 32 := by rw [← HC.out]; simp [madeCells]
    have hcl : cc.toList = scells (List.replicate (lenOf n) zeros) := by rw [← HC.out]; exact made_zeros _
    have k3 := Ob.new ((w.alloc (.cells cc 104)).alloc (.map #[] 0)) [.bool true, .slice (some ⟨w.heap.size, 0, none⟩) (lenOf n) (lenOf n), .slice none 0 0, .map (some (w.heap.size + 1)), .bool false, .int .i64 0, .bool false] 91
    have e2 : ((w.alloc (.cells cc 104)).alloc (.map #[] 0)).heap.size = w.heap.size + 1 + 1 := by simp
    rw [e2] at k3
    have k1 : Ob (w.alloc (.cells cc 104)) w.heap.size 104 cc.toList := by have := Ob.new w cc.toList 104; simpa using this
    have k1' := (k1.alloc (.map #[] 0)).alloc (.cells [.bool true, .slice (some ⟨w.heap.size, 0, none⟩) (lenOf n) (lenOf n), .slice none 0 0, .map (some (w.heap.size + 1)), .bool false, .int .i64 0, .bool false].toArray 91)
    have m1 := World.ownsMap_made (H := Unit) (w.alloc (.cells cc 104)) Tryz.prog 3 unitElem
    have m2 := m1.alloc (.cells [.bool true, .slice (some ⟨w.heap.size, 0, none⟩) (lenOf n) (lenOf n), .slice none 0 0, .map (some (w.heap.size + 1)), .bool false, .int .i64 0, .bool false].toArray 91)
    have e1 : (w.alloc (.cells cc 104)).heap.size = w.heap.size + 1 := by simp
    rw [e1] at m2
    refine ⟨_, _, w.heap.size + 1, 0, ⟨k3, ⟨by omega, by simp⟩, ⟨⟨?_, .inr ⟨w.heap.size, lenOf n, cc, ?_, Nat.zero_le _, by simpa [Ob] using k1', by simp [newSd], by unfold maxLen; omega, hcs, ?_⟩⟩, fun g hg => ?_⟩, Row.nil _ _ _ _, ⟨by omega, by simp⟩, ⟨.map [], ?_, ?_, ?_⟩, ?_, OkS.new n⟩⟩
    · simp only [newSd, List.length_replicate]
      rw [← hcl]
      simp [hcs]
    · simp [newSd]
    · simp only [newSd, List.length_replicate]
      rw [← hcl, List.take_of_length_le (by simp [hcs])]
    · simp [Value.ownBlock] at hg
      subst hg
      exact ⟨Nat.le_refl _, by simp; omega⟩
    · have : (newSd n).bad.count true = 0 := by simp [newSd, List.count_replicate]
      rw [this]
      exact m2
    · intro i hi
      simp [newSd] at hi
      simp [newSd, Maps.has, List.getD, hi]
    · simp [newSd, Maps.size, List.count_replicate]
    · simp [newSd]
  · exact (((Below.refl _ w).alloc (Nat.le_refl _) _).alloc (by simp) _).alloc (by simp; omega) _
end Go.Proofs.YtegadgncggbeoaaGreat
namespace Go.Proofs.YtegadgncggbeoaaGreat
open Go.RowKit Apo
attribute [local go_sem ↓] Apo.app_exec

theorem info_byte : (Tryz.prog.info? 5).map (fun i => (i.zero, i.size, i.bytes)) = some (some (.int .u8 0), 1, 1) := by kernel_rfl

/-- 'append(T{}, s...)', s an own row -/
theorem clone_app {w : World} {t e : TypeId} {i : TypeInfo} {z : Value} {size bytes : Nat} (ht : Tryz.prog.underlying t = some (.slice e)) (hi : Tryz.prog.info? e = some i) (hz : i.zero = some z) (hs : i.size = size) (hb : i.bytes = bytes) (hzs : z.cells.size = size) (hsz : 0 < size)
    (a : Addr) (n cap : Nat) (xs : List Value) (hl : xs.length = n * size) (hx : ∀ j u, xs[j]? = some u → w.cell? (a.add j) = some u) (h1 : ∀ u ∈ xs, u.oneCell' = true) (h63 : n ≤ maxLen) (hby : n * bytes ≤ 140737488355328) :
    ∃ v' w', (Builtin.append_ #[t, t] t #[.slice (some ⟨w.heap.size, 0, none⟩) 0 0, .slice (some a) n cap]).run Tryz.prog (w.alloc (.cells #[] e)) = .ok v' w' ∧ Row (Fresh w w') w' e size v' n xs ∧ Below w.heap.size w w' ∧ ∃ g c, v' = .slice (some ⟨g, 0, none⟩) n c := by
  have hown : (w.alloc (.cells #[] e)).ownsRow w.heap.size e size (.slice (some ⟨w.heap.size, 0, none⟩) 0 0) 0 [] := ⟨by simp, .inr ⟨w.heap.size, 0, #[], rfl, Nat.le_refl _, heap_alloc_new w _, Nat.le_refl _, Nat.zero_le _, by simp, by simp⟩⟩
  obtain ⟨v', w', R, r1, g1, hnil, _⟩ := run_append_own_at (P := Tryz.prog) (w.alloc (.cells #[] e)) w.heap.size t t e i z size bytes ht hi hz hs hb hzs hsz (.slice (some ⟨w.heap.size, 0, none⟩) 0 0) 0 [] hown a n cap xs hl (fun j u hu => by
    have := hx j u hu
    exact (World.cell?_of_block (Below.heap_alloc w _ _ (World.block_lt_of_cell? w _ this))).trans this) h1 (by omega) (by rw [Nat.zero_add]; exact hby) (by simp)
  rw [List.nil_append, Nat.zero_add] at r1
  refine ⟨v', w', R, ⟨r1.mono (Nat.zero_le _), fun g hg => r1.lt g hg⟩, ?_, ?_⟩
  · exact ((Below.refl _ w).alloc (Nat.le_refl _) _).grown g1 (by simp) (fun k hk => by simp [Value.ownBlock] at hk; omega)
  · rcases r1.2 with ⟨hn, _⟩ | ⟨g, c, cur, hv, _⟩
    · exact absurd (hnil.1 hn).1 (by simp)
    · exact ⟨g, c, hv⟩
end Go.Proofs.YtegadgncggbeoaaGreat
namespace Go.Proofs.YtegadgncggbeoaaGreat
open Go.RowKit Apo Go.Maps

end Go.Proofs.YtegadgncggbeoaaGreat
