/- What the program's super writer does, over the translation. -/
import Derived.Test.YtdpbkmbegjcgjaaRows
import Derived.Test.YtdpbkmbegjcgjaaSupM
import Derived.Test.YtdpbkmbegjcgjaaObj
import Derived.Handy
import Derived.Test.YtdpbkmbegjcgjaaRSup
import Derived.Test.YtdpbkmbegjcgjaaLit
import Derived.Test.YtdpbkmbegjcgjaaApn
import Derived.BigRegion
namespace Go.Proofs.Ytdpbkmbegjcgjaa
open Go.RowKit Apo

/-- the cells of a writer that has laid the bytes l -/
def wcells (l : List Int) : List Value := l.map (Value.int .u8) ++ List.replicate (32 - l.length) (.int .u8 0) ++ [.int .i64 l.length]

theorem wcells_size {l : List Int} (h : l.length ≤ 32) : (wcells l)[32]? = some (.int .i64 l.length) := by
  unfold wcells
  rw [List.getElem?_append_right (by simp; omega)]
  simp only [List.length_append, List.length_map, List.length_replicate]
  rw [show 32 - (l.length + (32 - l.length)) = 0 by omega]
  rfl
theorem wcells_at {l : List Int} (h : l.length < 32) : (wcells l)[l.length]? = some (.int .u8 0) := by
  unfold wcells
  rw [List.append_assoc, List.getElem?_append_right (by simp), List.getElem?_append_left (by simp; omega)]
  simp only [List.length_map, Nat.sub_self]
  rw [List.getElem?_replicate, if_pos (by omega)]
theorem wcells_step {l : List Int} (h : l.length < 32) (z : Int) : ((wcells l).set l.length (.int .u8 z)).set 32 (.int .i64 ((l.length : Int) + 1)) = wcells (l ++ [z]) := by
  obtain ⟨m, hm⟩ : ∃ m, 32 - l.length = m + 1 := ⟨31 - l.length, by omega⟩
  unfold wcells
  rw [hm, List.append_assoc, List.set_append_right _ _ (by simp), List.replicate_succ]
  simp only [List.length_map, Nat.sub_self, List.cons_append, List.set_cons_zero]
  rw [List.set_append_right _ _ (by simp; omega)]
  simp only [List.length_map, List.length_append, List.length_cons, List.length_nil, List.map_append, List.map_cons, List.map_nil]
  rw [show 32 - l.length = m + 1 from hm, List.set_cons_succ, List.set_append_right _ _ (by simp)]
  simp only [List.length_replicate, Nat.sub_self, List.set_cons_zero]
  rw [show 32 - (l.length + 1) = m by omega]
  simp

set_option maxRecDepth 100000 in
set_option maxHeartbeats 1000000 in
theorem four_any {w : World} {p : Nat} (l : List Int) (n : Nat) (hl : l.length + 4 ≤ 32) (h : Ob w p 59 (wcells l)) :
    Calls Try.prog 41 #[.pointer (some ⟨p, 0, none⟩), .int .u64 n] w fun e w' => e = .returned (.tuple #[]) ∧ Ob w' p 59 (wcells (l ++ be 4 n)) ∧ w.grownBy w' (some p) := by
  have HO := hide h
  clear h
  go_enter Try.func41, Try.ntmps41
  go_wp2
  go_loopw [7] (fun i wr => ∃ k : Nat, k ≤ 4 ∧ i = .int .i64 k ∧ Hid (Ob wr p 59 (wcells (l ++ (be 4 n).take k))) ∧ Hid (w.grownBy wr (some p))) (fun i _ => (4 - intOf i).toNat)
  case atStart => exact ⟨0, by omega, rfl, by simpa using HO, World.grownBy.refl _ _⟩
  case round =>
    obtain ⟨k, hk, rfl, hO, hG⟩ := hrel
    by_cases hlt : k < 4
    · have k4 : k = 0 ∨ k = 1 ∨ k = 2 ∨ k = 3 := by omega
      have hL : (l ++ (be 4 n).take k).length = l.length + k := by simp [be_len]; omega
      have hlen : (l ++ (be 4 n).take k).length < 32 := by omega
      have cS := hO.out.cell 32
      rw [wcells_size (by omega)] at cS
      have cA := hO.out.cell (l ++ (be 4 n).take k).length
      rw [wcells_at hlen] at cA
      have fS := hO.out.frozen 32
      have fA := hO.out.frozen (l ++ (be 4 n).take k).length
      have HHL := hide hL
      clear hL
      rcases k4 with rfl | rfl | rfl | rfl
      · generalize hLL : (l ++ (be 4 n).take 0).length = L at *
        have HL := hide hLL
        have hx : ∀ W, (Instr.index 96 (.agg #[.int .i64 24, .int .i64 16, .int .i64 8, .int .i64 0]) (.int .i64 0)).run Try.prog W = .ok (.int .i64 24) W := fun W => by kernel_rfl
        have hst := wcells_step (l := l ++ (be 4 n).take 0) (by omega) ((n / 256 ^ 3 % 256 : Nat) : Int)
        rw [hLL, List.append_assoc, ← take_snoc (be_at n (show 0 < 4 by omega))] at hst
        have hv : ((n : Int) / 16777216 % 256) = ((n / 256 ^ 3 % 256 : Nat) : Int) := by simp
        have o1 : Ob (wr.drew.setCell ⟨p, L, none⟩ (.int .u8 ((n : Int) / 16777216 % 256))) p 59 _ := Ob.set (w := wr.drew) hO.out L _
        have cS2 := o1.cell 32
        rw [List.getElem?_set_ne (by omega), wcells_size (by omega), hLL] at cS2
        have fS2 := o1.frozen 32
        have g1 : w.grownBy (wr.drew.setCell ⟨p, L, none⟩ (.int .u8 ((n : Int) / 16777216 % 256))) (some p) := grew_trans (grew_trans hG.out (grew_below _ (Below.refl _ wr).drew)) (grew_set _ _ _ _)
        have HO1 := hide o1
        have HS := hide hst
        have HV := hide hv
        have HG1 := hide g1
        clear hLL hst hv o1 g1 hO hG
        go_wp2
        go_region
        go_wp2
        go_roundw
        case rel =>
          refine ⟨1, by omega, by simp, ?_, grew_trans HG1.out (grew_set _ _ _ _)⟩
          have := HO1.out.set 32 (.int .i64 ((L : Int) + 1))
          rw [HV.out, HS.out] at this
          exact this
        case measure => simp [intOf]
      · generalize hLL : (l ++ (be 4 n).take 1).length = L at *
        have HL := hide hLL
        have hx : ∀ W, (Instr.index 96 (.agg #[.int .i64 24, .int .i64 16, .int .i64 8, .int .i64 0]) (.int .i64 1)).run Try.prog W = .ok (.int .i64 16) W := fun W => by kernel_rfl
        have hst := wcells_step (l := l ++ (be 4 n).take 1) (by omega) ((n / 256 ^ 2 % 256 : Nat) : Int)
        rw [hLL, List.append_assoc, ← take_snoc (be_at n (show 1 < 4 by omega))] at hst
        have hv : ((n : Int) / 65536 % 256) = ((n / 256 ^ 2 % 256 : Nat) : Int) := by simp
        have o1 : Ob (wr.drew.setCell ⟨p, L, none⟩ (.int .u8 ((n : Int) / 65536 % 256))) p 59 _ := Ob.set (w := wr.drew) hO.out L _
        have cS2 := o1.cell 32
        rw [List.getElem?_set_ne (by omega), wcells_size (by omega), hLL] at cS2
        have fS2 := o1.frozen 32
        have g1 : w.grownBy (wr.drew.setCell ⟨p, L, none⟩ (.int .u8 ((n : Int) / 65536 % 256))) (some p) := grew_trans (grew_trans hG.out (grew_below _ (Below.refl _ wr).drew)) (grew_set _ _ _ _)
        have HO1 := hide o1
        have HS := hide hst
        have HV := hide hv
        have HG1 := hide g1
        clear hLL hst hv o1 g1 hO hG
        go_wp2
        go_region
        go_wp2
        go_roundw
        case rel =>
          refine ⟨2, by omega, by simp, ?_, grew_trans HG1.out (grew_set _ _ _ _)⟩
          have := HO1.out.set 32 (.int .i64 ((L : Int) + 1))
          rw [HV.out, HS.out] at this
          exact this
        case measure => simp [intOf]
      · generalize hLL : (l ++ (be 4 n).take 2).length = L at *
        have HL := hide hLL
        have hx : ∀ W, (Instr.index 96 (.agg #[.int .i64 24, .int .i64 16, .int .i64 8, .int .i64 0]) (.int .i64 2)).run Try.prog W = .ok (.int .i64 8) W := fun W => by kernel_rfl
        have hst := wcells_step (l := l ++ (be 4 n).take 2) (by omega) ((n / 256 ^ 1 % 256 : Nat) : Int)
        rw [hLL, List.append_assoc, ← take_snoc (be_at n (show 2 < 4 by omega))] at hst
        have hv : ((n : Int) / 256 % 256) = ((n / 256 ^ 1 % 256 : Nat) : Int) := by simp
        have o1 : Ob (wr.drew.setCell ⟨p, L, none⟩ (.int .u8 ((n : Int) / 256 % 256))) p 59 _ := Ob.set (w := wr.drew) hO.out L _
        have cS2 := o1.cell 32
        rw [List.getElem?_set_ne (by omega), wcells_size (by omega), hLL] at cS2
        have fS2 := o1.frozen 32
        have g1 : w.grownBy (wr.drew.setCell ⟨p, L, none⟩ (.int .u8 ((n : Int) / 256 % 256))) (some p) := grew_trans (grew_trans hG.out (grew_below _ (Below.refl _ wr).drew)) (grew_set _ _ _ _)
        have HO1 := hide o1
        have HS := hide hst
        have HV := hide hv
        have HG1 := hide g1
        clear hLL hst hv o1 g1 hO hG
        go_wp2
        go_region
        go_wp2
        go_roundw
        case rel =>
          refine ⟨3, by omega, by simp, ?_, grew_trans HG1.out (grew_set _ _ _ _)⟩
          have := HO1.out.set 32 (.int .i64 ((L : Int) + 1))
          rw [HV.out, HS.out] at this
          exact this
        case measure => simp [intOf]
      · generalize hLL : (l ++ (be 4 n).take 3).length = L at *
        have HL := hide hLL
        have hx : ∀ W, (Instr.index 96 (.agg #[.int .i64 24, .int .i64 16, .int .i64 8, .int .i64 0]) (.int .i64 3)).run Try.prog W = .ok (.int .i64 0) W := fun W => by kernel_rfl
        have hst := wcells_step (l := l ++ (be 4 n).take 3) (by omega) ((n / 256 ^ 0 % 256 : Nat) : Int)
        rw [hLL, List.append_assoc, ← take_snoc (be_at n (show 3 < 4 by omega))] at hst
        have hv : ((n : Int) % 256) = ((n / 256 ^ 0 % 256 : Nat) : Int) := by simp
        have o1 : Ob (wr.drew.setCell ⟨p, L, none⟩ (.int .u8 ((n : Int) % 256))) p 59 _ := Ob.set (w := wr.drew) hO.out L _
        have cS2 := o1.cell 32
        rw [List.getElem?_set_ne (by omega), wcells_size (by omega), hLL] at cS2
        have fS2 := o1.frozen 32
        have g1 : w.grownBy (wr.drew.setCell ⟨p, L, none⟩ (.int .u8 ((n : Int) % 256))) (some p) := grew_trans (grew_trans hG.out (grew_below _ (Below.refl _ wr).drew)) (grew_set _ _ _ _)
        have HO1 := hide o1
        have HS := hide hst
        have HV := hide hv
        have HG1 := hide g1
        clear hLL hst hv o1 g1 hO hG
        go_wp2
        go_region
        go_wp2
        go_roundw
        case rel =>
          refine ⟨4, by omega, by simp, ?_, grew_trans HG1.out (grew_set _ _ _ _)⟩
          have := HO1.out.set 32 (.int .i64 ((L : Int) + 1))
          rw [HV.out, HS.out] at this
          show Ob _ _ _ _
          rw [HV.out]
          exact this
        case measure => simp [intOf]
    · have ek : (be 4 n).take k = be 4 n := List.take_of_length_le (by rw [be_len]; omega)
      rw [ek] at hO
      go_wp2
      go_end0
      exact ⟨rfl, hO.out, hG.out⟩
end Go.Proofs.Ytdpbkmbegjcgjaa
