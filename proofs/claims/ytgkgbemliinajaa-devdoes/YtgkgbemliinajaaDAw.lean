/- The program is awake: a torn write. And a device that nobody made. Over the translation. -/
import Derived.Test.YtgkgbemliinajaaCRd
import Derived.Test.YtgkgbemliinajaaCCr
import Derived.Test.YtgkgbemliinajaaCWr
import Derived.Test.YtgkgbemliinajaaCCo
namespace Go.Proofs.Ytgkgbemliinajaa
open Go.RowKit Apo Go.Maps

def z32 : Array Value := (secV zeros).toArray
theorem mk_z32 (w : World) : (Instr.makeSlice 29 (.int .i64 32) (.int .i64 32)).run Try.prog w = .ok (.slice (some ⟨w.heap.size, 0, none⟩) 32 32) (w.alloc (.cells z32 5)) := by
  obtain ⟨i0, hi, hz0, hz1, hz2⟩ := info_parts info_byte
  have := run_make (P := Try.prog) w 29 5 i0 _ Try.underlying29 hi hz0 .i64 .i64 32 32 (by omega) (by omega) (by rw [hz2]; omega) (by omega)
  rw [hz1] at this
  have e : madeCells (Value.int .u8 0).cells ((32 : Int).toNat * 1) = z32 := by
    apply Array.ext
    · simp [madeCells, z32, secV, zeros]
    · intro i h1 h2
      have e1 : z32[i] = Value.int .u8 0 := by
        show ((List.replicate 32 (0 : Int)).map (Value.int .u8)).toArray[i]'(by simpa [z32, secV, zeros] using h2) = _
        rw [List.getElem_toArray, List.getElem_map, List.getElem_replicate]
      rw [e1]
      simp [madeCells, Value.cells, Nat.mod_one]
  rw [e] at this
  exact this

def fate0 : Fat := ⟨[], none, 0, 0, 9⟩
theorem okt0 (w : World) : OkT w fate0 := ⟨RdB.nil _ _, fun _ => rfl, by simp [fate0], by simp [fate0], by simp [fate0], by simp [fate0], by simp [fate0]⟩
def by12 : List Int := 1 :: (List.replicate 30 0 ++ [2])
theorem told12 : ((((newSd 2).wrote 1 by12).2.crashed fate0).told 1) = (1 :: List.replicate 31 0, 0) := by rfl
theorem wrote12 : ((newSd 2).wrote 1 by12).1 = 0 := by rfl
theorem cach12 : ((newSd 2).wrote 1 by12).2.C.length = 1 := by rfl
theorem rd_ob {w : World} {g : Nat} {t : TypeId} {l : List Int} (h : Ob w g t (secV l)) : Rd .u8 w (some ⟨g, 0, none⟩) l := by
  intro i hi
  refine ⟨g, 0, rfl, ?_⟩
  rw [Nat.zero_add, h.cell i]
  simp [secV, hi]

set_option maxHeartbeats 2000000 in
theorem awake_any (w : World) : Calls Try.prog 7 #[] w fun e w' => e = .returned (.bool true) ∧ Below w.heap.size w w' := by
  have mk := mk_z32
  go_enter Try.func7, Try.ntmps7
  go_wp2_with fail
  refine (cnew_any 2 w).mono ?_
  rintro e w1 ⟨p, rfl, hD1, B1⟩
  have k2 : Ob (w1.alloc (.cells z32 5)) w1.heap.size 5 (secV zeros) := Ob.new w1 (secV zeros) 5
  have o2 : Onl (fun _ => False) w1 (w1.alloc (.cells z32 5)) := (Onl.refl _ w1).alloc _
  have z2 : (w1.alloc (.cells z32 5)).heap.size = w1.heap.size + 1 := by simp
  generalize hW2 : w1.alloc (.cells z32 5) = W2 at k2 o2 z2
  have c0 := k2.cell 0
  have c31 := k2.cell 31
  have f0 := k2.frozen 0
  have f31 := k2.frozen 31
  have e0 : (secV zeros)[0]? = some (.int .u8 0) := rfl
  have e31 : (secV zeros)[31]? = some (.int .u8 0) := rfl
  rw [e0] at c0
  rw [e31] at c31
  have HK2 := hide k2
  have HO2 := hide o2
  have HD1 := hide hD1
  have HB1 := hide B1
  clear k2 o2 hD1 B1 e0 e31
  go_wp2_with fail
  have k3 := (HK2.out.set 0 (.int .u8 1)).set 31 (.int .u8 2)
  have e3 : ((secV zeros).set 0 (.int .u8 1)).set 31 (.int .u8 2) = secV by12 := rfl
  rw [e3] at k3
  have o3 : Onl (fun k => k = w1.heap.size) W2 ((W2.setCell ⟨w1.heap.size, 0, none⟩ (.int .u8 1)).setCell ⟨w1.heap.size, 31, none⟩ (.int .u8 2)) := (((Onl.refl _ W2).set (O := fun k => k = w1.heap.size) (.inl rfl) _)).set (.inl rfl) _
  have z3 : ((W2.setCell ⟨w1.heap.size, 0, none⟩ (.int .u8 1)).setCell ⟨w1.heap.size, 31, none⟩ (.int .u8 2)).heap.size = W2.heap.size := by simp [World.setCell]
  generalize (W2.setCell ⟨w1.heap.size, 0, none⟩ (.int .u8 1)).setCell ⟨w1.heap.size, 31, none⟩ (.int .u8 2) = W3 at k3 o3 z3 ⊢
  have hD3 : CDev (Fresh w w1) W3 p (newSd 2) := (HD1.out.onl HO2.out (fun _ _ q => q)).onl o3 (fun i hi e => by have := hi.2; omega)
  have B3 : Below w.heap.size w W3 := Below.onl (Below.onl HB1.out HO2.out (fun _ q => q.elim) (Nat.le_refl _)) o3 (fun i hi => by have := HB1.out.size; omega) (Nat.le_refl _)
  refine (cwrite_any hD3 (by simp [newSd]) 1 (some ⟨w1.heap.size, 0, none⟩) 32 by12 (rd_ob k3) (fun x hx _ q => by cases hx; exact absurd q.2 (Nat.lt_irrefl _)) (by intro z hz; simp [by12] at hz; omega)).mono ?_
  rintro e w4 ⟨rfl, hD4, o4⟩
  rw [wrote12]
  have B4 : Below w.heap.size w w4 := Below.onl B3 o4 (fun i hi => hi.1) (Nat.le_refl _)
  have HD4 := hide hD4
  have HB4 := hide B4
  have hlt4 : ∀ i, Gro (Fresh w w1) W3 w4 i → i < w4.heap.size := Gro.lt (fun i hi => by have := hi.2; omega) o4.size
  have hbs4 : ∀ i, Gro (Fresh w w1) W3 w4 i → w.heap.size ≤ i := Gro.base (fun i hi => hi.1) B3.size
  have HLT := hide hlt4
  have HBS := hide hbs4
  clear k3 o3 hD3 B3 hD4 o4 B4 hlt4 hbs4 HK2 HO2
  go_wp2_with fail
  refine (ccrash_any HD4.out HLT.out (by rw [cach12]; omega) fate0 (okt0 _) (fun x hx => by cases hx)).mono ?_
  rintro e w5 ⟨rfl, hD5, o5⟩
  have B5 : Below w.heap.size w w5 := Below.onl HB4.out o5 HBS.out (Nat.le_refl _)
  have HD5 := hide hD5
  have HB5 := hide B5
  clear hD5 o5 B5
  go_wp2_with fail
  refine (cread_any HD5.out (by simp [Sd.crashed]) 1).mono ?_
  rintro e w6 ⟨v, rfl, hT, B6⟩
  rw [told12] at hT ⊢
  have B6' := HB5.out.trans (B6.mono HB5.out.size)
  unfold Told at hT
  simp only [List.length_cons, List.length_replicate] at hT
  obtain ⟨g, cap, rfl, hcap1, hcap2⟩ : ∃ g cap, v = .slice (some ⟨g, 0, none⟩) 32 cap ∧ 32 ≤ cap ∧ cap ≤ maxLen := by
    rcases hT.2 with ⟨_, h⟩ | ⟨g, c, cur, h, _, _, q1, q2, _⟩
    · omega
    · exact ⟨g, c, h, q1, q2⟩
  have x0 := hT.cellAt (g := g) (cap := cap) 0 (by decide)
  have x31 := hT.cellAt (g := g) (cap := cap) 31 (by decide)
  have y0 : ((1 :: List.replicate 31 0 : List Int).map (Value.int .u8))[0]? = some (.int .u8 1) := rfl
  have y31 : ((1 :: List.replicate 31 0 : List Int).map (Value.int .u8))[31]? = some (.int .u8 0) := rfl
  rw [y0] at x0
  rw [y31] at x31
  have HB6 := hide B6'
  clear hT B6 B6' y0 y31
  go_wp2
  go_ret
  exact ⟨rfl, HB6.out⟩
end Go.Proofs.Ytgkgbemliinajaa
