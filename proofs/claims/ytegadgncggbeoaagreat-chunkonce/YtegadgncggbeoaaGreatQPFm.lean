/- Format of the program's pager. Over the translation. -/
import Derived.Laws.MakeOwn
import Derived.Test.YtegadgncggbeoaaGreatQPPg
import Derived.Test.YtegadgncggbeoaaGreatQCSa
namespace Go.Proofs.YtegadgncggbeoaaGreat
open Go.RowKit Apo
def zrow : Array Value := madeCells #[.int .u8 0] 32
theorem zrow_list : zrow.toList = zeros.map (Value.int .u8) := by
  unfold zrow zeros
  rw [toList_madeCells_one, List.map_replicate]
theorem mk32 (wx : World) : (Instr.makeSlice 34 (.int .i64 32) (.int .i64 32)).run Tryz.prog wx = .ok (.slice (some ⟨wx.heap.size, 0, none⟩) 32 32) (wx.alloc (.cells zrow 5)) := by
  obtain ⟨i1, hi, hz0, hz1, hz2⟩ := info_parts info_u8
  have := run_makeSlice (P := Tryz.prog) wx 34 5 i1 (.int .u8 0) Tryz.underlying34 hi hz0 .i64 .i64 32 32 (by decide) (by decide) (by rw [hz1]; decide) (by rw [hz2]; decide) (by decide)
  rw [hz1] at this
  exact this
attribute [local go_sem] mk32

/-- the device behind I of Format's writes -/
def fmtTo (st : Sd) : Nat → Sd
  | 0 => st
  | I + 1 => ((fmtTo st I).wrote I zeros).2
theorem fmtTo_C (st : Sd) : ∀ I, (fmtTo st I).C.length ≤ st.C.length + I
  | 0 => Nat.le_refl _
  | I + 1 => by have := wrote_C (fmtTo st I) I zeros; have := fmtTo_C st I; simp only [fmtTo]; omega
theorem zeros_byt : ∀ z ∈ zeros, 0 ≤ z ∧ z ≤ 255 := by simp [zeros]
theorem rd_zeros (w : World) : Rd .u8 (w.alloc (.cells zrow 5)) (some ⟨w.heap.size, 0, none⟩) zeros := by
  have r : (w.alloc (.cells zrow 5)).ownsRow 0 5 1 (.slice (some ⟨w.heap.size, 0, none⟩) 32 32) 32 (zeros.map (Value.int .u8)) := by
    refine ⟨by simp [zeros], .inr ⟨w.heap.size, 32, zrow, rfl, Nat.zero_le _, heap_alloc_new w _, Nat.le_refl _, by unfold maxLen; decide, by rw [← Array.length_toList, zrow_list]; simp [zeros], ?_⟩⟩
    rw [zrow_list]
    simp [zeros]
  exact (Rd.own r).1
set_option maxRecDepth 100000 in
set_option maxHeartbeats 2000000 in
theorem cformat_any {O : Nat → Prop} {w : World} {p : Nat} {st : Sd} (h : CDev O w p st) (hlt : ∀ i, O i → i < w.heap.size) (hc : st.C.length ≤ 1073741824) :
    Calls Tryz.prog 31 #[.pointer (some ⟨p, 0, none⟩)] w fun e w' => e = .returned (.int .i64 st.format.1) ∧ CDev (Gro O w w') w' p st.format.2 ∧ Onl O w w' := by
  have CP := cpages_any h
  have hlt' := hlt p h.own
  have H := hide h
  have HL := hide hlt
  clear h hlt
  by_cases h8 : st.S.length < 8
  · have e : st.format = (70, st) := by unfold Sd.format; rw [if_pos h8]
    rw [e]
    obtain ⟨q, hq⟩ : ∃ q, q = st.S.length / 4 := ⟨_, rfl⟩
    rw [← hq] at CP
    have h2 : q < 2 := by omega
    clear e hq
    go_enter Tryz.func31, Tryz.ntmps31
    go_wp2_with fail
    refine CP.mono ?_
    rintro e wx ⟨rfl, rfl⟩
    go_wp2
    go_ret
    exact ⟨rfl, H.out.mono Gro.of, Onl.refl _ _⟩
  · have ef : st.format = if (st.wrote 0 zeros).1 = 0 then (if ((fmtTo st 1).wrote 1 zeros).1 = 0 then (fmtTo st 2).save ⟨1, 0, 0, 0⟩ else (fmtTo st 1).wrote 1 zeros) else st.wrote 0 zeros := by
      unfold Sd.format
      rw [if_neg h8]
      rfl
    have HEF := hide ef
    obtain ⟨q, hq⟩ : ∃ q, q = st.S.length / 4 := ⟨_, rfl⟩
    rw [← hq] at CP
    have h2 : 2 ≤ q := by omega
    clear ef h8 hq
    go_enter Tryz.func31, Tryz.ntmps31
    go_wp2_with fail
    refine CP.mono ?_
    rintro e wx ⟨rfl, rfl⟩
    go_wp2
    go_loopw [8] (fun i wr => ∃ I : Nat, I ≤ 2 ∧ i = .int .i64 I ∧ Hid (∀ j : Nat, j < I → ((fmtTo st j).wrote j zeros).1 = 0) ∧ Hid (CDev (Gro O w wr) wr p (fmtTo st I)) ∧ Hid (Onl O w wr)) (fun i _ => 2 - (intOf i).toNat)
    case atStart => exact ⟨0, by omega, rfl, fun j q => absurd q (Nat.not_lt_zero _), H.out.mono Gro.of, Onl.refl _ _⟩
    case round =>
      obtain ⟨I, hI, rfl, hno, hR, hO⟩ := hrel
      have hCC := fmtTo_C st I
      have GL := Gro.lt HL.out hO.out.size
      by_cases hl : I < 2
      · have ow : Onl (fun _ => False) wr (wr.alloc (.cells zrow 5)) := (Onl.refl _ wr).alloc _
        have C := cwrite_any (hR.out.onl ow (fun _ _ q => q)) (by omega) (I : Int) (some ⟨wr.heap.size, 0, none⟩) 32 zeros (rd_zeros wr) (fun x hx _ q => by cases hx; have := GL _ q; simp at this) zeros_byt
        have HC := hide C
        have hz : zeros.length = 32 := by simp [zeros]
        rw [hz] at HC
        have HOW := hide (hO.out.alloc (.cells zrow 5))
        clear C ow
        go_wp2_with fail
        refine HC.out.mono ?_
        rintro e w1 ⟨rfl, r1, o1⟩
        have hsz : wr.heap.size ≤ (wr.alloc (.cells zrow 5)).heap.size := by simp
        have r1' := r1.mono (O' := Gro O w w1) (fun i q => q.elim (fun q => q.elim .inl (fun q => .inr ⟨q.1, Nat.lt_of_lt_of_le q.2 (Nat.le_trans hsz o1.size)⟩)) (fun q => .inr ⟨Nat.le_trans hO.out.size (Nat.le_trans hsz q.1), q.2⟩))
        have o1' := HOW.out.more o1 (fun i q => q.elim .inl (fun q => .inr q.1))
        have HR1 := hide r1'
        have HO1 := hide o1'
        clear r1 o1 r1' o1'
        by_cases hq : ((fmtTo st I).wrote I zeros).1 = 0
        · have hno2 : ∀ j : Nat, j < I + 1 → ((fmtTo st j).wrote j zeros).1 = 0 := fun j hj => by
            rcases Nat.lt_or_ge j I with q | q
            · exact hno.out j q
            · rw [show j = I by omega]; exact hq
          have HN2 := hide hno2
          clear hno2
          have hqb : (((fmtTo st I).wrote I zeros).1 != 0) = false := by simpa using hq
          go_wp2
          go_roundw
          case rel => exact ⟨I + 1, hl, by simp, HN2, HR1, HO1⟩
          case measure => simp [intOf]; omega
        · have hqb : (((fmtTo st I).wrote I zeros).1 != 0) = true := by simpa using hq
          have e : st.format = (fmtTo st I).wrote I zeros := by
            rw [HEF.out]
            have : I = 0 ∨ I = 1 := by omega
            rcases this with r | r
            · subst r
              have q : ¬ (st.wrote 0 zeros).1 = 0 := hq
              rw [if_neg q]
              rfl
            · subst r
              have q0 : (st.wrote 0 zeros).1 = 0 := hno.out 0 (by omega)
              have q1 : ¬ ((fmtTo st 1).wrote 1 zeros).1 = 0 := hq
              rw [if_pos q0, if_neg q1]
              rfl
          have HE := hide e
          clear e
          go_wp2
          go_ret
          rw [HE.out]
          exact ⟨rfl, HR1.out, HO1.out⟩
      · have hI2 : I = 2 := by omega
        subst hI2
        have e : st.format = (fmtTo st 2).save ⟨1, 0, 0, 0⟩ := by
          have q0 : (st.wrote 0 zeros).1 = 0 := hno.out 0 (by omega)
          have q1 : ((fmtTo st 1).wrote 1 zeros).1 = 0 := hno.out 1 (by omega)
          rw [HEF.out, if_pos q0, if_pos q1]
        have C := csave_any hR.out GL (by omega) ⟨1, 0, 0, 0⟩ ⟨by decide, by decide, by decide, by decide⟩
        have HC := hide C
        have HE := hide e
        clear C e
        go_wp2_with fail
        refine HC.out.mono ?_
        rintro e w1 ⟨rfl, r1, o1⟩
        have r1' := r1.mono (O' := Gro O w w1) (fun i q => q.elim (fun q => q.elim .inl (fun q => .inr ⟨q.1, Nat.lt_of_lt_of_le q.2 o1.size⟩)) (fun q => .inr ⟨Nat.le_trans hO.out.size q.1, q.2⟩))
        have o1' := hO.out.more o1 (fun i q => q.elim .inl (fun q => .inr q.1))
        have HR1 := hide r1'
        have HO1 := hide o1'
        clear r1 o1 r1' o1'
        go_wp2
        go_ret
        rw [HE.out]
        exact ⟨rfl, HR1.out, HO1.out⟩
end Go.Proofs.YtegadgncggbeoaaGreat
