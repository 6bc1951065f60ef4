/- What pack.Put answers, over the translation. -/
import Derived.Test.YtilklonjacjgbaaWri
import Derived.Test.YtilklonjacjgbaaFld
namespace Go.Proofs.Ytilklonjacjgbaa
open Go.RowKit Apo

set_option maxHeartbeats 1000000 in
theorem wfield_any (p : Nat) (cur : List Int) (f : Fld) (w : World) (hw : Wr w p cur) (hok : OkF f) (hc : cur.length + f.s.size ≤ 1000000000000) :
    Calls Try.prog 30 #[.pointer (some ⟨p, 0, none⟩), .agg #[.int .i64 f.k, .int .u64 f.n, .string f.s, .bool f.b]] w fun e w' => e = .returned (.tuple #[]) ∧ Wr w' p (cur ++ fenc f) ∧ Below p w w' := by
  have hW := hide hw
  have hp := hw.lt
  obtain ⟨k, n, s, b⟩ := f
  obtain ⟨h1, h2, h3, h4⟩ := hok
  simp only [] at h1 h2 h3 h4 hc ⊢
  have hb : Below w.heap.size w (w.alloc (.cells #[.int .i64 k, .int .u64 n, .string s, .bool b] 38)) := (Below.refl _ _).alloc (Nat.le_refl _) _
  have hW1 := hide (hw.old hb)
  clear hw
  by_cases k1 : k = 1
  · subst k1
    go_enter Try.func30, Try.ntmps30
    go_wp2_with fail
    refine (wnum_one p cur n _ (w.heap.size + 1) (World.size_alloc _ _).symm hW1.out h3 h4 (by omega)).mono ?_
    rintro e w1 ⟨rfl, r1, r2⟩
    have R1 := hide r1
    have R2 := hide ((hb.mono (Nat.le_of_lt hp)).trans r2)
    clear r1 r2
    go_wp2
    go_returns
    exact ⟨rfl, by simpa [fenc] using R1.out, R2⟩
  · by_cases k2 : k = 2
    · subst k2
      go_enter Try.func30, Try.ntmps30
      go_wp2_with fail
      refine (wtext_any p cur s _ hW1.out hc).mono ?_
      rintro e w1 ⟨rfl, r1, r2⟩
      have R1 := hide r1
      have R2 := hide ((hb.mono (Nat.le_of_lt hp)).trans r2)
      clear r1 r2
      go_wp2
      go_returns
      exact ⟨rfl, by simpa [fenc] using R1.out, R2⟩
    · by_cases k3 : k = 3
      · subst k3
        go_enter Try.func30, Try.ntmps30
        go_wp2_with fail
        refine (wflag_any p cur b _ hW1.out (by omega)).mono ?_
        rintro e w1 ⟨rfl, r1, r2⟩
        have R1 := hide r1
        have R2 := hide ((hb.mono (Nat.le_of_lt hp)).trans r2)
        clear r1 r2
        go_wp2
        go_returns
        exact ⟨rfl, by simpa [fenc] using R1.out, R2⟩
      · have e1 : (k == 1) = false := by simpa using k1
        have e2 : (k == 2) = false := by simpa using k2
        have e3 : (k == 3) = false := by simpa using k3
        go_enter Try.func30, Try.ntmps30
        go_wp2
        go_returns
        exact ⟨rfl, by simpa [fenc, k1, k2, k3] using hW1.out, hb.mono (Nat.le_of_lt hp)⟩

theorem wr_new (w : World) : Wr (w.alloc (.cells #[.slice none 0 0] 60)) w.heap.size [] :=
  ⟨.slice none 0 0, Ob.new w [.slice none 0 0] 60, World.ownsRow_nil _ _ _ _⟩

set_option maxHeartbeats 1000000 in
theorem pput_any (a : Option Addr) (cap : Nat) (l : List Fld) (w : World) (hr : RdF w a l) (hok : ∀ f ∈ l, OkF f) (hl : l.length ≤ 100000) (hs : ∀ f ∈ l, f.s.size ≤ 1000000) :
    Calls Try.prog 11 #[.slice a l.length cap] w fun e w' => ∃ v, e = .returned v ∧ w'.ownsRow (w.heap.size + 1) 5 1 v (fencs l).length ((fencs l).map (Value.int .u8)) ∧ Below w.heap.size w w' := by
  have hR := hide hr
  have hO := hide hok
  have hS := hide hs
  have hN := hide (wr_new w)
  have hb0 : Below w.heap.size w (w.alloc (.cells #[.slice none 0 0] 60)) := (Below.refl _ _).alloc (Nat.le_refl _) _
  have hT : Hid (∀ k, (fencs (l.take k)).length ≤ 101010000000) := by
    intro k
    have h1 := fencs_len (l := l.take k) (m := 1000000) (fun f hf => hs f (List.mem_of_mem_take hf))
    have h2 : (l.take k).length ≤ 100000 := by simp; omega
    have h3 := Nat.mul_le_mul_right (1000000 + 10) h2
    omega
  clear hr hok hs
  go_enter Try.func11, Try.ntmps11
  go_wp2
  go_loopw [10] (fun i wr => ∃ k : Nat, k ≤ l.length ∧ i = .int .i64 k ∧ Wr wr w.heap.size (fencs (l.take k)) ∧ Below w.heap.size w wr) (fun i _ => l.length - (intOf i).toNat)
  case atStart => exact ⟨0, Nat.zero_le _, rfl, hN, hb0⟩
  case round =>
    obtain ⟨k, hk, rfl, hA, hbr⟩ := hrel
    have hsz := hbr.size
    have hp := hA.lt
    by_cases hlt : k < l.length
    · have hz : l[k]? = some l[k] := List.getElem?_eq_getElem hlt
      generalize l[k] = f at hz
      obtain ⟨b, off, rfl, c0, c1, c2, c3⟩ := (hR.out.below hbr) k f hz
      have hfs := hS.out f (List.mem_of_getElem? hz)
      have hfo := hO.out f (List.mem_of_getElem? hz)
      have hFT := hide (fencs_take hz)
      have hb1 : Below wr.heap.size wr (wr.alloc (.cells #[.int .i64 f.k, .int .u64 f.n, .string f.s, .bool f.b] 38)) := (Below.refl _ _).alloc (Nat.le_refl _) _
      have hTk := hT.out k
      have hC := hide (wfield_any w.heap.size (fencs (l.take k)) f _ (hA.old hb1) hfo (by omega))
      have hb2 := hide (hbr.trans (hb1.mono hsz))
      clear hz hfo hA hb1 hbr
      go_wp2_with fail
      refine hC.out.mono ?_
      rintro e w1 ⟨rfl, r1, r2⟩
      have R1 := hide r1
      have R2 := hide (hb2.out.trans r2)
      rw [← hFT.out] at R1
      clear r1 r2 hC hb2 hFT
      go_wp2
      go_roundw
      case rel => exact ⟨k + 1, by omega, by go_num, R1, R2⟩
      case measure => simp [intOf]; omega
    · obtain ⟨v, hob, hown⟩ := hA
      have hv := hob.cell 0
      simp only [List.getElem?_cons_zero] at hv
      obtain ⟨av, cv, hv2, _⟩ := own_form hown
      subst hv2
      have HO := hide hown
      clear hown hob
      go_wp2
      go_ret
      rw [List.take_of_length_le (by omega)] at HO
      rw [List.take_of_length_le (by omega)]
      exact ⟨_, rfl, HO, hbr⟩
end Go.Proofs.Ytilklonjacjgbaa
