/- What the document's own Text, Flag and Put answer, over the translation. -/
import Derived.Test.YtilklonjacjgbaaNum
import Derived.Test.YtilklonjacjgbaaLit
import Derived.Test.YtilklonjacjgbaaFld
import Derived.Handy
namespace Go.Proofs.Ytilklonjacjgbaa
open Go.RowKit Apo

set_option maxHeartbeats 1000000 in
theorem xptext_any (base : Nat) (v : Value) (cur : List Int) (s : ByteArray) (w : World) (hown : w.ownsRow base 5 1 v cur.length (cur.map (Value.int .u8))) (hbase : base ≤ w.heap.size) (hl : cur.length + s.size ≤ 1000000000000) :
    Calls Try.prog 32 #[v, .string s] w fun e w' => ∃ v', e = .returned v' ∧ w'.ownsRow base 5 1 v' (cur ++ (enc s.size ++ nums s)).length ((cur ++ (enc s.size ++ nums s)).map (Value.int .u8)) ∧ Below base w w' := by
  obtain ⟨i0, hi, hz0, hz1, hz2⟩ := info_parts Try.info5
  have hel := enc_len s.size
  have HC := hide (num_any base v cur s.size w hown hbase (by omega) (by omega) (by omega))
  clear hown
  go_enter Try.func32, Try.ntmps32
  go_wp2_with fail
  refine HC.out.mono ?_
  rintro e w1 ⟨v1, rfl, o1, b1⟩
  simp only [Int.toNat_natCast] at o1
  have O1 := hide o1
  have B1 := hide b1
  have hs1 := b1.size
  clear HC o1 b1
  go_wp2_with (at_builtin; refine Lib.wpList_append_own_string _ rfl _ _ 23 9 rfl base 5 i0 Try.underlying23 Try.underlying9 hi hz0 hz1 hz2 _ (cur ++ enc s.size).length ((cur ++ enc s.size).map (Value.int .u8)) rfl O1.out s rfl (by rw [List.length_append]; unfold maxLen; omega) (by rw [List.length_append]; omega) (by omega) ?_)
  intro v2 w2 hown2 hgrow2 _
  have hown3 : Hid (w2.ownsRow base 5 1 v2 (cur ++ (enc s.size ++ nums s)).length ((cur ++ (enc s.size ++ nums s)).map (Value.int .u8))) := by
    have hn : cur.length + (enc s.size).length + s.size = (cur ++ (enc s.size ++ nums s)).length := by rw [← List.append_assoc, List.length_append (bs := nums s), nums_length, List.length_append]
    show World.ownsRow _ _ _ _ _ _ _
    rw [← hn]
    simpa [strCells_nums] using hown2
  have B2 := hide (B1.out.grown hgrow2 (by omega) (fun q hq => (O1.out.lt q hq).1))
  clear hown2 hgrow2 O1 B1
  go_wp2
  go_ret
  exact ⟨_, rfl, hown3, B2⟩

set_option maxHeartbeats 1000000 in
theorem xpflag_any (base : Nat) (v : Value) (cur : List Int) (b : Bool) (w : World) (hown : w.ownsRow base 5 1 v cur.length (cur.map (Value.int .u8))) (hbase : base ≤ w.heap.size) (hl : cur.length ≤ 1000000000000) :
    Calls Try.prog 33 #[v, .bool b] w fun e w' => ∃ v', e = .returned v' ∧ w'.ownsRow base 5 1 v' (cur ++ [if b then 1 else 0]).length ((cur ++ [if b then (1 : Int) else 0]).map (Value.int .u8)) ∧ Below base w w' := by
  obtain ⟨i0, hi, hz0, hz1, hz2⟩ := info_parts Try.info5
  have O := hide hown
  clear hown
  cases b
  · go_enter Try.func33, Try.ntmps33
    go_wp2_with (at_builtin; refine wpList_append_own _ rfl _ _ 23 rfl base 5 i0 (.int .u8 0) 1 1 Try.underlying23 hi hz0 hz1 hz2 rfl (by decide) _ cur.length (cur.map (Value.int .u8)) rfl (O.out.alloc _) ⟨w.heap.size, 0, none⟩ 1 1 [.int .u8 0] rfl rfl (cell_one_new _ _ _) (ints_oneCell _ [0]) (by unfold maxLen; omega) (by omega) (by simp; omega) ?_)
    intro v2 w2 hown2 hgrow2 _
    have O2 := hide hown2
    have B2 := hide (((Below.refl base w).alloc hbase _).grown hgrow2 (by simp; omega) (fun q hq => (O.out.lt q hq).1))
    clear hown2 hgrow2
    go_wp2
    go_ret
    exact ⟨_, rfl, O2, B2⟩
  · go_enter Try.func33, Try.ntmps33
    go_wp2_with (at_builtin; refine wpList_append_own _ rfl _ _ 23 rfl base 5 i0 (.int .u8 0) 1 1 Try.underlying23 hi hz0 hz1 hz2 rfl (by decide) _ cur.length (cur.map (Value.int .u8)) rfl (O.out.alloc _) ⟨w.heap.size, 0, none⟩ 1 1 [.int .u8 1] rfl rfl (cell_one_new _ _ _) (ints_oneCell _ [1]) (by unfold maxLen; omega) (by omega) (by simp; omega) ?_)
    intro v2 w2 hown2 hgrow2 _
    have O2 := hide hown2
    have B2 := hide (((Below.refl base w).alloc hbase _).grown hgrow2 (by simp; omega) (fun q hq => (O.out.lt q hq).1))
    clear hown2 hgrow2
    go_wp2
    go_ret
    exact ⟨_, rfl, O2, B2⟩

set_option maxHeartbeats 2000000 in
theorem xput_any (a : Option Addr) (cap : Nat) (l : List Fld) (w : World) (hr : RdF w a l) (hok : ∀ f ∈ l, OkF f) (hl : l.length ≤ 100000) (hs : ∀ f ∈ l, f.s.size ≤ 1000000) :
    Calls Try.prog 12 #[.slice a l.length cap] w fun e w' => ∃ v, e = .returned v ∧ w'.ownsRow w.heap.size 5 1 v (fencs l).length ((fencs l).map (Value.int .u8)) ∧ Below w.heap.size w w' := by
  have hR := hide hr
  have hO := hide hok
  have hS := hide hs
  have hT : Hid (∀ k, (fencs (l.take k)).length ≤ 101010000000) := by
    intro k
    have h1 := fencs_len (l := l.take k) (m := 1000000) (fun f hf => hs f (List.mem_of_mem_take hf))
    have h2 : (l.take k).length ≤ 100000 := by simp; omega
    have h3 := Nat.mul_le_mul_right (1000000 + 10) h2
    omega
  clear hr hok hs
  go_enter Try.func12, Try.ntmps12
  go_wp2
  go_loopw [3, 8] (fun v i wr => ∃ k : Nat, k ≤ l.length ∧ i = .int .i64 k ∧ wr.ownsRow w.heap.size 5 1 v (fencs (l.take k)).length ((fencs (l.take k)).map (Value.int .u8)) ∧ Below w.heap.size w wr) (fun _ i _ => l.length - (intOf i).toNat)
  case atStart => exact ⟨0, Nat.zero_le _, rfl, World.ownsRow_nil _ _ _ _, Below.refl _ _⟩
  case round =>
    obtain ⟨k, hk, rfl, hA, hbr⟩ := hrel
    have hsz := hbr.size
    by_cases hlt : k < l.length
    · have hz : l[k]? = some l[k] := List.getElem?_eq_getElem hlt
      generalize l[k] = f at hz
      obtain ⟨b, off, rfl, c0, c1, c2, c3⟩ := (hR.out.below hbr) k f hz
      have hfs := hS.out f (List.mem_of_getElem? hz)
      have hfo := hO.out f (List.mem_of_getElem? hz)
      have hFT := hide (fencs_take hz)
      obtain ⟨kk, n, s, bb⟩ := f
      obtain ⟨h1, h2, h3, h4⟩ := hfo
      simp only [] at c0 c1 c2 c3 hfs h1 h2 h3 h4
      have hb1 : Below w.heap.size w (wr.alloc (.cells #[.int .i64 kk, .int .u64 n, .string s, .bool bb] 38)) := hbr.alloc hsz _
      have hTk := hT.out k
      have HB := hide hb1
      have HA : Hid ((wr.alloc (.cells #[.int .i64 kk, .int .u64 n, .string s, .bool bb] 38)).ownsRow w.heap.size 5 1 u3 (fencs (l.take k)).length ((fencs (l.take k)).map (Value.int .u8))) := hA.alloc _
      clear hz hA hb1 hbr
      by_cases k1 : kk = 1
      · subst k1
        have HC := hide (num_any w.heap.size _ _ n _ HA.out (by simp; omega) (by omega) h3 h4)
        go_wp2_with fail
        refine HC.out.mono ?_
        rintro e w1 ⟨v1, rfl, o1, b1⟩
        have O1 : Hid (w1.ownsRow w.heap.size 5 1 v1 (fencs (l.take (k + 1))).length ((fencs (l.take (k + 1))).map (Value.int .u8))) := by rw [hFT.out]; simpa [fenc, Hid] using o1
        have B1 := hide (HB.out.trans b1)
        clear HC o1 b1 HA HB hFT
        go_wp2
        go_roundw
        case rel => exact ⟨k + 1, by omega, by go_num, O1, B1⟩
        case measure => simp [intOf]; omega
      · by_cases k2 : kk = 2
        · subst k2
          have HC := hide (xptext_any w.heap.size _ _ s _ HA.out (by simp; omega) (by omega))
          go_wp2_with fail
          refine HC.out.mono ?_
          rintro e w1 ⟨v1, rfl, o1, b1⟩
          have O1 : Hid (w1.ownsRow w.heap.size 5 1 v1 (fencs (l.take (k + 1))).length ((fencs (l.take (k + 1))).map (Value.int .u8))) := by rw [hFT.out]; simpa [fenc, Hid] using o1
          have B1 := hide (HB.out.trans b1)
          clear HC o1 b1 HA HB hFT
          go_wp2
          go_roundw
          case rel => exact ⟨k + 1, by omega, by go_num, O1, B1⟩
          case measure => simp [intOf]; omega
        · by_cases k3 : kk = 3
          · subst k3
            have HC := hide (xpflag_any w.heap.size _ _ bb _ HA.out (by simp; omega) (by omega))
            go_wp2_with fail
            refine HC.out.mono ?_
            rintro e w1 ⟨v1, rfl, o1, b1⟩
            have O1 : Hid (w1.ownsRow w.heap.size 5 1 v1 (fencs (l.take (k + 1))).length ((fencs (l.take (k + 1))).map (Value.int .u8))) := by rw [hFT.out]; simpa [fenc, Hid] using o1
            have B1 := hide (HB.out.trans b1)
            clear HC o1 b1 HA HB hFT
            go_wp2
            go_roundw
            case rel => exact ⟨k + 1, by omega, by go_num, O1, B1⟩
            case measure => simp [intOf]; omega
          · have e1 : (kk == 1) = false := by simpa using k1
            have e2 : (kk == 2) = false := by simpa using k2
            have e3 : (kk == 3) = false := by simpa using k3
            have O1 : Hid ((wr.alloc (.cells #[.int .i64 kk, .int .u64 n, .string s, .bool bb] 38)).ownsRow w.heap.size 5 1 u3 (fencs (l.take (k + 1))).length ((fencs (l.take (k + 1))).map (Value.int .u8))) := by rw [hFT.out]; simpa [fenc, k1, k2, k3, Hid] using HA.out
            clear HA hFT
            go_wp2
            go_roundw
            case rel => exact ⟨k + 1, by omega, by go_num, O1, HB⟩
            case measure => simp [intOf]; omega
    · have HO := hide hA
      clear hA
      go_wp2
      go_ret
      rw [List.take_of_length_le (by omega)] at HO
      exact ⟨_, rfl, HO, hbr⟩
end Go.Proofs.Ytilklonjacjgbaa
