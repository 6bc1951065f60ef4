/- What the document's own Num, and the statements' function 'all', answer, over the translation. -/
import Derived.Test.YtacdjaibmbjldaaAwake
namespace Go.Proofs.Ytacdjaibmbjldaa
open Go.RowKit Apo

set_option maxHeartbeats 1000000 in
theorem num_any (base : Nat) (v : Value) (cur : List Int) (n : Int) (w : World) (hown : w.ownsRow base 5 1 v cur.length (cur.map (Value.int .u8))) (hbase : base ≤ w.heap.size) (hl : cur.length ≤ 1099511627776) (h0 : 0 ≤ n) (h1 : n ≤ 18446744073709551615) :
    Calls Try.prog 12 #[v, .int .u64 n] w fun e w' => ∃ v', e = .returned v' ∧ w'.ownsRow base 5 1 v' (cur ++ enc n.toNat).length ((cur ++ enc n.toNat).map (Value.int .u8)) ∧ Below base w w' := by
  obtain ⟨i0, hi, hz0, hz1, hz2⟩ := info_parts Try.info5
  have hel := enc_len n.toNat
  generalize hF : cur ++ enc n.toNat = all
  have hal : all.length ≤ cur.length + 10 := by rw [← hF, List.length_append]; omega
  have HF : Hid (cur ++ enc n.toNat = all) := hF
  clear hF
  go_enter Try.func12, Try.ntmps12
  go_wp2
  go_loopw [0, 1] (fun v t wr => ∃ m : Int, 0 ≤ m ∧ m ≤ 18446744073709551615 ∧ t = .int .u64 m ∧ ∃ cu : List Int, wr.ownsRow base 5 1 v cu.length (cu.map (Value.int .u8)) ∧ Hid (cu ++ enc m.toNat = all) ∧ Below base w wr) (fun _ t _ => (intOf t).toNat)
  case atStart => exact ⟨n, h0, h1, rfl, cur, hown, HF, Below.refl _ _⟩
  case round =>
    clear hown
    obtain ⟨m, hm0, hm1, rfl, cu, hown, hC, hbr⟩ := hrel
    have hsz := hbr.size
    have hcl : cu.length + 1 ≤ cur.length + 10 := by
      have e := congrArg List.length hC.out
      have := enc_len m.toNat
      rw [List.length_append] at e
      omega
    by_cases hge : 128 ≤ m
    · go_wp2_with (at_builtin; refine wpList_append_own _ rfl _ _ 22 rfl base 5 i0 (.int .u8 0) 1 1 Try.underlying22 hi hz0 hz1 hz2 rfl (by decide) _ cu.length (cu.map (Value.int .u8)) rfl (hown.alloc _) ⟨wr.heap.size, 0, none⟩ 1 1 [.int .u8 (m % 128 + 128)] rfl rfl (cell_one_new _ _ _) (ints_oneCell _ [m % 128 + 128]) (by unfold maxLen; omega) (by omega) (by simp; omega) ?_)
      intro v3 w3 hown3 hgrow3 _
      have hb3 : Below base w w3 := (hbr.alloc (by omega) _).grown hgrow3 (by simp; omega) (fun q hq => (hown.lt q hq).1)
      have HP : Hid ((cu ++ [m % 128 + 128]) ++ enc (m / 128).toNat = all) := put_step hge hm1 hC.out
      have HO : Hid (w3.ownsRow base 5 1 v3 (cu ++ [m % 128 + 128]).length ((cu ++ [m % 128 + 128]).map (Value.int .u8))) := by
        show World.ownsRow _ _ _ _ _ _ _
        simpa using hown3
      clear hown3 hgrow3 hown hC hbr
      go_wp2
      go_roundw
      case rel => exact ⟨m / 128, by omega, by omega, rfl, cu ++ [m % 128 + 128], HO, HP, hb3⟩
      case measure => simp [intOf]; omega
    · have hmm : m % 256 = m := by omega
      go_wp2_with (at_builtin; refine wpList_append_own _ rfl _ _ 22 rfl base 5 i0 (.int .u8 0) 1 1 Try.underlying22 hi hz0 hz1 hz2 rfl (by decide) _ cu.length (cu.map (Value.int .u8)) rfl (hown.alloc _) ⟨wr.heap.size, 0, none⟩ 1 1 [.int .u8 m] rfl rfl (cell_one_new _ _ _) (ints_oneCell _ [m]) (by unfold maxLen; omega) (by omega) (by simp; omega) ?_)
      intro v3 w3 hown3 hgrow3 _
      have hb3 : Below base w w3 := (hbr.alloc (by omega) _).grown hgrow3 (by simp; omega) (fun q hq => (hown.lt q hq).1)
      have HE : Hid (cu ++ [m] = all) := by
        have h := hC.out
        rw [enc_one hm0 (by omega)] at h
        exact h
      have HO : Hid (w3.ownsRow base 5 1 v3 all.length (all.map (Value.int .u8))) := by
        show World.ownsRow _ _ _ _ _ _ _
        rw [← HE.out]
        simpa using hown3
      clear hown3 hgrow3 hown hC hbr hmm
      go_wp2
      go_ret
      exact ⟨_, rfl, HO, hb3⟩

set_option maxHeartbeats 1000000 in
theorem all_any (base : Nat) (v : Value) (cur : List Int) (a : Option Addr) (cap : Nat) (l : List Int) (w0 w : World) (hown : w.ownsRow base 5 1 v cur.length (cur.map (Value.int .u8))) (hbase : base ≤ w.heap.size)
    (hr : Rd .u64 w0 a l) (hb0 : Below w0.heap.size w0 w) (hw0 : w0.heap.size ≤ base) (hu : InU l) (hl : cur.length ≤ 549755813888) (hl2 : l.length ≤ 1073741824) :
    Calls Try.prog 10 #[v, .slice a l.length cap] w fun e w' => ∃ v', e = .returned v' ∧ w'.ownsRow base 5 1 v' (cur ++ encs l).length ((cur ++ encs l).map (Value.int .u8)) ∧ Below base w w' := by
  have hTk : Hid (∀ k, (cur ++ encs (l.take k)).length ≤ cur.length + 10 * l.length) := by
    intro k
    have h1 := (encs_len (l.take k)).2
    have h2 : (l.take k).length ≤ l.length := by simp; omega
    rw [List.length_append]
    omega
  have hR : Hid (Rd .u64 w0 a l) := hr
  clear hr
  go_enter Try.func10, Try.ntmps10
  go_wp2
  go_loopw [0, 9] (fun v i wr => ∃ k : Nat, k ≤ l.length ∧ i = .int .i64 k ∧ wr.ownsRow base 5 1 v (cur ++ encs (l.take k)).length ((cur ++ encs (l.take k)).map (Value.int .u8)) ∧ Below base w wr) (fun _ i _ => l.length - (intOf i).toNat)
  case atStart => exact ⟨0, Nat.zero_le _, rfl, by simpa [encs] using hown, Below.refl _ _⟩
  case round =>
    clear hown
    obtain ⟨k, hk, rfl, hown, hbr⟩ := hrel
    by_cases hlt : k < l.length
    · have hbw : Below w0.heap.size w0 wr := hb0.trans (hbr.mono hw0)
      obtain ⟨b, off, z, rfl, hc, hz, hm⟩ := (hR.out.below hbw).at hlt
      have hzb := hu z hm
      have HS : Hid (cur ++ encs (l.take k) ++ enc z.toNat = cur ++ encs (l.take (k + 1))) := by
        show _ = _
        rw [encs_take hz.out, List.append_assoc]
      have hT0 := hTk.out k
      have hsz := hbr.size
      clear hm hz hbw
      go_wp2_with fail
      refine (num_any base _ (cur ++ encs (l.take k)) z wr hown (by omega) (by omega) hzb.1 hzb.2).mono ?_
      rintro e w1 ⟨v1, rfl, hown1, hb1⟩
      rw [HS.out] at hown1
      have hb2 := hbr.trans hb1
      clear hown hbr hb1 hc
      go_wp2
      go_roundw
      case rel => exact ⟨k + 1, by omega, by go_num, hown1, hb2⟩
      case measure => simp [intOf]; omega
    · go_wp2
      go_ret
      rw [List.take_of_length_le (by omega)] at hown
      exact ⟨_, rfl, hown, hbr⟩
end Go.Proofs.Ytacdjaibmbjldaa
