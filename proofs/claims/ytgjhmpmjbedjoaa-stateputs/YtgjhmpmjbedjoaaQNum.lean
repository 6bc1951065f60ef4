/- What the document's own Num answers, over the translation. -/
import Derived.Test.YtgjhmpmjbedjoaaQA5
import Derived.Test.YtgjhmpmjbedjoaaQGBa
namespace Go.Proofs.Ytgjhmpmjbedjoaa
open Go.RowKit Apo

set_option maxRecDepth 100000 in
set_option maxHeartbeats 1000000 in
theorem num_any (base : Nat) (v : Value) (cur : List Int) (n : Int) (w : World) (hown : w.ownsRow base 5 1 v cur.length (cur.map (Value.int .u8))) (hbase : base ≤ w.heap.size) (hl : cur.length ≤ 1099511627776) (h0 : 0 ≤ n) (h1 : n ≤ 18446744073709551615) :
    Calls Try.prog 28 #[v, .int .u64 n] w fun e w' => ∃ v', e = .returned v' ∧ w'.ownsRow base 5 1 v' (cur ++ enc n.toNat).length ((cur ++ enc n.toNat).map (Value.int .u8)) ∧ Below base w w' := by
  obtain ⟨i0, hi, hz0, hz1, hz2⟩ := info_parts infoU8
  have hel := enc_len n.toNat
  generalize hF : cur ++ enc n.toNat = all
  have hal : all.length ≤ cur.length + 10 := by rw [← hF, List.length_append]; omega
  have HF : Hid (cur ++ enc n.toNat = all) := hF
  clear hF
  go_enter Try.func28, Try.ntmps28
  go_wp2
  go_loopw [0, 1] (fun v t wr => ∃ m : Int, 0 ≤ m ∧ m ≤ 18446744073709551615 ∧ t = .int .u64 m ∧ ∃ cu : List Int, wr.ownsRow base 5 1 v cu.length (cu.map (Value.int .u8)) ∧ Hid (cu ++ enc m.toNat = all) ∧ Below base w wr) (fun _ t _ => (intOf t).toNat)
  case atStart => exact ⟨n, h0, h1, rfl, cur, hown, HF, Below.refl _ _⟩
  case round =>
    clear hown
    obtain ⟨m, hm0, hm1, rfl, cu, hown, hC, hbr⟩ := hrel
    have hsz := hbr.size
    have hcl : cu.length + 1 ≤ cur.length + 10 := by
      have e := congrArg List.length hC.out
      have := enc_len m.toNat
      rw [List.length_append] at e
      omega
    by_cases hge : 128 ≤ m
    · go_wp2_with (at_builtin; refine wpList_append_own _ rfl _ _ 30 rfl base 5 i0 (.int .u8 0) 1 1 Try.underlying30 hi hz0 hz1 hz2 rfl (by decide) _ cu.length (cu.map (Value.int .u8)) rfl (hown.alloc _) ⟨wr.heap.size, 0, none⟩ 1 1 [.int .u8 (m % 128 + 128)] rfl rfl (cell_one_new _ _ _) (ints_oneCell _ [m % 128 + 128]) (by unfold maxLen; omega) (by omega) (by simp; omega) ?_)
      intro v3 w3 hown3 hgrow3 _
      have hb3 : Below base w w3 := (hbr.alloc (by omega) _).grown hgrow3 (by simp; omega) (fun q hq => (hown.lt q hq).1)
      have HP : Hid ((cu ++ [m % 128 + 128]) ++ enc (m / 128).toNat = all) := put_step hge hm1 hC.out
      have HO : Hid (w3.ownsRow base 5 1 v3 (cu ++ [m % 128 + 128]).length ((cu ++ [m % 128 + 128]).map (Value.int .u8))) := by
        show World.ownsRow _ _ _ _ _ _ _
        simpa using hown3
      clear hown3 hgrow3 hown hC hbr
      go_wp2
      go_roundw
      case rel => exact ⟨m / 128, by omega, by omega, rfl, cu ++ [m % 128 + 128], HO, HP, hb3⟩
      case measure => simp [intOf]; omega
    · have hmm : m % 256 = m := by omega
      go_wp2_with (at_builtin; refine wpList_append_own _ rfl _ _ 30 rfl base 5 i0 (.int .u8 0) 1 1 Try.underlying30 hi hz0 hz1 hz2 rfl (by decide) _ cu.length (cu.map (Value.int .u8)) rfl (hown.alloc _) ⟨wr.heap.size, 0, none⟩ 1 1 [.int .u8 m] rfl rfl (cell_one_new _ _ _) (ints_oneCell _ [m]) (by unfold maxLen; omega) (by omega) (by simp; omega) ?_)
      intro v3 w3 hown3 hgrow3 _
      have hb3 : Below base w w3 := (hbr.alloc (by omega) _).grown hgrow3 (by simp; omega) (fun q hq => (hown.lt q hq).1)
      have HE : Hid (cu ++ [m] = all) := by
        have h := hC.out
        rw [enc_one hm0 (by omega)] at h
        exact h
      have HO : Hid (w3.ownsRow base 5 1 v3 all.length (all.map (Value.int .u8))) := by
        show World.ownsRow _ _ _ _ _ _ _
        rw [← HE.out]
        simpa using hown3
      clear hown3 hgrow3 hown hC hbr hmm
      go_wp2
      go_ret
      exact ⟨_, rfl, HO, hb3⟩
end Go.Proofs.Ytgjhmpmjbedjoaa
