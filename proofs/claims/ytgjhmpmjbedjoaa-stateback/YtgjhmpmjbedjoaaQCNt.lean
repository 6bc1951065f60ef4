/- The document's Num, Text and Flag behind bytes of somebody's own; pack.Writer's Flag. Over the translation. -/
import Derived.BigRegion
import Derived.Test.YtgjhmpmjbedjoaaQA6
namespace Go.Proofs.Ytgjhmpmjbedjoaa
open Go.RowKit Apo
attribute [local go_sem ↓] Apo.app_exec
set_option maxHeartbeats 2000000 in
set_option maxRecDepth 100000 in
theorem num_o {O : Nat → Prop} (v : Value) (cur : List Int) (n : Int) (w : World) (hown : Row O w 5 1 v cur.length (cur.map (Value.int .u8))) (hl : cur.length ≤ 1099511627776) (h0 : 0 ≤ n) (h1 : n ≤ 18446744073709551615) :
    Calls Try.prog 28 #[v, .int .u64 n] w fun e w' => ∃ v', e = .returned v' ∧ Row (Gro O w w') w' 5 1 v' (cur ++ enc n.toNat).length ((cur ++ enc n.toNat).map (Value.int .u8)) ∧ Onl O w w' := by
  obtain ⟨i0, hi, hz0, hz1, hz2⟩ := info_parts infoU8
  have hel := enc_len n.toNat
  generalize hF : cur ++ enc n.toNat = all
  have hal : all.length ≤ cur.length + 10 := by rw [← hF, List.length_append]; omega
  have HF : Hid (cur ++ enc n.toNat = all) := hF
  have HW := hide hown
  clear hF hown
  go_enter Try.func28, Try.ntmps28
  go_wp2
  go_loopw [0, 1] (fun v t wr => ∃ m : Int, 0 ≤ m ∧ m ≤ 18446744073709551615 ∧ t = .int .u64 m ∧ ∃ cu : List Int, Hid (Row (Gro O w wr) wr 5 1 v cu.length (cu.map (Value.int .u8))) ∧ Hid (cu ++ enc m.toNat = all) ∧ Hid (Onl O w wr)) (fun _ t _ => (intOf t).toNat)
  case atStart => exact ⟨n, h0, h1, rfl, cur, hide (HW.out.mono (fun i q => .inl q)), HF, hide (Onl.refl _ _)⟩
  case round =>
    obtain ⟨m, hm0, hm1, rfl, cu, HR, hC, HO⟩ := hrel
    have hcl : cu.length + 1 ≤ cur.length + 10 := by
      have e := congrArg List.length hC.out
      have := enc_len m.toNat
      rw [List.length_append] at e
      omega
    have bA := fun z : Int => (Below.refl wr.heap.size wr).alloc (Nat.le_refl _) (.cells #[.int .u8 z] 5)
    by_cases hge : 128 ≤ m
    · obtain ⟨v3, w3, RR, r3, g3, _, hl3⟩ := run_append_own_at (P := Try.prog) (wr.alloc (.cells #[.int .u8 (m % 128 + 128)] 5)) 0 30 30 5 i0 _ 1 1 Try.underlying30 hi hz0 hz1 hz2 rfl (by decide) _ cu.length (cu.map (Value.int .u8)) (HR.out.1.alloc _) ⟨wr.heap.size, 0, none⟩ 1 1 [.int .u8 (m % 128 + 128)] rfl (cell_one_new _ _ _) (by simp; rfl) (by unfold maxLen; omega) (by omega) (Nat.zero_le _)
      obtain ⟨s1, s2, s3⟩ := app_runs RR
      obtain ⟨rr, oo⟩ := row_grown HR.out HO.out (bA (m % 128 + 128)) r3 g3 hl3
      have HP : Hid ((cu ++ [m % 128 + 128]) ++ enc (m / 128).toNat = all) := put_step hge hm1 hC.out
      have HRR : Hid (Row (Gro O w w3) w3 5 1 v3 (cu ++ [m % 128 + 128]).length ((cu ++ [m % 128 + 128]).map (Value.int .u8))) := by
        refine hide ?_
        simpa using rr
      have HOO := hide oo
      clear r3 g3 RR rr oo hl3 bA
      go_wp2
      go_roundw
      case rel => exact ⟨m / 128, by omega, by omega, rfl, cu ++ [m % 128 + 128], HRR, HP, HOO⟩
      case measure => simp [intOf]; omega
    · have hmm : m % 256 = m := by omega
      obtain ⟨v3, w3, RR, r3, g3, _, hl3⟩ := run_append_own_at (P := Try.prog) (wr.alloc (.cells #[.int .u8 m] 5)) 0 30 30 5 i0 _ 1 1 Try.underlying30 hi hz0 hz1 hz2 rfl (by decide) _ cu.length (cu.map (Value.int .u8)) (HR.out.1.alloc _) ⟨wr.heap.size, 0, none⟩ 1 1 [.int .u8 m] rfl (cell_one_new _ _ _) (by simp; rfl) (by unfold maxLen; omega) (by omega) (Nat.zero_le _)
      obtain ⟨s1, s2, s3⟩ := app_runs RR
      obtain ⟨rr, oo⟩ := row_grown HR.out HO.out (bA m) r3 g3 hl3
      have HRR : Hid (Row (Gro O w w3) w3 5 1 v3 all.length (all.map (Value.int .u8))) := by
        refine hide ?_
        have h := hC.out
        rw [enc_one hm0 (by omega)] at h
        rw [← h]
        simpa using rr
      have HOO := hide oo
      clear r3 g3 RR rr oo hl3 bA
      go_wp2
      go_ret
      exact ⟨_, rfl, HRR.out, HOO.out⟩
set_option maxHeartbeats 2000000 in
set_option maxRecDepth 100000 in
theorem text_o {O : Nat → Prop} (v : Value) (cur : List Int) (s : ByteArray) (w : World) (hown : Row O w 5 1 v cur.length (cur.map (Value.int .u8))) (hl : cur.length + s.size ≤ 100000000000) :
    Calls Try.prog 27 #[v, .string s] w fun e w' => ∃ v', e = .returned v' ∧ Row (Gro O w w') w' 5 1 v' (cur ++ (enc s.size ++ nums s)).length ((cur ++ (enc s.size ++ nums s)).map (Value.int .u8)) ∧ Onl O w w' := by
  have hel := enc_len s.size
  have hpos := hel.1
  have HC := hide (num_o v cur s.size w hown (by omega) (by omega) (by omega))
  clear hown
  go_enter Try.func27, Try.ntmps27
  go_wp2_with fail
  refine HC.out.mono ?_
  rintro e w1 ⟨v1, rfl, r1, o1⟩
  simp only [Int.toNat_natCast] at r1
  obtain ⟨v2, w2, RR, r2, o2⟩ := app_txt r1 (by rw [List.length_append]; omega) s (by rw [List.length_append]; omega)
  obtain ⟨s1, s2, s3⟩ := app_runs RR
  have HR2 : Hid (Row (Gro O w w2) w2 5 1 v2 (cur ++ (enc s.size ++ nums s)).length ((cur ++ (enc s.size ++ nums s)).map (Value.int .u8))) := by
    refine hide ?_
    rw [← List.append_assoc]
    refine r2.mono (fun i q => ?_)
    have z1 := o1.size
    have z2 := o2.size
    rcases q with (q | q) | q
    · exact .inl q
    · exact .inr (by omega)
    · exact .inr (by omega)
  have HO2 : Hid (Onl O w w2) := hide (o1.more o2 (fun i q => q.elim .inl (fun z => .inr z.1)))
  clear HC r1 o1 RR r2 o2
  go_wp2
  go_ret
  exact ⟨_, rfl, HR2.out, HO2.out⟩
end Go.Proofs.Ytgjhmpmjbedjoaa
