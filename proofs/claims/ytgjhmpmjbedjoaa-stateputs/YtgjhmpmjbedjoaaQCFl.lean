/- The document's Flag; pack.Writer's Flag. Over the translation. -/
import Derived.Test.YtgjhmpmjbedjoaaQCNt
import Derived.Test.YtgjhmpmjbedjoaaQCBy
namespace Go.Proofs.Ytgjhmpmjbedjoaa
open Go.RowKit Apo
set_option maxRecDepth 100000 in
set_option maxHeartbeats 1000000 in
theorem wflag_o {O : Nat → Prop} (p : Nat) (cur : List Int) (b : Bool) (w : World) (hw : Wro O w p cur) (hc : cur.length ≤ 1099511627776) :
    Calls Try.prog 24 #[.pointer (some ⟨p, 0, none⟩), .bool b] w fun e w' => e = .returned (.tuple #[]) ∧ Wro (Gro O w w') w' p (cur ++ flB b) ∧ Onl O w w' := by
  cases b with
  | true =>
    have HC := hide (wnum_one_o p cur 1 w _ rfl hw (by omega) (by omega) hc)
    clear hw
    go_enter Try.func24, Try.ntmps24
    go_wp2_with fail
    refine HC.out.mono ?_
    rintro e w1 ⟨rfl, o1, f1⟩
    have HO := hide o1
    have HF := hide f1
    clear HC o1 f1
    go_wp2
    go_end0
    exact ⟨rfl, by rw [flB_enc]; exact HO.out, HF.out⟩
  | false =>
    have HC := hide (wnum_one_o p cur 0 w _ rfl hw (by omega) (by omega) hc)
    clear hw
    go_enter Try.func24, Try.ntmps24
    go_wp2_with fail
    refine HC.out.mono ?_
    rintro e w1 ⟨rfl, o1, f1⟩
    have HO := hide o1
    have HF := hide f1
    clear HC o1 f1
    go_wp2
    go_end0
    exact ⟨rfl, by rw [flB_enc]; exact HO.out, HF.out⟩
attribute [local go_sem ↓] Apo.app_exec
set_option maxHeartbeats 2000000 in
set_option maxRecDepth 100000 in
theorem flag_o {O : Nat → Prop} (v : Value) (cur : List Int) (b : Bool) (w : World) (hown : Row O w 5 1 v cur.length (cur.map (Value.int .u8))) (hl : cur.length ≤ 1099511627776) :
    Calls Try.prog 29 #[v, .bool b] w fun e w' => ∃ v', e = .returned v' ∧ Row (Gro O w w') w' 5 1 v' (cur ++ flB b).length ((cur ++ flB b).map (Value.int .u8)) ∧ Onl O w w' := by
  obtain ⟨i0, hi, hz0, hz1, hz2⟩ := info_parts infoU8
  obtain ⟨z, hz⟩ : ∃ z : Int, flB b = [z] := by cases b; exact ⟨0, rfl⟩; exact ⟨1, rfl⟩
  have bA := (Below.refl w.heap.size w).alloc (Nat.le_refl _) (.cells #[.int .u8 z] 5)
  obtain ⟨v3, w3, RR, r3, g3, _, hl3⟩ := run_append_own_at (P := Try.prog) (w.alloc (.cells #[.int .u8 z] 5)) 0 30 30 5 i0 _ 1 1 Try.underlying30 hi hz0 hz1 hz2 rfl (by decide) _ cur.length (cur.map (Value.int .u8)) (hown.1.alloc _) ⟨w.heap.size, 0, none⟩ 1 1 [.int .u8 z] rfl (cell_one_new _ _ _) (by simp; rfl) (by unfold maxLen; omega) (by omega) (Nat.zero_le _)
  obtain ⟨s1, s2, s3⟩ := app_runs RR
  obtain ⟨rr, oo⟩ := row_grown (hown.mono (fun i q => Or.inl q)) (Onl.refl _ _) bA r3 g3 hl3
  have HRR : Hid (Row (Gro O w w3) w3 5 1 v3 (cur ++ flB b).length ((cur ++ flB b).map (Value.int .u8))) := by
    refine hide ?_
    rw [hz]
    simpa using rr
  have HOO := hide oo
  have HZ := hide hz
  clear r3 g3 RR rr oo hl3 bA hown hz
  cases b with
  | true =>
    obtain rfl : z = 1 := by have := HZ.out; simp [flB] at this; omega
    go_enter Try.func29, Try.ntmps29
    go_wp2
    go_ret
    exact ⟨_, rfl, HRR.out, HOO.out⟩
  | false =>
    obtain rfl : z = 0 := by have := HZ.out; simp [flB] at this; omega
    go_enter Try.func29, Try.ntmps29
    go_wp2
    go_ret
    exact ⟨_, rfl, HRR.out, HOO.out⟩
end Go.Proofs.Ytgjhmpmjbedjoaa
