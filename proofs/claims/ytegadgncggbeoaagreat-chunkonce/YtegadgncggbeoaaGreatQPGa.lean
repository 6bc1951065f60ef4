/- gather of the program's pager. Over the translation. -/
import Derived.Test.YtegadgncggbeoaaGreatQPNd
import Derived.Test.YtegadgncggbeoaaGreatQCRd
namespace Apo
open Go Go.RowKit

/-- n sectors from the sector a on -/
def gat (st : Sd) (a : Int) : Nat → List Int × Int
  | 0 => ([], 0)
  | k + 1 => if (gat st a k).2 = 0 then (if (st.told (a + k)).2 = 0 then ((gat st a k).1 ++ (st.told (a + k)).1, 0) else ([], (st.told (a + k)).2)) else gat st a k
theorem gat_stuck {st : Sd} {a : Int} {k : Nat} (h : (gat st a k).2 ≠ 0) : ∀ m, gat st a (k + m) = gat st a k
  | 0 => rfl
  | m + 1 => by
    have ih := gat_stuck h m
    show gat st a (k + m + 1) = _
    simp only [gat]
    rw [ih, if_neg h]
theorem gat_len {st : Sd} (ok : OkS st) (a : Int) : ∀ k, (gat st a k).2 = 0 → (gat st a k).1.length = 32 * k
  | 0 => by simp [gat]
  | k + 1 => by
    have ih := gat_len ok a k
    simp only [gat]
    split
    · next h0 =>
      split
      · next h1 =>
        intro _
        rw [List.length_append, ih h0, told_len ok h1]
        omega
      · next h1 => intro h; exact absurd h h1
    · next h0 => intro h; exact absurd h h0
theorem gat_byt {st : Sd} (ok : OkS st) (a : Int) : ∀ k, ∀ z ∈ (gat st a k).1, 0 ≤ z ∧ z ≤ 255
  | 0 => by simp [gat]
  | k + 1 => by
    have ih := gat_byt ok a k
    simp only [gat]
    split
    · split
      · intro z hz
        rcases List.mem_append.1 hz with hz | hz
        · exact ih z hz
        · exact told_byt ok _ z hz
      · simp
    · exact ih
theorem gat_no {st : Sd} {a : Int} {k : Nat} (h : (gat st a k).2 ≠ 0) : (gat st a k).1 = [] := by
  induction k with
  | zero => exact absurd rfl h
  | succ k ih =>
    simp only [gat] at h ⊢
    split
    · split
      · rename_i q1 q2
        rw [if_pos q1, if_pos q2] at h
        exact absurd rfl h
      · rfl
    · rename_i q
      exact ih q
end Apo
namespace Go.Proofs.YtegadgncggbeoaaGreat
open Go.RowKit Apo
attribute [local go_sem ↓] Apo.app_exec

theorem enter_read : ∀ args w, (callFunc 94 args).run Tryz.prog w = .ok (.enter 94 args) w := fun _ _ => by kernel_rfl
set_option maxRecDepth 100000 in
set_option maxHeartbeats 2000000 in
theorem cgather_any {O : Nat → Prop} {w : World} {p : Nat} {st : Sd} (h : CDev O w p st) (hc : st.C.length ≤ 1073741824) (a : Int) (ha1 : -1 ≤ a) (ha2 : a ≤ 1048576) (n : Nat) (hn : n ≤ 65536) :
    Calls Tryz.prog 122 #[.func (.func 94) #[.pointer (some ⟨p, 0, none⟩)] #[], .int .i64 a, .int .i64 n] w fun e w' => ∃ v, e = .returned (.tuple #[v, .int .i64 (gat st a n).2]) ∧ Told w' w.heap.size v (gat st a n).1 ∧ Below w.heap.size w w' := by
  obtain ⟨i0, hi0, hz0, hz1, hz2⟩ := info_parts info_u8
  have hgl := gat_len h.ok a
  have htl := fun x => told_len h.ok (a := x)
  have HD := hide h
  have HGL := hide hgl
  have HTL := hide htl
  have hE := enter_read
  clear h hgl htl
  go_enter Tryz.func122, Tryz.ntmps122
  go_wp2
  go_loopw [8, 13] (fun vo v wr => ∃ k L : Nat, k ≤ n ∧ v = .int .i64 k ∧ Hid (L = 32 * k) ∧ Hid ((gat st a k).2 = 0) ∧ (∃ a c, vo = .slice a L c) ∧ Hid (wr.ownsRow w.heap.size 5 1 vo L ((gat st a k).1.map (Value.int .u8))) ∧ Hid (Below w.heap.size w wr)) (fun _ v _ => n - (intOf v).toNat)
  case atStart => exact ⟨0, 0, Nat.zero_le _, rfl, hide rfl, hide rfl, ⟨none, 0, rfl⟩, hide (World.ownsRow_nil _ _ _ _), hide (Below.refl _ _)⟩
  case round =>
    obtain ⟨k, L, hk, rfl, HL, HZ, ⟨ap, cp, rfl⟩, HP, HB⟩ := hrel
    by_cases hkn : k < n
    · have hzl := HGL.out k HZ.out
      obtain ⟨A, hA⟩ : ∃ A, A = a + (k : Int) := ⟨_, rfl⟩
      have wA : IntKind.i64.wrap (a + (k : Int)) = A := by rw [IntKind.wrap_i64]; omega
      have C2 := cread_any (w := wr) (HD.out.onl (F := fun _ => False) (Onl.ofBelow HB.out) (fun _ _ q => q)) (by omega) A
      have esn : gat st a (k + 1) = if (st.told A).2 = 0 then ((gat st a k).1 ++ (st.told A).1, 0) else ([], (st.told A).2) := by simp only [gat]; rw [if_pos HZ.out, ← hA]
      have HC2 := hide C2
      have HE := hide esn
      have HZL := hide hzl
      clear C2 esn hzl hA
      go_wp2_with fail
      refine HC2.out.mono ?_
      rintro e w1 ⟨v1, rfl, t1, b1⟩
      obtain ⟨ER, hER⟩ : ∃ E, E = (st.told A).2 := ⟨_, rfl⟩
      rw [← hER]
      by_cases hq : ER = 0
      · have hq0 : (st.told A).2 = 0 := by rw [← hER]; exact hq
        have h32 := HTL.out A hq0
        rw [if_pos hq0] at HE
        unfold Told at t1
        rw [h32] at t1
        obtain ⟨a1, c1, hv1⟩ := own_len t1
        subst hv1
        have hrd := (rdown t1).1
        have hPw : w1.ownsRow w.heap.size 5 1 (.slice ap L cp) (gat st a k).1.length ((gat st a k).1.map (Value.int .u8)) := by rw [HZL.out, ← HL.out]; exact own_old8 HP.out b1
        obtain ⟨v4, w4, R4, r4, g4⟩ := run_append_rd (P := Tryz.prog) (w := w1) w.heap.size 34 34 5 i0 _ 1 Tryz.underlying34 hi0 hz0 hz1 hz2 rfl .u8 (.slice ap L cp) (gat st a k).1 hPw a1 c1 (st.told A).1 hrd (fun e => by subst e; exact own_cap0 t1) (by unfold maxLen; rw [h32, HZL.out]; omega) (by rw [h32, HZL.out]; omega) (by have := HB.out.size; have := b1.size; omega)
        rw [h32] at R4
        obtain ⟨L2, hL2⟩ : ∃ L2, L2 = 32 * (k + 1) := ⟨_, rfl⟩
        have hl4 : ((gat st a k).1 ++ (st.told A).1).length = L2 := by rw [List.length_append, h32, HZL.out, hL2]; omega
        rw [hl4] at r4
        obtain ⟨a4, c4, hv4⟩ := own_len r4
        subst hv4
        have b4 : Below w.heap.size w w4 := (HB.out.trans (b1.mono HB.out.size)).grown g4 (by have := HB.out.size; have := b1.size; omega) (fun q hq => (HP.out.lt q hq).1)
        obtain ⟨s1, s2, s3⟩ := app_runs R4
        have HR4 := hide r4
        have HB4 := hide b4
        have HL2 := hide hL2
        subst hq
        clear R4 r4 b4 g4 hPw hrd t1 b1 hL2 hl4 h32 hER hq0
        go_wp2
        go_roundw
        case rel => exact ⟨k + 1, L2, by omega, by simp, HL2, hide (by rw [HE.out]), ⟨a4, c4, rfl⟩, hide (by rw [HE.out]; exact HR4.out), HB4⟩
        case measure => simp [intOf]; omega
      · have hq0 : (st.told A).2 ≠ 0 := by rw [← hER]; exact hq
        rw [if_neg hq0, ← hER] at HE
        have efin : gat st a n = ([], ER) := by
          have hs1 : (gat st a (k + 1)).2 ≠ 0 := by rw [HE.out]; exact hq
          have e4 := gat_stuck hs1 (n - (k + 1))
          rw [show k + 1 + (n - (k + 1)) = n by omega, HE.out] at e4
          exact e4
        have HEF := hide efin
        have hqb : (ER == 0) = false := by simpa using hq
        have HB4 := hide (HB.out.trans (b1.mono HB.out.size))
        obtain ⟨a1, c1, hv1⟩ := own_len t1
        subst hv1
        clear efin t1 b1 hER hq0
        go_wp2
        refine bodyPost_ret (by simp [results, Tryz.results122, go_sem]; rfl) rfl ?_
        rw [HEF.out]
        exact ⟨.slice none 0 0, rfl, World.ownsRow_nil _ _ _ _, HB4.out⟩
    · obtain rfl : k = n := by omega
      go_wp2
      refine bodyPost_ret (by simp [results, Tryz.results122, go_sem]; rfl) rfl ?_
      rw [HZ.out]
      refine ⟨.slice ap L cp, rfl, ?_, HB.out⟩
      have := HP.out
      unfold Told
      rw [HGL.out k HZ.out, ← HL.out]
      exact this
end Go.Proofs.YtegadgncggbeoaaGreat
