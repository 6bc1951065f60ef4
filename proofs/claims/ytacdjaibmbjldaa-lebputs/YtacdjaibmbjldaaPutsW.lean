/- What the statement LebPuts answers, over the translation. -/
import Derived.Test.YtacdjaibmbjldaaNum
import Derived.Test.YtacdjaibmbjldaaStr
import Derived.Deep.RegionLaw
namespace Go.Proofs.Ytacdjaibmbjldaa
open Go.RowKit Apo
attribute [local go_sem ↓] Go.wp_at_zero Go.wp_at_succ

theorem conv_own {w : World} {base : Nat} {v : Value} {n : Nat} {l : List Int} (h : w.ownsRow base 5 1 v n (l.map (Value.int .u8))) :
    ∀ wx, Below w.heap.size w wx → (convert 22 9 v).run Try.prog wx = .ok (.string (strOfNums l)) wx := by
  intro wx hb
  obtain ⟨a, cap, hv⟩ : ∃ a cap, v = .slice a n cap := by
    rcases h.2 with ⟨rfl, hz⟩ | ⟨g, cap, cur, rfl, _⟩
    · exact ⟨none, 0, by rw [hz]⟩
    · exact ⟨_, cap, rfl⟩
  subst hv
  obtain ⟨hr, hl, _⟩ := Rd.own h
  rw [hl]
  exact (hr.below hb).conv 22 5 9 Try.underlying22 Try.underlying5 Try.underlying9 cap

theorem own_len' {w : World} {base e : Nat} {v : Value} {n : Nat} {xs : List Value} (h : w.ownsRow base e 1 v n xs) :
    ∃ a cap, v = .slice a n cap := by
  rcases h.2 with ⟨rfl, hz⟩ | ⟨g, cap, cur, rfl, _⟩
  · exact ⟨none, 0, by rw [hz]⟩
  · exact ⟨_, cap, rfl⟩

set_option maxHeartbeats 1000000 in
theorem putsLaw (a0 : Option Addr) (cap0 : Nat) (l0 : List Int) (a : Option Addr) (cap : Nat) (l : List Int) (n : Int) (w : World) (hr0 : Rd .u8 w a0 l0) (hn0 : a0 = none → cap0 = 0) (hr : Rd .u64 w a l) (hu : InU l)
    (h0 : 0 ≤ n) (h1 : n ≤ 18446744073709551615) :
    Calls Try.prog 3 #[.slice a0 l0.length cap0, .slice a l.length cap, .int .u64 n] w fun e w' => e = .returned (.bool true) ∧ Below w.heap.size w w' := by
  obtain ⟨i0, hi, hz0, hz1, hz2⟩ := info_parts Try.info5
  have hR : Hid (Rd .u64 w a l) := hr
  have hR0 : Hid (Rd .u8 w a0 l0) := hr0
  have hN0 : Hid (a0 = none → cap0 = 0) := hn0
  clear hr hr0 hn0
  by_cases hbig : 100 < l0.length
  · go_enter Try.func3, Try.ntmps3
    go_wp2_with fail
    refine (awake_any _).mono ?_
    rintro e w1 ⟨rfl, hb⟩
    go_wp2
    go_ret
    exact ⟨rfl, hb⟩
  · have hd : decide ((100 : Int) < (l0.length : Int)) = false := by simp; omega
    by_cases hbig2 : 30 < l.length
    · go_enter Try.func3, Try.ntmps3
      go_wp2_with fail
      refine (awake_any _).mono ?_
      rintro e w1 ⟨rfl, hb⟩
      go_wp2
      go_ret
      exact ⟨rfl, hb⟩
    · go_enter Try.func3, Try.ntmps3
      go_wp2_with fail
      refine (awake_any _).mono ?_
      rintro e w1 ⟨rfl, hb⟩
      go_wp2
      have hbd : Below w.heap.size w w1.drew := hb.drew
      have hnil : ∀ b wx, World.ownsRow wx b 5 1 (.slice none 0 0) ([] : List Int).length (([] : List Int).map (Value.int .u8)) := fun b wx => World.ownsRow_nil wx b 5 1
      go_region_law (first
        | (refine step_append_new (by rfl) _ _ 22 (by rfl) 5 i0 (.int .u8 0) 1 Try.underlying22 hi hz0 hz1 hz2 rfl .u8 a0 cap0 l0 (by rfl) (by rfl) (hR0.out.below hbw2) hN0.out (by unfold maxLen; omega) (by omega) ?_; intro v3 w3 hown3 hgrow3; have hb23 : Below w2.heap.size w2 w3 := (Below.refl _ _).grown hgrow3 (Nat.le_refl _) (fun k hk => by cases hk))
        | (go_simp; first
          | (go_at_call 9; refine (put_any _ _ _ _ _ _ w1.drew (hR0.out.below hbd) hN0.out (hR.out.below hbd) hu (by omega) (by omega)).mono ?_; rintro e w2 ⟨v2, rfl, hown2, hb2⟩; have cv2 := conv_own hown2; have hb22 := Below.refl w2.heap.size w2; have hbw2 : Below w.heap.size w w2 := hbd.trans (hb2.mono hbd.size); clear hown2 hb2)
          | (go_at_call 10; refine (all_any w2.heap.size _ l0 _ _ l w w3 hown3 hb23.size hR.out (hbw2.trans (hb23.mono hbw2.size)) hbw2.size hu (by omega) (by omega)).mono ?_; rintro e w4 ⟨v4, rfl, hown4, hb34⟩; have cv4 := conv_own hown4; have hb44 := Below.refl w4.heap.size w4; have hb24 : Below w2.heap.size w2 w4 := hb23.trans hb34; have hbw4 : Below w.heap.size w w4 := hbw2.trans (hb24.mono hbw2.size); clear hown4 hb34)
          | (go_at_call 11; refine (size_any n _ h0 h1).mono ?_; rintro e w5 ⟨rfl, rfl⟩)
          | (go_at_call 12; refine (num_any w4.heap.size _ [] n w4 (hnil _ _) (Nat.le_refl _) (by decide) h0 h1).mono ?_; rintro e w5 ⟨v5, rfl, hown5, hb45⟩; obtain ⟨a5, c5, hv5⟩ := own_len' hown5; rw [List.nil_append] at hv5; rw [hv5]; have hbw5 : Below w.heap.size w w5 := hbw4.trans (hb45.mono hbw4.size); clear hown5 hb45)))
      all_goals
        go_wp2
        go_ret
        exact ⟨rfl, by assumption⟩
end Go.Proofs.Ytacdjaibmbjldaa
