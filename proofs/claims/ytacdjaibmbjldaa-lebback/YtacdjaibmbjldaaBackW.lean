/- What the statement LebBack answers, over the translation. -/
import Derived.Test.YtacdjaibmbjldaaLebs
namespace Go.Proofs.Ytacdjaibmbjldaa
open Go.RowKit Apo
attribute [local go_sem ↓] Go.wp_at_zero Go.wp_at_succ

theorem own_form {w : World} {base e : Nat} {v : Value} {n : Nat} {xs : List Value} (h : w.ownsRow base e 1 v n xs) :
    ∃ a cap, v = .slice a n cap ∧ n ≤ cap ∧ (a = none → cap = 0) := by
  rcases h.2 with ⟨rfl, hz⟩ | ⟨g, cap, cur, rfl, _, _, hnc, _⟩
  · exact ⟨none, 0, by rw [hz], by omega, fun _ => rfl⟩
  · exact ⟨_, cap, rfl, hnc, by simp⟩

/-- All of what Put lays: the numbers again -/
theorem put_all (a : Option Addr) (cap : Nat) (l : List Int) (w : World) (hr : Rd .u64 w a l) (hu : InU l) (hl : l.length ≤ 1000) :
    Calls Try.prog 9 #[.slice none 0 0, .slice a l.length cap] w fun e w' => ∃ a2 c2, e = .returned (.slice a2 (encs l).length c2) ∧ Rd .u8 w' a2 (encs l) ∧ (encs l).length ≤ c2 ∧ Below w.heap.size w w' := by
  refine (put_any none 0 [] a cap l w (Rd.nil _ _ _) (fun _ => rfl) hr hu (by decide) (by omega)).mono ?_
  rintro e w' ⟨v, rfl, hown, hb⟩
  rw [List.nil_append] at hown
  obtain ⟨a2, c2, rfl, hc, _⟩ := own_form hown
  exact ⟨a2, c2, rfl, (Rd.own hown).1, hc, hb⟩

theorem all_back (a : Option Addr) (cap : Nat) (l ns : List Int) (w : World) (hr : Rd .u8 w a l) (hcap : l.length ≤ cap) (hl : l.length ≤ 1099511627776) (hu : InU ns) (he : l = encs ns) :
    Calls Try.prog 15 #[.slice a l.length cap] w fun e w' => ∃ a2 c2, e = .returned (.tuple #[.slice a2 ns.length c2, .int .i64 0]) ∧ Rd .u64 w' a2 ns ∧ Below w.heap.size w w' := by
  refine (all_yes a cap l ns w hr hcap hl hu he).mono ?_
  rintro e w' ⟨v, rfl, hown, hb⟩
  obtain ⟨a2, c2, rfl, _, _⟩ := own_form hown
  exact ⟨a2, c2, rfl, (Rd.own hown).1, hb⟩

set_option maxHeartbeats 1000000 in
theorem backLaw (a : Option Addr) (cap : Nat) (l : List Int) (a0 : Option Addr) (cap0 : Nat) (l0 : List Int) (w : World) (hr : Rd .u64 w a l) (hu : InU l) (hr0 : Rd .u8 w a0 l0) (hcap0 : l0.length ≤ cap0) (hb0 : InB l0) :
    Calls Try.prog 5 #[.slice a l.length cap, .slice a0 l0.length cap0] w fun e w' => e = .returned (.bool true) ∧ Below w.heap.size w w' := by
  have HR := hide hr
  have HR0 := hide hr0
  have HB := hide hb0
  clear hr hr0 hb0
  by_cases hbig : 300 < l0.length
  · go_enter Try.func5, Try.ntmps5
    go_wp2_with fail
    refine (awake_any _).mono ?_
    rintro e w1 ⟨rfl, hb⟩
    go_wp2
    go_ret
    exact ⟨rfl, hb⟩
  · have hd : decide ((300 : Int) < (l0.length : Int)) = false := by simp; omega
    by_cases hbig2 : 30 < l.length
    · go_enter Try.func5, Try.ntmps5
      go_wp2_with fail
      refine (awake_any _).mono ?_
      rintro e w1 ⟨rfl, hb⟩
      go_wp2
      go_ret
      exact ⟨rfl, hb⟩
    · have hd2 : decide ((30 : Int) < (l.length : Int)) = false := by simp; omega
      have hel := encs_len l
      by_cases hyes : ∃ ns, InU ns ∧ l0 = encs ns
      · obtain ⟨ns, hun, he⟩ := hyes
        have hnl := encs_len ns
        have hnl2 : ns.length ≤ l0.length := by rw [he]; omega
        have HE := hide he
        clear he hnl
        go_enter Try.func5, Try.ntmps5
        go_wp2_with fail
        refine (awake_any _).mono ?_
        rintro e w1 ⟨rfl, hb⟩
        go_wp2_with fail
        refine (put_all a cap l w1 (HR.out.below hb) hu (by omega)).mono ?_
        rintro e w2 ⟨a2, c2, rfl, hrd2, hc2, hb2⟩
        have hb12 := hb.trans (hb2.mono hb.size)
        clear hb2
        go_wp2_with fail
        refine (all_back a2 c2 (encs l) l w2 hrd2 hc2 (by omega) hu rfl).mono ?_
        rintro e w3 ⟨a3, c3, rfl, hrd3, hb3⟩
        have hb13 := hb12.trans (hb3.mono hb12.size)
        have HR3 := hide hrd3
        clear hb3 hrd2 hrd3
        go_wp2_with fail
        refine (same_yes a3 a c3 cap l w3 HR3.out (HR.out.below hb13) (by omega)).mono ?_
        rintro e w4 ⟨rfl, hb4⟩
        have hb14 := hb13.trans (hb4.mono hb13.size)
        clear hb4 hb13 hb12
        go_wp2_with fail
        refine (all_back a0 cap0 l0 ns w4 (HR0.out.below hb14) hcap0 (by omega) hun HE.out).mono ?_
        rintro e w5 ⟨a5, c5, rfl, hrd5, hb5⟩
        have hb15 := hb14.trans (hb5.mono hb14.size)
        have HR5 := hide hrd5
        clear hb5 hb14 hrd5 HR3
        go_wp2_with fail
        have hbd : Below w.heap.size w w5.drew := hb15.drew
        have cb : ∀ wx, Below w.heap.size w wx → (convert 22 9 (.slice a0 l0.length cap0)).run Try.prog wx = .ok (.string (strOfNums l0)) wx := fun wx hb => (HR0.out.below hb).conv 22 5 9 Try.underlying22 Try.underlying5 Try.underlying9 cap0
        go_region_law (go_simp; first
          | (go_at_call 9; refine (put_any none 0 [] a5 c5 ns w5.drew (Rd.nil _ _ _) (fun _ => rfl) (HR5.out.below (Below.refl _ _).drew) hun (by decide) (by omega)).mono ?_; rintro e w6 ⟨v6, rfl, hown6, hb6⟩; have cv6 := conv_own hown6; rw [List.nil_append, ← HE.out] at cv6; have hb66 := Below.refl w6.heap.size w6; have hbw6 : Below w.heap.size w w6 := hbd.trans (hb6.mono hbd.size); clear hown6 hb6))
        all_goals
          go_wp2
          go_ret
          exact ⟨rfl, by assumption⟩
      · have hnn : NoNums l0 := fun ns hu e => hyes ⟨ns, hu, e⟩
        have HN := hide hnn
        clear hnn hyes
        go_enter Try.func5, Try.ntmps5
        go_wp2_with fail
        refine (awake_any _).mono ?_
        rintro e w1 ⟨rfl, hb⟩
        go_wp2_with fail
        refine (put_all a cap l w1 (HR.out.below hb) hu (by omega)).mono ?_
        rintro e w2 ⟨a2, c2, rfl, hrd2, hc2, hb2⟩
        have hb12 := hb.trans (hb2.mono hb.size)
        clear hb2
        go_wp2_with fail
        refine (all_back a2 c2 (encs l) l w2 hrd2 hc2 (by omega) hu rfl).mono ?_
        rintro e w3 ⟨a3, c3, rfl, hrd3, hb3⟩
        have hb13 := hb12.trans (hb3.mono hb12.size)
        have HR3 := hide hrd3
        clear hb3 hrd2 hrd3
        go_wp2_with fail
        refine (same_yes a3 a c3 cap l w3 HR3.out (HR.out.below hb13) (by omega)).mono ?_
        rintro e w4 ⟨rfl, hb4⟩
        have hb14 := hb13.trans (hb4.mono hb13.size)
        clear hb4 hb13 hb12
        go_wp2_with fail
        refine (all_no a0 cap0 l0 w4 (HR0.out.below hb14) hcap0 (by omega) HB.out HN.out).mono ?_
        rintro e w5 ⟨rfl, hb5⟩
        have hb15 := hb14.trans (hb5.mono hb14.size)
        clear hb5 hb14 HR3
        go_wp2_with fail
        go_quiet (fail)
        go_wp2
        go_ret
        exact ⟨rfl, below_drewN hb15 _⟩
end Go.Proofs.Ytacdjaibmbjldaa
