/- What the statement LebOf answers, over the translation. -/
import Derived.Test.YtacdjaibmbjldaaLebs
namespace Go.Proofs.Ytacdjaibmbjldaa
open Go.RowKit Apo

/-- the two readers of one number answer alike -/
theorem of_leb (a : Option Addr) (cap : Nat) (l : List Int) (hcap : l.length ≤ cap) (hl : l.length ≤ 1099511627776) (hb : InB l) :
    ∃ N S E : Int, (∀ w, Rd .u8 w a l → Calls Try.prog 13 #[.slice a l.length cap] w fun e w' => e = .returned (.tuple #[.int .u64 N, .int .i64 S, .int .i64 E]) ∧ w = w') ∧
      (∀ w, Rd .u8 w a l → Calls Try.prog 14 #[.slice a l.length cap] w fun e w' => e = .returned (.tuple #[.int .u64 N, .int .i64 S, .int .i64 E]) ∧ Below w.heap.size w w') := by
  by_cases hyes : ∃ n r, n < top ∧ l = enc n ++ r
  · obtain ⟨n, r, hn, he⟩ := hyes
    exact ⟨_, _, _, fun w hr => of_yes a cap l n r w hr hn he, fun w hr => leb_yes a cap l n r w hr hcap hn he⟩
  · have hnn : NoNum l := fun n r hn e => hyes ⟨n, r, hn, e⟩
    exact ⟨_, _, _, fun w hr => of_no a cap l w hr hl hb hnn, fun w hr => leb_no a cap l w hr hcap hl hb hnn⟩

/-- the two readers of all numbers answer alike -/
theorem all_lebs (a : Option Addr) (cap : Nat) (l : List Int) (hcap : l.length ≤ cap) (hl : l.length ≤ 1099511627776) (hcm : cap ≤ 9223372036854775807) (hb : InB l) :
    ∃ (ns : List Int) (E : Int), ns.length ≤ l.length ∧ (∀ w, Rd .u8 w a l → Calls Try.prog 15 #[.slice a l.length cap] w fun e w' => ∃ a2 c2, e = .returned (.tuple #[.slice a2 ns.length c2, .int .i64 E]) ∧ Rd .u64 w' a2 ns ∧ Below w.heap.size w w') ∧
      (∀ w, Rd .u8 w a l → Calls Try.prog 16 #[.slice a l.length cap] w fun e w' => ∃ a2 c2, e = .returned (.tuple #[.slice a2 ns.length c2, .int .i64 E]) ∧ Rd .u64 w' a2 ns ∧ Below w.heap.size w w') := by
  have key : ∀ {w w' : World} {v : Value} {ns : List Int}, w'.ownsRow w.heap.size 24 1 v ns.length (ns.map (Value.int .u64)) → ∃ a2 c2, v = .slice a2 ns.length c2 ∧ Rd .u64 w' a2 ns := by
    intro w w' v ns h
    obtain ⟨a2, c2, hv⟩ : ∃ a cap, v = .slice a ns.length cap := by
      rcases h.2 with ⟨rfl, hz⟩ | ⟨g, cap, cur, rfl, _⟩
      · exact ⟨none, 0, by rw [hz]⟩
      · exact ⟨_, cap, rfl⟩
    subst hv
    exact ⟨a2, c2, rfl, (Rd.own h).1⟩
  by_cases hyes : ∃ ns, InU ns ∧ l = encs ns
  · obtain ⟨ns, hu, he⟩ := hyes
    refine ⟨ns, 0, by have := encs_len ns; rw [he]; omega, fun w hr => ?_, fun w hr => ?_⟩
    · refine (all_yes a cap l ns w hr hcap hl hu he).mono ?_
      rintro e w' ⟨v, rfl, hown, hb2⟩
      obtain ⟨a2, c2, rfl, hrd⟩ := key hown
      exact ⟨a2, c2, rfl, hrd, hb2⟩
    · refine (lebs_yes a cap l ns w hr hcap hl hcm hu he).mono ?_
      rintro e w' ⟨v, rfl, hown, hb2⟩
      obtain ⟨a2, c2, rfl, hrd⟩ := key hown
      exact ⟨a2, c2, rfl, hrd, hb2⟩
  · have hnn : NoNums l := fun ns hu e => hyes ⟨ns, hu, e⟩
    refine ⟨[], 20, Nat.zero_le _, fun w hr => ?_, fun w hr => ?_⟩
    · refine (all_no a cap l w hr hcap hl hb hnn).mono ?_
      rintro e w' ⟨rfl, hb2⟩
      exact ⟨none, 0, rfl, Rd.nil _ _ _, hb2⟩
    · refine (lebs_no a cap l w hr hcap hl hcm hb hnn).mono ?_
      rintro e w' ⟨rfl, hb2⟩
      exact ⟨none, 0, rfl, Rd.nil _ _ _, hb2⟩

set_option maxHeartbeats 1000000 in
theorem ofLaw (a : Option Addr) (cap : Nat) (l : List Int) (w : World) (hr : Rd .u8 w a l) (hcap : l.length ≤ cap) (hcm : cap ≤ 9223372036854775807) (hb : InB l) :
    Calls Try.prog 4 #[.slice a l.length cap] w fun e w' => e = .returned (.bool true) ∧ Below w.heap.size w w' := by
  have HR := hide hr
  have HB := hide hb
  clear hr hb
  by_cases hbig : 300 < l.length
  · go_enter Try.func4, Try.ntmps4
    go_wp2_with fail
    refine (awake_any _).mono ?_
    rintro e w1 ⟨rfl, hb1⟩
    go_wp2
    go_ret
    exact ⟨rfl, hb1⟩
  · obtain ⟨N, S, E, c13, c14⟩ := of_leb a cap l hcap (by omega) HB.out
    obtain ⟨ns, F, hnl, c15, c16⟩ := all_lebs a cap l hcap (by omega) hcm HB.out
    have C13 := hide c13
    have C14 := hide c14
    have C15 := hide c15
    have C16 := hide c16
    clear c13 c14 c15 c16
    go_enter Try.func4, Try.ntmps4
    go_wp2_with fail
    refine (awake_any _).mono ?_
    rintro e w1 ⟨rfl, hb1⟩
    go_wp2_with fail
    refine (C13.out _ (HR.out.below hb1)).mono ?_
    rintro e w2 ⟨rfl, rfl⟩
    go_wp2_with fail
    refine (C14.out _ (HR.out.below hb1)).mono ?_
    rintro e w2 ⟨rfl, hb2⟩
    have hb12 := hb1.trans (hb2.mono hb1.size)
    clear hb2
    go_wp2_with fail
    refine (C15.out _ (HR.out.below hb12)).mono ?_
    rintro e w3 ⟨a3, c3, rfl, hrd3, hb3⟩
    have hb13 := hb12.trans (hb3.mono hb12.size)
    have HR3 := hide hrd3
    clear hb3 hrd3
    go_wp2_with fail
    refine (C16.out _ (HR.out.below hb13)).mono ?_
    rintro e w4 ⟨a4, c4, rfl, hrd4, hb4⟩
    have HR34 := hide (HR3.out.below hb4)
    have hb14 := hb13.trans (hb4.mono hb13.size)
    have HR4 := hide hrd4
    clear hb4 hrd4
    go_wp2_with fail
    refine (same_yes a3 a4 c3 c4 ns w4 HR34.out HR4.out (by omega)).mono ?_
    rintro e w5 ⟨rfl, hb5⟩
    have hb15 := hb14.trans (hb5.mono hb14.size)
    go_wp2
    go_ret
    exact ⟨rfl, hb15⟩
end Go.Proofs.Ytacdjaibmbjldaa
