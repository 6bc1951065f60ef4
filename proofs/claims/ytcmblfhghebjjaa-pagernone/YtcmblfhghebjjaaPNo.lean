/- PagerNone's walk. Over the translation. -/
import Derived.Test.YtcmblfhghebjjaaPLw
namespace Go.Proofs.Ytcmblfhghebjjaa
open Go.RowKit Apo

set_option maxRecDepth 100000 in
set_option maxHeartbeats 4000000 in
theorem pnone_any (w : World) (a : Option Addr) (len cap : Nat) (hl : len ≤ maxLen) (s : Spn) (size : Int) :
    Calls Try.prog 4 #[.slice a len cap, .agg #[.int .i64 s.a, .int .i64 s.k], .int .i64 size] w fun e w' => e = .returned (.bool true) ∧ Below w.heap.size w w' := by
  unfold maxLen at hl
  have k0 := Ob.new w [.int .i64 s.a, .int .i64 s.k] 39
  have b0 := (Below.refl _ w).alloc (Nat.le_refl _) (.cells #[.int .i64 s.a, .int .i64 s.k] 39)
  have HK0 := hide k0
  have HB0 := hide b0
  clear k0 b0
  go_enter Try.func4, Try.ntmps4
  go_wp2_with fail
  refine (awake_any _).mono ?_
  rintro e w1 ⟨rfl, b1⟩
  have k1 := HK0.out.old b1
  have B1 := HB0.out.trans (b1.mono HB0.out.size)
  have HK1 := hide k1
  have HB1 := hide B1
  clear b1 k1 B1 HK0 HB0
  by_cases h300 : 300 < len
  · go_wp2
    go_ret
    exact ⟨rfl, HB1.out⟩
  · have h300' : len ≤ 300 := by omega
    go_wp2_with fail
    refine (npput _ a len cap).mono ?_
    rintro e w2 ⟨rfl, b2⟩
    have b2' := b2.alloc b2.size (.cells #[.int .i64 0, .int .i64 0] 39)
    have k2 := HK1.out.old b2'
    have x0 := k2.cell 0
    have x1 := k2.cell 1
    simp only [List.getElem?_cons_zero, List.getElem?_cons_succ] at x0 x1
    have HK2 := hide k2
    have HB2 := hide (HB1.out.trans (b2'.mono HB1.out.size))
    clear b2 b2' k2 HK1 HB1
    go_wp2_with fail
    refine (npget _ s.a s.k size).mono ?_
    rintro e w3 ⟨rfl, b3⟩
    have HK3 := hide (HK2.out.old b3)
    have HB3 := hide (HB2.out.trans (b3.mono HB2.out.size))
    clear b3 HK2 HB2 x0 x1
    go_wp2_with fail
    refine (nabort _).mono ?_
    rintro e w4 ⟨rfl, b4⟩
    have HK4 := hide (HK3.out.old b4)
    have HB4 := hide (HB3.out.trans (b4.mono HB3.out.size))
    clear b4 HK3 HB3
    go_wp2_with fail
    refine (npcommit _ a len cap).mono ?_
    rintro e w5 ⟨rfl, b5⟩
    have k5 := HK4.out.old b5
    have x0 := k5.cell 0
    have x1 := k5.cell 1
    simp only [List.getElem?_cons_zero, List.getElem?_cons_succ] at x0 x1
    have HK5 := hide k5
    have HB5 := hide (HB4.out.trans (b5.mono HB4.out.size))
    clear b5 k5 HK4 HB4
    go_wp2_with fail
    refine (npclaim _ s.a s.k).mono ?_
    rintro e w6 ⟨rfl, b6⟩
    have k6 := HK5.out.old b6
    have x0 := k6.cell 0
    have x1 := k6.cell 1
    simp only [List.getElem?_cons_zero, List.getElem?_cons_succ] at x0 x1
    have HB6 := hide (HB5.out.trans (b6.mono HB5.out.size))
    clear b6 k6 HK5 HB5
    go_wp2_with fail
    refine (npdrop _ s.a s.k).mono ?_
    rintro e w7 ⟨rfl, b7⟩
    have HB7 := hide (HB6.out.trans (b7.mono HB6.out.size))
    clear b7 HB6
    go_wp2_with fail
    refine (nfree _).mono ?_
    rintro e w8 ⟨rfl, b8⟩
    have HB8 := hide (HB7.out.trans (b8.mono HB7.out.size))
    clear b8 HB7
    go_wp2_with fail
    refine (nroot _).mono ?_
    rintro e w9 ⟨rfl, b9⟩
    have HB9 := hide (HB8.out.trans (b9.mono HB8.out.size))
    clear b9 HB8
    go_wp2_with fail
    refine (nepoch _).mono ?_
    rintro e w10 ⟨rfl, b10⟩
    have HB10 := hide (HB9.out.trans (b10.mono HB9.out.size))
    clear b10 HB9
    go_wp2
    go_ret
    exact ⟨rfl, HB10.out⟩
end Go.Proofs.Ytcmblfhghebjjaa
