/- The walk of apographlaw02.PackNone: it answers true, over the translation. -/
import Derived.Test.YtilklonjacjgbaaAwk
import Derived.Test.YtilklonjacjgbaaNil
namespace Go.Proofs.Ytilklonjacjgbaa
open Go.RowKit Apo

set_option maxHeartbeats 1000000 in
theorem none_any (n : Int) (s : ByteArray) (w : World) (hs : s.size ≤ 9223372036854775807) :
    Calls Try.prog 6 #[.int .u64 n, .string s] w fun e w' => e = .returned (.bool true) ∧ Below w.heap.size w w' := by
  by_cases hbig : s.size ≤ 200
  · go_enter Try.func6, Try.ntmps6
    go_wp2_with (first
      | (go_at_call 7; refine (awake_any _).mono ?_; rintro e w1 ⟨rfl, hb1⟩)
      | (go_at_call 25; refine (wnum_nil _ _).mono ?_; rintro e w2 ⟨rfl, rfl⟩)
      | (go_at_call 26; refine (wtext_nil _ _).mono ?_; rintro e w3 ⟨rfl, rfl⟩)
      | (go_at_call 27; refine (wflag_nil _).mono ?_; rintro e w4 ⟨rfl, hb4⟩; have hb5 : Below w.heap.size w w4 := (hb1.alloc hb1.size _).trans (hb4.mono (by have := hb1.size; simp; omega)); clear hb4)
      | (go_at_call 28; refine (wbytes_nil _).mono ?_; rintro e w5 ⟨rfl, rfl⟩)
      | (go_at_call 16; refine (rnum_nil _ _).mono ?_; rintro e w6 ⟨rfl, rfl⟩)
      | (go_at_call 18; refine (rtext_nil _ _).mono ?_; rintro e w7 ⟨rfl, rfl⟩)
      | (go_at_call 20; refine (rflag_nil _).mono ?_; rintro e w8 ⟨rfl, rfl⟩)
      | (go_at_call 22; refine (rleft_nil _).mono ?_; rintro e w9 ⟨rfl, rfl⟩)
      | (go_at_call 23; refine (rdone_nil _).mono ?_; rintro e w10 ⟨rfl, rfl⟩))
    go_ret
    exact ⟨rfl, hb5⟩
  · go_enter Try.func6, Try.ntmps6
    go_wp2_with (go_at_call 7; refine (awake_any _).mono ?_; rintro e w1 ⟨rfl, hb1⟩)
    go_ret
    exact ⟨rfl, hb1⟩
end Go.Proofs.Ytilklonjacjgbaa
