/- What bytes.Clone answers, over the translation. -/
import Derived.Test.YtdpbkmbegjcgjaaRFl
import Derived.Test.YtdpbkmbegjcgjaaLit
import Derived.Test.YtdpbkmbegjcgjaaApn
import Derived.Test.YtdpbkmbegjcgjaaObj
namespace Go.Proofs.Ytdpbkmbegjcgjaa
open Go.RowKit Apo

set_option maxHeartbeats 1000000 in
theorem clone_any (a : Option Addr) (cap : Nat) (l : List Int) (w : World) (hr : Rd .u8 w a l) (hn : a = none → cap = 0) (hl : l.length ≤ 1099511627776) :
    Calls Try.prog 26 #[.slice a l.length cap] w fun e w' => ∃ v, e = .returned v ∧ w'.ownsRow w.heap.size 5 1 v l.length (l.map (Value.int .u8)) ∧ Below w.heap.size w w' := by
  obtain ⟨i0, hi, hz0, hz1, hz2⟩ := info_parts info_u8
  cases a with
  | none =>
    have h0 : l = [] := by
      rcases Nat.eq_zero_or_pos l.length with h | h
      · exact List.eq_nil_of_length_eq_zero h
      · obtain ⟨_, _, h', _⟩ := hr 0 h; cases h'
    subst h0
    have hc := hn rfl
    subst hc
    clear hr hn
    have hq := fun wx => Lib.run_eql_slice_nil (P := Try.prog) wx 26 5 none 0 0 0 0 Try.underlying26
    go_enter Try.func26, Try.ntmps26
    go_wp2
    go_ret
    exact ⟨_, rfl, World.ownsRow_nil _ _ _ _, Below.refl _ _⟩
  | some x =>
    have hR := hide hr
    have hb : Below w.heap.size w (w.alloc (.cells #[] 5)) := (Below.refl _ _).alloc (Nat.le_refl _) _
    have HL : Hid ((w.alloc (.cells #[] 5)).ownsRow w.heap.size 5 1 (.slice (some ⟨w.heap.size, 0, none⟩) 0 0) 0 []) := World.ownsRow_lit w #[] 0 (Nat.le_refl _) (by decide) rfl
    clear hr hn
    have hq := fun wx => Lib.run_eql_slice_nil (P := Try.prog) wx 26 5 (some x) l.length cap 0 0 Try.underlying26
    go_enter Try.func26, Try.ntmps26
    go_wp2_with (at_builtin; refine wpList_append_own _ rfl _ _ 26 rfl w.heap.size 5 i0 (.int .u8 0) 1 1 Try.underlying26 hi hz0 hz1 hz2 rfl (by decide) _ 0 [] rfl HL.out x l.length cap (l.map (Value.int .u8)) rfl (by simp) (hR.out.below hb).news (ints_oneCell _ _) (by unfold maxLen; omega) (by omega) (by simp) ?_)
    intro v2 w2 hown2 hgrow2 _
    have O2 : Hid (w2.ownsRow w.heap.size 5 1 v2 l.length (l.map (Value.int .u8))) := by
      show World.ownsRow _ _ _ _ _ _ _
      simpa using hown2
    have B2 := hide (hb.grown hgrow2 (by simp) (fun q hq => (HL.out.lt q hq).1))
    clear hown2 hgrow2
    go_wp2
    go_ret
    exact ⟨_, rfl, O2, B2⟩
end Go.Proofs.Ytdpbkmbegjcgjaa
