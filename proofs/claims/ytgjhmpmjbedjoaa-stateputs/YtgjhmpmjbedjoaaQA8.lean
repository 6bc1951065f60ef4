/- A reader that is made. What bytes.Clone and pack.Read answer, over the translation. -/
import Derived.Test.YtgjhmpmjbedjoaaQKRe
import Derived.Test.YtgjhmpmjbedjoaaQA5
namespace Go.Proofs.Ytgjhmpmjbedjoaa
open Go Go.RowKit Apo
def blockOf (a : Option Addr) (l : List Int) (p : Nat) : Nat := match a, l with | some x, _ :: _ => x.block | _, _ => p

theorem rr_new {w : World} {a : Option Addr} {cap : Nat} {l : List Int} (t : TypeId) (hr : Rd .u8 w a l) (hcap : l.length ≤ cap) (hn : a = none → cap = 0) (hb : InB l) (hl : l.length ≤ 1099511627776) :
    Rr (w.alloc (.cells #[.slice a l.length cap, .bool false] t)) w.heap.size t (blockOf a l w.heap.size) (some l) := by
  refine ⟨a, cap, Ob.new w [.slice a l.length cap, .bool false] t, hr.below ((Below.refl _ _).alloc (Nat.le_refl _) _), hcap, hn, fun x hx h0 => ?_, hb, hl⟩
  subst hx
  have := hr.lt h0
  cases l with
  | nil => simp at h0
  | cons _ _ => exact ⟨rfl, by omega, by simp; omega⟩
end Go.Proofs.Ytgjhmpmjbedjoaa
namespace Go.Proofs.Ytgjhmpmjbedjoaa
open Go.RowKit Apo

set_option maxRecDepth 100000 in
set_option maxHeartbeats 1000000 in
theorem bclone_any (a : Option Addr) (cap : Nat) (l : List Int) (w : World) (hr : Rd .u8 w a l) (hn : a = none → cap = 0) (hl : l.length ≤ 1099511627776) :
    Calls Try.prog 52 #[.slice a l.length cap] w fun e w' => ∃ v, e = .returned v ∧ w'.ownsRow w.heap.size 5 1 v l.length (l.map (Value.int .u8)) ∧ Below w.heap.size w w' := by
  obtain ⟨i0, hi, hz0, hz1, hz2⟩ := info_parts infoU8
  cases a with
  | none =>
    have h0 : l = [] := by
      rcases Nat.eq_zero_or_pos l.length with h | h
      · exact List.eq_nil_of_length_eq_zero h
      · obtain ⟨_, _, h', _⟩ := hr 0 h; cases h'
    subst h0
    have hc := hn rfl
    subst hc
    clear hr hn
    have hq := fun wx => Lib.run_eql_slice_nil (P := Try.prog) wx 30 5 none 0 0 0 0 Try.underlying30
    go_enter Try.func52, Try.ntmps52
    go_wp2
    go_ret
    exact ⟨_, rfl, World.ownsRow_nil _ _ _ _, Below.refl _ _⟩
  | some x =>
    have hR := hide hr
    have hb : Below w.heap.size w (w.alloc (.cells #[] 5)) := (Below.refl _ _).alloc (Nat.le_refl _) _
    have HL : Hid ((w.alloc (.cells #[] 5)).ownsRow w.heap.size 5 1 (.slice (some ⟨w.heap.size, 0, none⟩) 0 0) 0 []) := World.ownsRow_lit w #[] 0 (Nat.le_refl _) (by decide) rfl
    clear hr hn
    have hq := fun wx => Lib.run_eql_slice_nil (P := Try.prog) wx 30 5 (some x) l.length cap 0 0 Try.underlying30
    go_enter Try.func52, Try.ntmps52
    go_wp2_with (at_builtin; refine wpList_append_own _ rfl _ _ 30 rfl w.heap.size 5 i0 (.int .u8 0) 1 1 Try.underlying30 hi hz0 hz1 hz2 rfl (by decide) _ 0 [] rfl HL.out x l.length cap (l.map (Value.int .u8)) rfl (by simp) (hR.out.below hb).news (ints_oneCell _ _) (by unfold maxLen; omega) (by omega) (by simp) ?_)
    intro v2 w2 hown2 hgrow2 _
    have O2 : Hid (w2.ownsRow w.heap.size 5 1 v2 l.length (l.map (Value.int .u8))) := by
      show World.ownsRow _ _ _ _ _ _ _
      simpa using hown2
    have B2 := hide (hb.grown hgrow2 (by simp) (fun q hq => (HL.out.lt q hq).1))
    clear hown2 hgrow2
    go_wp2
    go_ret
    exact ⟨_, rfl, O2, B2⟩

set_option maxRecDepth 100000 in
set_option maxHeartbeats 1000000 in
theorem read_any (a : Option Addr) (cap : Nat) (l : List Int) (w : World) (hr : Rd .u8 w a l) (hn : a = none → cap = 0) (hb : InB l) (hl : l.length ≤ 1099511627776) :
    Calls Try.prog 41 #[.slice a l.length cap] w fun e w' => ∃ p g, e = .returned (.pointer (some ⟨p, 0, none⟩)) ∧ Rr w' p 99 g (some l) ∧ w.heap.size ≤ p ∧ w.heap.size ≤ g ∧ p < w'.heap.size ∧ g < w'.heap.size ∧ Below w.heap.size w w' := by
  have HC := hide (bclone_any a cap l w hr hn hl)
  have hB := hide hb
  clear hr hn hb
  go_enter Try.func41, Try.ntmps41
  go_wp2_with fail
  refine HC.out.mono ?_
  rintro e w1 ⟨v, rfl, o1, b1⟩
  obtain ⟨a1, c1, rfl, hc1, hn1⟩ := own_form o1
  have hs1 := b1.size
  have hal : ∀ x, a1 = some x → w.heap.size ≤ x.block ∧ x.block < w1.heap.size := fun x hx => by
    subst hx
    exact o1.lt x.block rfl
  have HR := hide (rr_new 99 (Rd.own o1).1 hc1 hn1 hB.out hl)
  have hg1 : w.heap.size ≤ blockOf a1 l w1.heap.size ∧ blockOf a1 l w1.heap.size ≤ w1.heap.size := by
    cases a1 with
    | none => exact ⟨hs1, Nat.le_refl _⟩
    | some x =>
      cases l with
      | nil => exact ⟨hs1, Nat.le_refl _⟩
      | cons _ _ => exact ⟨(hal x rfl).1, Nat.le_of_lt (hal x rfl).2⟩
  have B1 := hide b1
  clear HC o1 b1 hal hn1
  generalize blockOf a1 l w1.heap.size = g at *
  go_wp2
  go_ret
  exact ⟨w1.heap.size, g, rfl, HR, hs1, hg1.1, by simp, by simp; omega, B1.out.alloc hs1 _⟩
set_option maxRecDepth 100000 in
set_option maxHeartbeats 1000000 in
theorem wbytes_o (p : Nat) (v : Value) (l : List Int) (w : World) (hob : Ob w p 53 [v]) (hown : w.ownsRow 0 5 1 v l.length (l.map (Value.int .u8))) (hl : l.length ≤ 1099511627776) :
    Calls Try.prog 25 #[.pointer (some ⟨p, 0, none⟩)] w fun e w' => ∃ v, e = .returned v ∧ w'.ownsRow w.heap.size 5 1 v l.length (l.map (Value.int .u8)) ∧ Below w.heap.size w w' := by
  obtain ⟨a, c, hv, hc, hn⟩ := own_form hown
  subst hv
  have HC := hide (bclone_any a c l w (Rd.own hown).1 hn hl)
  have c0 := hob.cell 0
  simp only [List.getElem?_cons_zero] at c0
  clear hown hob hn
  go_enter Try.func25, Try.ntmps25
  go_wp2_with fail
  refine HC.out.mono ?_
  rintro e w1 ⟨v, rfl, o1, b1⟩
  have HO := hide o1
  have HB := hide b1
  clear HC o1 b1
  go_wp2
  go_ret
  exact ⟨_, rfl, HO, HB⟩
end Go.Proofs.Ytgjhmpmjbedjoaa
