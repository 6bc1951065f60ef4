/- What the methods of pack.Writer do, over the translation. -/
import Derived.Test.YtapomhpahdmekaaLPt
import Derived.Test.YtapomhpahdmekaaGBa
import Derived.Handy
import Derived.Deep.RegionLaw
namespace Go.Proofs.Ytapomhpahdmekaa
open Go.RowKit Apo

/-- the writer in block p has written the bytes l: its one cell holds a slice of the call's own, which lies above it -/
def Wr (w : World) (p : Nat) (l : List Int) : Prop := ∃ v, Ob w p 46 [v] ∧ w.ownsRow (p + 1) 5 1 v l.length (l.map (Value.int .u8))

set_option maxRecDepth 100000 in
theorem Wr.lt {w : World} {p : Nat} {l : List Int} (h : Wr w p l) : p < w.heap.size := by
  obtain ⟨v, h1, _⟩ := h; exact h1.lt

set_option maxRecDepth 100000 in
theorem Wr.old {w w' : World} {p : Nat} {l : List Int} (h : Wr w p l) (hb : Below w.heap.size w w') : Wr w' p l := by
  obtain ⟨v, h1, h2⟩ := h
  refine ⟨v, h1.old hb, h2.kept (grew_below none hb) ?_⟩
  cases v.ownBlock <;> simp

set_option maxRecDepth 100000 in
/-- what one append of the writer's own makes of it -/
theorem wr_step {w w1 w2 : World} {p : Nat} {v v2 : Value} {cur l : List Int} {n : Nat} (hob : Ob w p 46 [v]) (hown : w.ownsRow (p + 1) 5 1 v cur.length (cur.map (Value.int .u8))) (hb : Below w.heap.size w w1)
    (hg : w1.grownBy w2 v.ownBlock) (h2 : w2.ownsRow (p + 1) 5 1 v2 n (l.map (Value.int .u8))) :
    w2.cell? ⟨p, 0, none⟩ = some v ∧ w2.frozen? ⟨p, 0, none⟩ = false ∧ (n = l.length → Wr (w2.setCell ⟨p, 0, none⟩ v2) p l) ∧ Below p w (w2.setCell ⟨p, 0, none⟩ v2) := by
  have hne : v.ownBlock ≠ some p := by
    intro e
    have := (hown.lt p e).1
    omega
  have o2 : Ob w2 p 46 [v] := (hob.old hb).kept hg hne
  have hp := hob.lt
  refine ⟨o2.cell 0, o2.frozen 0, fun e => ⟨v2, o2.set 0 v2, ?_⟩, ?_⟩
  · subst e
    exact ownsRow_setCell_below h2 (by show p < p + 1; omega) _
  · refine Below.setCell ?_ (Nat.le_refl p) _
    exact (hb.mono (by omega)).grown hg (by have := hb.size; omega) (fun k hk => by have := (hown.lt k hk).1; omega)

attribute [local go_sem ↓] Go.wp_at_zero Go.wp_at_succ

set_option maxRecDepth 100000 in
set_option maxHeartbeats 1000000 in
theorem wnum_any (p : Nat) (cur : List Int) (a : Option Addr) (cap : Nat) (l : List Int) (w : World) (hw : Wr w p cur) (hr : Rd .u64 w a l) (hu : InU l) (hc : cur.length ≤ 1099511627776) (hl : l.length ≤ 1099511627776) :
    Calls Try.prog 18 #[.pointer (some ⟨p, 0, none⟩), .slice a l.length cap] w fun e w' => e = .returned (.tuple #[]) ∧ Wr w' p (cur ++ encs l) ∧ Below p w w' := by
  obtain ⟨i0, hi, hz0, hz1, hz2⟩ := info_parts infoU8
  obtain ⟨v, hob, hown⟩ := hw
  obtain ⟨av, cv, hv, _⟩ := own_form hown
  have hT := encs_len l
  have hp := hob.lt
  have hR := hide hr
  have hO := hide hob
  have hW := hide hown
  have c0 := hob.cell 0
  have f0 := hob.frozen 0
  simp only [List.getElem?_cons_zero] at c0
  subst hv
  have hbd : Below w.heap.size w w.drew := (Below.refl _ _).drew
  clear hown hob hr
  go_enter Try.func18, Try.ntmps18
  go_wp2
  go_region_law (first
    | (refine step_append_rd (by rfl) _ _ 26 (by rfl) (p + 1) 5 i0 (.int .u8 0) 1 Try.underlying26 hi hz0 hz1 hz2 rfl .u8 _ cur (by rfl) hW1.out a1 c1 (encs l) (by rfl) hR1.out hN1.out (by unfold maxLen; omega) (by omega) (by omega) ?_; intro v2 w2 hown2 hgrow2; obtain ⟨a2, c2, hv2, _⟩ := own_form hown2; subst hv2; obtain ⟨k1, k2, k3, k4⟩ := wr_step hO.out hW.out hb1 hgrow2 hown2; have K3 := hide (k3 rfl); simp only [List.length_append] at k4 K3; clear hown2 hgrow2 k3)
    | (go_simp; first
      | (go_at_call 34; refine (lput_any none 0 [] a cap l w.drew (Rd.nil _ _ _) (fun _ => rfl) (hR.out.below hbd) hu (by simp) hl).mono ?_; rintro e w1 ⟨v1, rfl, hown1, hb1'⟩; have hb1 : Below w.heap.size w w1 := hbd.trans hb1'; have hs1 := hb1.size; rw [List.nil_append] at hown1; obtain ⟨a1, c1, hv1, _, hn1⟩ := own_form hown1; subst hv1; have hR1 := hide (Rd.own hown1).1; have hN1 := hide hn1; have hW1 : Hid (w1.ownsRow (p + 1) 5 1 (.slice av cur.length cv) cur.length (cur.map (Value.int .u8))) := hW.out.kept (grew_below none hb1) (by cases av <;> simp [Value.ownBlock]); have d0 := (hb1.cell (p := ⟨p, 0, none⟩) hp).trans c0; have g0 := (hb1.frozen (p := ⟨p, 0, none⟩) hp).trans f0; clear hown1 hb1' hn1)))
  all_goals
    go_wp2
    go_returns
    exact ⟨rfl, by assumption, by assumption⟩

set_option maxRecDepth 100000 in
theorem encs_one (z : Int) : encs [z] = enc z.toNat := by simp [encs]

set_option maxRecDepth 100000 in
/-- one number -/
theorem wnum_one (p : Nat) (cur : List Int) (n : Int) (w : World) (q : Nat) (hq : q = w.heap.size) (hw : Wr w p cur) (h0 : 0 ≤ n) (h1 : n ≤ 18446744073709551615) (hc : cur.length ≤ 1099511627776) :
    Calls Try.prog 18 #[.pointer (some ⟨p, 0, none⟩), .slice (some ⟨q, 0, none⟩) 1 1] (w.alloc (.cells #[.int .u64 n] 22)) fun e w' => e = .returned (.tuple #[]) ∧ Wr w' p (cur ++ enc n.toNat) ∧ Below p w w' := by
  subst hq
  have hb : Below w.heap.size w (w.alloc (.cells #[.int .u64 n] 22)) := (Below.refl _ _).alloc (Nat.le_refl _) _
  refine (wnum_any p cur (some ⟨w.heap.size, 0, none⟩) 1 [n] _ (hw.old hb) (rd_lit1 _ _ _ _) (by intro z hz; simp at hz; omega) hc (by simp)).mono ?_
  rintro e w' ⟨rfl, h2, h3⟩
  rw [encs_one] at h2
  exact ⟨rfl, h2, (hb.mono (Nat.le_of_lt hw.lt)).trans h3⟩

set_option maxRecDepth 100000 in
set_option maxHeartbeats 1000000 in
theorem wtext_any (p : Nat) (cur : List Int) (s : ByteArray) (w : World) (hw : Wr w p cur) (hc : cur.length + s.size ≤ 1000000000000) :
    Calls Try.prog 19 #[.pointer (some ⟨p, 0, none⟩), .string s] w fun e w' => e = .returned (.tuple #[]) ∧ Wr w' p (cur ++ (enc s.size ++ nums s)) ∧ Below p w w' := by
  obtain ⟨i0, hi, hz0, hz1, hz2⟩ := info_parts infoU8
  have hW := hide hw
  have hp := hw.lt
  have hel := enc_len s.size
  clear hw
  go_enter Try.func19, Try.ntmps19
  go_wp2_with fail
  refine (wnum_one p cur s.size w _ rfl hW.out (by omega) (by omega) (by omega)).mono ?_
  rintro e w1 ⟨rfl, ⟨v, hob, hown⟩, hb1⟩
  simp only [Int.toNat_natCast] at hown
  obtain ⟨av, cv, hv, _⟩ := own_form hown
  have hO := hide hob
  have hN := hide hown
  have c0 := hob.cell 0
  have f0 := hob.frozen 0
  have hp1 := hob.lt
  simp only [List.getElem?_cons_zero] at c0
  rw [List.length_append] at hv
  subst hv
  clear hown hob
  go_wp2_with (at_builtin; refine Lib.wpList_append_own_string _ rfl _ _ 26 9 rfl (p + 1) 5 i0 Try.underlying26 Try.underlying9 hi hz0 hz1 hz2 _ (cur ++ enc s.size).length ((cur ++ enc s.size).map (Value.int .u8)) rfl hN.out s rfl (by rw [List.length_append]; unfold maxLen; omega) (by rw [List.length_append]; omega) (by omega) ?_)
  intro v2 w2 hown2 hgrow2 _
  have hn : cur.length + (enc s.size).length + s.size = (cur ++ (enc s.size ++ nums s)).length := by rw [← List.append_assoc, List.length_append (bs := nums s), nums_length, List.length_append]
  have hown3 : w2.ownsRow (p + 1) 5 1 v2 (cur.length + (enc s.size).length + s.size) ((cur ++ (enc s.size ++ nums s)).map (Value.int .u8)) := by simpa [strCells_nums] using hown2
  clear hown2
  obtain ⟨a2, c2, hv2, _⟩ := own_form hown3
  subst hv2
  obtain ⟨k1, k2, k3, k4⟩ := wr_step hO.out hN.out (Below.refl _ _) hgrow2 hown3
  have K3 := hide (k3 hn)
  have K4 := hide (hb1.trans k4)
  clear hown3 hgrow2 k3 k4 hn hN hO hb1
  go_wp2
  go_returns
  exact ⟨rfl, K3, K4⟩

end Go.Proofs.Ytapomhpahdmekaa
