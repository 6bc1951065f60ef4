/- load and Open of the program's pager, where they go well. Over the translation. -/
import Derived.Test.YtegadgncggbeoaaGreatQPPg
import Derived.Test.YtegadgncggbeoaaGreatQPRd
import Derived.Test.YtegadgncggbeoaaGreatQCLo
namespace Go.Proofs.YtegadgncggbeoaaGreat
open Go.RowKit Apo

set_option maxRecDepth 100000 in
set_option maxHeartbeats 1000000 in
theorem cpload_none (w : World) (p E : Nat) :
    Calls Tryz.prog 64 #[.pointer (some ⟨p, 0, none⟩), .agg #[.int .u64 E, .int .u32 0, .int .u32 0, .int .u32 0]] w fun e w' => e = .returned (.tuple #[.slice none 0 0, .int .i64 0]) ∧ Below w.heap.size w w' := by
  have q1 := fun W => eqS ⟨E, 0, 0, 0⟩ ⟨E, 0, 0, 0⟩ W
  simp only [decide_true] at q1
  have HB := hide ((Below.refl _ w).alloc (Nat.le_refl _) (.cells #[.int .u64 E, .int .u32 0, .int .u32 0, .int .u32 0] 119))
  go_enter Tryz.func64, Tryz.ntmps64
  go_wp2
  refine bodyPost_ret (by simp [results, Tryz.results64, go_sem]; rfl) rfl ?_
  exact ⟨rfl, HB.out⟩

set_option maxRecDepth 100000 in
set_option maxHeartbeats 2000000 in
/-- Open up to load: the pager that is made -/
theorem copen_pre {O : Nat → Prop} {w : World} {d : Nat} {st : Sd} (h : CDev O w d st) (hO : ∀ i, O i → i < w.heap.size) (hc : st.C.length ≤ 536870912) (E S0 P0 Z0 : Nat) (hld : st.load = (⟨E, S0, P0, Z0⟩, 0)) (Q : Ending → World → Prop)
    (hk : ∀ (W : World) (p pf : Nat) (Of : Nat → Prop), CPb O Of W p d pf none none E ⟨0, 0⟩ (newFr 1 ((st.S.length / 4 : Nat) : Int)) false st → (∀ i, Of i → w.heap.size ≤ i) → w.heap.size ≤ p → Below w.heap.size w W →
      Calls Tryz.prog 64 #[.pointer (some ⟨p, 0, none⟩), .agg #[.int .u64 E, .int .u32 S0, .int .u32 P0, .int .u32 Z0]] W fun en W1 => ∃ a l c, en = .returned (.tuple #[.slice a l c, .int .i64 0]) ∧
        Calls Tryz.prog 65 #[.pointer (some ⟨p, 0, none⟩)] W1 fun en W2 => en = .returned (.tuple #[]) ∧ Q (.returned (.tuple #[.pointer (some ⟨p, 0, none⟩), .slice a l c, .int .i64 0])) W2) :
    Calls Tryz.prog 30 #[.pointer (some ⟨d, 0, none⟩)] w fun en w' => ∃ u, en = .returned u ∧ Q (.returned u) w' := by
  have C0 := cload_any h hO (by omega)
  rw [hld] at C0
  unfold Sup.val Sup.cells at C0
  have H := hide h
  have HO := hide hO
  have HK := hide hk
  have HC0 := hide C0
  clear C0 h hO hk hld
  go_enter Tryz.func30, Tryz.ntmps30
  go_wp2_with fail
  refine HC0.out.mono ?_
  rintro en w1 ⟨rfl, b1⟩
  have k1 := Ob.new w1 [.int .u64 E, .int .u32 S0, .int .u32 P0, .int .u32 Z0] 119
  have B1 : Below w.heap.size w (w1.alloc (.cells #[.int .u64 E, .int .u32 S0, .int .u32 P0, .int .u32 Z0] 119)) := b1.alloc b1.size _
  have hw1 := b1.size
  have x0 := k1.cell 0
  have x1 := k1.cell 1
  have x2 := k1.cell 2
  have x3 := k1.cell 3
  simp only [List.getElem?_cons_zero, List.getElem?_cons_succ] at x0 x1 x2 x3
  have hsz : (w1.alloc (.cells #[.int .u64 E, .int .u32 S0, .int .u32 P0, .int .u32 Z0] 119)).heap.size = w1.heap.size + 1 := by simp
  have HK1 := hide k1
  have HB1 := hide B1
  clear b1 k1 B1 HC0
  go_wp2
  generalize w1.alloc (.cells #[.int .u64 E, .int .u32 S0, .int .u32 P0, .int .u32 Z0] 119) = W1 at HK1 HB1 x0 x1 x2 x3 hsz ⊢
  have C2 := cpages_any (H.out.onl (F := fun _ => False) (Onl.ofBelow HB1.out.drew) (fun _ _ q => q))
  have C3 := xnew_any 1 ((st.S.length / 4 : Nat) : Int) W1.drew (by decide)
  generalize hNN : st.S.length / 4 = NN at *
  have HC3 := hide C3
  clear C3
  go_region_held3 (fun W' => W'.cell? ⟨w1.heap.size, 0, none⟩ = some (.int .u64 E)) (go_keep) (first
    | (go_at_call 63; refine C2.mono ?_; rintro en wx ⟨rfl, rfl⟩)
    | (go_at_call 62; refine HC3.out.mono ?_; rintro en w3 ⟨pf, rfl, k3, b3⟩; have m3 := Ob.old (w := W1.drew) HK1.out b3; have x0 := m3.cell 0; simp only [List.getElem?_cons_zero] at x0; have HK3 := hide k3; have HM3 := hide m3; have HB3 := hide b3; clear k3 m3 b3))
  rename_i hHeld
  clear hHeld
  have hs1 : w1.heap.size + 1 ≤ w3.heap.size := by have : W1.heap.size ≤ w3.heap.size := HB3.out.size; omega
  have B4 : Below w.heap.size w (w3.alloc (.cells #[.pointer (some ⟨d, 0, none⟩), .int .u64 E, .int .i64 0, .int .i64 0, .pointer (some ⟨pf, 0, none⟩), .pointer none, .pointer none, .bool false] 125)) := (HB1.out.drew.trans (HB3.out.mono HB1.out.size)).alloc (by omega) _
  have m4 := HM3.out.alloc (.cells #[.pointer (some ⟨d, 0, none⟩), .int .u64 E, .int .i64 0, .int .i64 0, .pointer (some ⟨pf, 0, none⟩), .pointer none, .pointer none, .bool false] 125)
  have T4 : CPb O (fun i => W1.drew.heap.size ≤ i ∧ i < w3.heap.size) (w3.alloc (.cells #[.pointer (some ⟨d, 0, none⟩), .int .u64 E, .int .i64 0, .int .i64 0, .pointer (some ⟨pf, 0, none⟩), .pointer none, .pointer none, .bool false] 125)) w3.heap.size d pf none none E ⟨0, 0⟩ (newFr 1 ((NN : Nat) : Int)) false st :=
    ⟨Ob.new w3 [.pointer (some ⟨d, 0, none⟩), .int .u64 E, .int .i64 0, .int .i64 0, .pointer (some ⟨pf, 0, none⟩), .pointer none, .pointer none, .bool false] 125, H.out.onl (F := fun _ => False) (Onl.ofBelow B4) (fun _ _ q => q), HK3.out.below ((Below.refl _ w3).alloc (Nat.le_refl _) _), fun i q => ⟨fun z => by have := HO.out i q; have z1 : W1.heap.size ≤ i := z.1; omega, by have := HO.out i q; omega⟩, fun i q => by have := q.2; omega, fun i q => by have := HO.out i q; simp; omega, fun i q => by have := q.2; simp; omega, ⟨by decide, by decide, by decide, by decide⟩⟩
  have y0 := m4.cell 0
  have y1 := m4.cell 1
  have y2 := m4.cell 2
  have y3 := m4.cell 3
  simp only [List.getElem?_cons_zero, List.getElem?_cons_succ] at y0 y1 y2 y3
  have C5 := HK.out _ w3.heap.size pf _ T4 (fun i q => by have q1 : W1.heap.size ≤ i := q.1; omega) (by omega) B4
  have HC5 := hide C5
  clear T4 C5 B4 m4 x0 x1 x2 x3 HK HC3 C2 HK3 HM3 hNN
  generalize w3.alloc (.cells #[.pointer (some ⟨d, 0, none⟩), .int .u64 E, .int .i64 0, .int .i64 0, .pointer (some ⟨pf, 0, none⟩), .pointer none, .pointer none, .bool false] 125) = W4 at HC5 y0 y1 y2 y3 ⊢
  go_wp2_with fail
  refine HC5.out.mono ?_
  rintro en W5 ⟨a, l, c, rfl, C6⟩
  have HC6 := hide C6
  clear C6 y0 y1 y2 y3
  go_wp2_with fail
  refine HC6.out.mono ?_
  rintro en W6 ⟨rfl, hQ⟩
  have HQ := hide hQ
  clear hQ
  go_wp2
  refine bodyPost_ret (by simp [results, Tryz.results30, go_sem]; rfl) rfl ?_
  exact ⟨_, rfl, HQ.out⟩

/-- a device that has no root -/
theorem copen_none {O : Nat → Prop} {w : World} {d : Nat} {st : Sd} (h : CDev O w d st) (hO : ∀ i, O i → i < w.heap.size) (hc : st.C.length ≤ 536870912) (E : Nat) (hld : st.load = (⟨E, 0, 0, 0⟩, 0)) :
    Calls Tryz.prog 30 #[.pointer (some ⟨d, 0, none⟩)] w fun en w' => ∃ p v, en = .returned (.tuple #[.pointer (some ⟨p, 0, none⟩), v, .int .i64 0]) ∧ TldR w' w.heap.size v [] ∧ CPx (Gro O w w') w' p d ⟨E, ⟨0, 0⟩, freeOf st, freeOf st, ((freeOf st).give ⟨0, 0⟩).2, false⟩ st ∧ Below w.heap.size w w' := by
  refine (copen_pre h hO hc E 0 0 0 hld (fun en w' => ∃ p v, en = .returned (.tuple #[.pointer (some ⟨p, 0, none⟩), v, .int .i64 0]) ∧ TldR w' w.heap.size v [] ∧ CPx (Gro O w w') w' p d ⟨E, ⟨0, 0⟩, freeOf st, freeOf st, ((freeOf st).give ⟨0, 0⟩).2, false⟩ st ∧ Below w.heap.size w w') ?_).mono (fun en w' ⟨u, e1, h1⟩ => by rw [e1]; exact h1)
  intro W p pf Of T hf hp B
  refine (cpload_none W p E).mono ?_
  rintro en W1 ⟨rfl, b1⟩
  refine ⟨none, 0, 0, rfl, (cbegin_any (T.below b1)).mono ?_⟩
  rintro en W2 ⟨rfl, ⟨Ow, On, pw, pn, x, l⟩, o⟩
  have hs := B.size
  have hs1 := b1.size
  refine ⟨rfl, p, _, rfl, TldR.nil _ _, x.x (fun i q => ?_), Below.onl (B.trans (b1.mono B.size)) o (fun i q => by omega) (Nat.le_refl _)⟩
  have hlt := x.lt i q
  rcases q with q | q | q | q | q
  · exact .inl q
  · exact .inr ⟨hf i q, hlt⟩
  · exact .inr ⟨by have := l i (.inl q); omega, hlt⟩
  · exact .inr ⟨by have := l i (.inr q); omega, hlt⟩
  · exact .inr ⟨by omega, hlt⟩
end Go.Proofs.YtegadgncggbeoaaGreat
