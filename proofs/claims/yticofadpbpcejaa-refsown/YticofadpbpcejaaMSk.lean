/- maps.Keys over a map keyed by texts: its keys come, each once, in some order. Over the translation. -/
import Derived.Test.YticofadpbpcejaaHMs
import Derived.RangeFuncGives
import Derived.RangeFuncSeq
import Derived.RangeFuncLeaves
import Derived.RangeFuncNested
import Derived.Sort.MapsRangeIn
import Derived.Sort.KeysCollected
import Derived.WalkKit
import Derived.OwnWalkIn
import Derived.TacticsInMore
import Derived.RegionIn
import Derived.LoopNIn
import Derived.LoopIn
namespace Go.Proofs.Yticofadpbpcejaa
open Go.RowKit Go.Maps Apo
abbrev encS (s : ByteArray) : Value := .string s
theorem encS_inj {s t : ByteArray} (h : encS s = encS t) : s = t := by simpa [encS] using h
/-- the keys met so far: none twice; just those that the map has and that are no longer to come -/
structure ColS (D : DataW Value) (left : Lit → Bool) (xs : List ByteArray) : Prop where
  nodup : xs.Nodup
  small : ∀ s ∈ xs, s.size ≤ maxLen
  mem : ∀ s, s ∈ xs ↔ (s.size ≤ maxLen ∧ has D (kS s) = true ∧ left (kS s) = false)
theorem ColS.start (D : DataW Value) : ColS D (has D) [] := ⟨List.nodup_nil, by simp, fun s => by cases has D (kS s) <;> simp⟩
theorem ColS.step {D : DataW Value} {left : Lit → Bool} {xs : List ByteArray} (h : ColS D left xs) {x : ByteArray} {y : DataW Value} (hx : x.size ≤ maxLen) (hlk : left (kS x) = true) (hat : ∀ z, D.atKey (kS x) z = y) : ColS D (fun z => left z && !z.sameKey (kS x)) (xs ++ [x]) := by
  have hhas : has D (kS x) = true := has_true_of_atKey hat
  have hnew : x ∉ xs := fun q => by have := ((h.mem x).1 q).2.2; rw [hlk] at this; cases this
  refine ⟨List.nodup_append.2 ⟨h.nodup, by simp, fun a ha b hb => by simp at hb; subst hb; exact fun e => hnew (e ▸ ha)⟩, fun i hi => ?_, fun i => ?_⟩
  · rcases List.mem_append.1 hi with q | q
    · exact h.small i q
    · simp at q; rw [q]; exact hx
  · by_cases hy : i = x
    · subst hy
      simp only [kS] at hhas
      simp [hhas, Lit.sameKey, kS, hx]
    · have hz : ¬ i.data.toList = x.data.toList := fun e => hy (kS_inj (by rw [kS, kS, e]))
      have hz2 : ¬ i.data = x.data := fun e => hz (by rw [e])
      have := h.mem i
      simp [this, hy, Lit.sameKey, kS, hz2]
/-- a map's keys, in some order -/
def KeysS (M : ByteArray → Option Value) (c : Nat) (xs : List ByteArray) : Prop := xs.Nodup ∧ (∀ s ∈ xs, s.size ≤ maxLen) ∧ (∀ s, s.size ≤ maxLen → (s ∈ xs ↔ (M s).isSome = true)) ∧ xs.length ≤ c
theorem ColS.all {D : DataW Value} {left : Lit → Bool} {xs : List ByteArray} {M : ByteArray → Option Value} {c : Nat} (h : ColS D left xs) (hl : ∀ kl, left kl = false) (m : MsD D M) (hc : xs.length ≤ c) : KeysS M c xs := by
  refine ⟨h.nodup, h.small, fun s hs => ?_, hc⟩
  rw [h.mem s, hl, m.has s hs]
  simp [hs]
set_option maxRecDepth 100000 in
set_option maxHeartbeats 1000000 in
theorem mkeys1_in (n : Nat) (hn : 1 ≤ n) (l Bm b nn : Nat) (D0 : DataW Value) (J Jx : List ByteArray → World → Prop)
    (hY : ∀ pre x W, J pre W → pre.length < Maps.size D0 → YieldAt Fence.wide (n - 1) Try.prog l #[encS x] W fun e W' => (e = .returned (.bool true) ∧ J (pre ++ [x]) W' ∧ KeepsWalks W W') ∨ (e = .returned (.bool false) ∧ Jx (pre ++ [x]) W'))
    (W : World) (hJ : AbidesFrom W.heap.size J) (hm : W.cell? ⟨Bm, 0, none⟩ = some (.map (some b))) (hown : W.ownsMap Try.prog 9 heldR b nn D0) (h0 : J [] W) :
    CallsIn Fence.wide n Try.prog 34 #[.func (.yield l) #[] #[], .pointer (some ⟨Bm, 0, none⟩)] W fun e W' => (∃ v, e = .returned v) ∧ ((∃ xs : List ByteArray, ColS D0 (fun _ => false) xs ∧ xs.length ≤ Maps.size D0 ∧ J xs W') ∨ (∃ pre, Jx pre W')) := by
  have hk : Try.prog.underlying 9 = some .string := by rfl
  refine callsIn_of_wp Try.func34 rfl trivial ?_ rfl
  simp only [Try.ntmps34, List.size_toArray, List.length_cons, List.length_nil, Nat.reduceAdd, Nat.reduceSub, Array.replicate_succ, Array.replicate_zero, List.push_toArray, List.append_toArray, List.nil_append, List.cons_append]
  gi_wp2_with (first
    | (gi_at_range; refine wpListIn_range_own _ rfl _ 54 rfl 9 32 (Maps.string_keyed hk) (by rfl) _ b nn _ rfl hown ?_; intro w0 hrg0 hg0 hs0)
    | gi_in)
  go_frame
  gi_loopw [3] (fun _ wr => ∃ (left : Lit → Bool) (cnt : Nat) (xs : List ByteArray), wr.ranges Try.prog 9 heldR b W.heap.size nn D0 left cnt ∧ xs.length + cnt ≤ Maps.size D0 ∧ ColS D0 left xs ∧ J xs wr)
    (fun _ wr => wr.rangeLeft b W.heap.size)
  case atStart =>
    exact ⟨_, _, [], hrg0, by simp, ColS.start D0, hJ [] W w0 none h0 hg0 (fun r e => by cases e)⟩
  case round =>
    obtain ⟨left, cnt, xs, hrg, hcs, hC, hJs⟩ := hrel
    gi_wp2_with (first
      | (gi_at_next; refine wpListIn_next_ranges _ rfl _ rfl 9 (Maps.string_keyed hk) heldR encS id (fun key kl h => by obtain ⟨i, hx, _, _⟩ := Go.WideMaps.string_of_keyOf hk h; exact ⟨i, hx⟩) (fun v _ _ => ⟨v, rfl⟩) b W.heap.size nn _ _ _ rfl hrg ?_ ?_)
      | gi_in)
    · intro hc0 hl0
      gi_wp2
      go_end0
      refine ⟨⟨_, rfl⟩, .inl ⟨xs, ?_, by omega, hJs⟩⟩
      rw [← show left = fun _ => false from funext hl0]
      exact hC
    · intro x c kl yd yp w2 cnt2 hkey hlk hv hat hrg2 hlt hg2 hs2 hen
      obtain ⟨x', ex, rfl, hx'⟩ := Go.WideMaps.string_of_keyOf hk hkey
      obtain rfl : x = x' := encS_inj ex
      have hJ2 : J xs w2 := hJ xs wr w2 (some W.heap.size) hJs hg2 (fun r e => by cases e; exact ⟨Nat.le_refl _, hrg.iter_walk⟩)
      obtain ⟨fn, tmps, assign, body, hy, hR⟩ := hY xs x w2 hJ2 (by omega)
      clear hs2
      gi_wp2
      refine hR.mono ?_
      rintro e W3 (⟨rfl, hJ3, hk3⟩ | ⟨rfl, hJx3⟩)
      · gi_wp2
        have hrg3 := hrg2.of_walks hk3
        go_roundw
        case rel => exact ⟨_, cnt2, xs ++ [x], hrg3, by simp; omega, hC.step hx' hlk hat, hJ3⟩
        case measure => rw [hrg3.left_eq, hrg.left_eq]; exact hlt
      · gi_wp2
        refine bodyPost_ret (results_none rfl _ _ _) rfl ?_
        exact ⟨⟨_, rfl⟩, .inr ⟨xs ++ [x], hJx3⟩⟩
set_option maxRecDepth 100000 in
/-- maps.Keys' iterator over a map: its keys, each once -/
theorem mkeys_stops (n : Nat) (hn : 1 ≤ n) (Bm b c : Nat) (M : ByteArray → Option Value) (w : World) (hBm : Bm < w.heap.size) (hm : w.cell? ⟨Bm, 0, none⟩ = some (.map (some b))) (h : Ms Try.prog 9 w b c M) :
    SeqStopsK Fence.wide n Try.prog 34 #[.pointer (some ⟨Bm, 0, none⟩)] (fun i => #[encS i]) KeepsWalks (KeysS M c) (fun _ => True) c w := by
  obtain ⟨D, hown, md, hsz⟩ := h
  intro l J Jx W hW hJ hJx hY h0
  have hown' : W.ownsMap Try.prog 9 heldR b (Maps.size D) D := by
    have hbl := hown.lt
    obtain ⟨es, clock, hb, Ft, hs, hD⟩ := hown
    exact ⟨es, clock, (hW.block b hbl).trans hb, Ft, hs, hD⟩
  refine (mkeys1_in n hn l Bm b (Maps.size D) D J Jx (fun pre x W1 h1 h2 => hY pre x W1 h1 (by omega)) W hJ ((hW.cell (p := ⟨Bm, 0, none⟩) hBm).trans hm) hown' h0).mono ?_
  rintro e W' ⟨hv, ⟨xs, hc, hl, hj⟩ | ⟨pre, hj⟩⟩
  · exact ⟨hv, .inl ⟨xs, hc.all (fun _ => rfl) md (by omega), hj⟩⟩
  · exact ⟨hv, .inr ⟨pre, trivial, hj⟩⟩
set_option maxRecDepth 100000 in
set_option maxHeartbeats 1000000 in
/-- maps.Keys: a function value over one new block, which holds the map -/
theorem mkeys_any (mb : Option Nat) (w : World) : Calls Try.prog 30 #[.map mb] w fun e w' => e = .returned (.func (.func 34) #[] #[.pointer (some ⟨w.heap.size, 0, none⟩)]) ∧ w' = w.alloc (.cells #[.map mb] 54) := by
  go_enter Try.func30, Try.ntmps30
  go_wp2
  go_ret
  exact ⟨rfl, rfl⟩
end Go.Proofs.Yticofadpbpcejaa
