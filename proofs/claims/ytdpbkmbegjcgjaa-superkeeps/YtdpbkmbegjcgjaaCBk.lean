/- What slices.Backward hands out over the cached writes: each of them, from the last on, till a round says no more. Over the translation. -/
import Derived.RangeFuncNested
import Derived.RangeFuncBound
import Derived.RangeFuncCalls
import Derived.RangeFuncLeaves
import Derived.RangeFuncBox
import Derived.Shelf.Abstract
import Derived.Shelf.RegionOpen
import Derived.OwnWalkIn
import Derived.TacticsInMore
import Derived.LoopNIn
import Derived.LoopIn
import Derived.Test.YtdpbkmbegjcgjaaCKe
namespace Go.Proofs.Ytdpbkmbegjcgjaa
open Go.RowKit Go.Shelf Apo
attribute [local go_sem] Oper.semAt_some

/-! the laws at whole arrays, inside a fence -/
theorem ld_sem65 {ro : Option Nat} {P : Program} {w : World} {ρ : Operand → Value} {dst : Option Tmp} {x : Operand} {ty : TypeId} {pos : String} {after : Array Edge} {guard : Option (Nat × Bool)} (h : LdRuns P w 78 (ρ x)) :
    (Oper.semAt ro ρ { dst, op := .load 78 x, type := ty, pos, after, guard }).run P w = .ok (.value (ldVal P w 78 (ρ x))) w := by
  rw [Oper.semAt_eq _ _ _ (by simp)]
  exact ld_exec h
theorem ld_sem67 {ro : Option Nat} {P : Program} {w : World} {ρ : Operand → Value} {dst : Option Tmp} {x : Operand} {ty : TypeId} {pos : String} {after : Array Edge} {guard : Option (Nat × Bool)} (h : LdRuns P w 80 (ρ x)) :
    (Oper.semAt ro ρ { dst, op := .load 80 x, type := ty, pos, after, guard }).run P w = .ok (.value (ldVal P w 80 (ρ x))) w := by
  rw [Oper.semAt_eq _ _ _ (by simp)]
  exact ld_exec h
theorem st_sem65 {ro : Option Nat} {P : Program} {w : World} {ρ : Operand → Value} {dst : Option Tmp} {x y : Operand} {ty : TypeId} {pos : String} {after : Array Edge} {guard : Option (Nat × Bool)} (h : StRuns P w 78 (ρ x) (ρ y)) :
    (Oper.semAt ro ρ { dst, op := .store 78 x y, type := ty, pos, after, guard }).run P w = .ok .skip (stWld P w 78 (ρ x) (ρ y)) := by
  rw [Oper.semAt_eq _ _ _ (by simp)]
  exact st_exec h
theorem st_sem67 {ro : Option Nat} {P : Program} {w : World} {ρ : Operand → Value} {dst : Option Tmp} {x y : Operand} {ty : TypeId} {pos : String} {after : Array Edge} {guard : Option (Nat × Bool)} (h : StRuns P w 80 (ρ x) (ρ y)) :
    (Oper.semAt ro ρ { dst, op := .store 80 x y, type := ty, pos, after, guard }).run P w = .ok .skip (stWld P w 80 (ρ x) (ρ y)) := by
  rw [Oper.semAt_eq _ _ _ (by simp)]
  exact st_exec h
theorem al_sem65 {ro : Option Nat} {w : World} {ρ : Operand → Value} {dst : Option Tmp} {ty : TypeId} {pos : String} {after : Array Edge} {guard : Option (Nat × Bool)} :
    (Oper.semAt ro ρ { dst, op := .alloc 78, type := ty, pos, after, guard }).run Try.prog w = .ok (.value (.pointer (some ⟨w.heap.size, 0, none⟩))) (w.alloc (.cells (zc Try.prog 78) 78)) := by
  rw [Oper.semAt_eq _ _ _ (by simp)]
  exact al_exec al_sec
theorem al_sem67 {ro : Option Nat} {w : World} {ρ : Operand → Value} {dst : Option Tmp} {ty : TypeId} {pos : String} {after : Array Edge} {guard : Option (Nat × Bool)} :
    (Oper.semAt ro ρ { dst, op := .alloc 80, type := ty, pos, after, guard }).run Try.prog w = .ok (.value (.pointer (some ⟨w.heap.size, 0, none⟩))) (w.alloc (.cells (zc Try.prog 80) 80)) := by
  rw [Oper.semAt_eq _ _ _ (by simp)]
  exact al_exec al_wri
attribute [local go_sem ↓] ld_sem67

/-- a cached write, with its place in the cache -/
structure Wx where
  i : Nat
  x : Nat × List Int
  ok : Sec x.2

/-- the j-th that comes, from the last on -/
def wxAt (C : List (Nat × List Int)) (hC : ∀ x ∈ C, Sec x.2) (j : Nat) : Wx :=
  ⟨C.length - 1 - j, C.getD (C.length - 1 - j) (0, zeros), by
    simp only [List.getD]
    cases hq : C[C.length - 1 - j]? with
    | none => exact sec_zeros
    | some x => exact hC x (List.mem_of_getElem? hq)⟩
def upto {α : Type} (f : Nat → α) (k : Nat) : List α := (List.range k).map f
theorem upto_succ {α : Type} (f : Nat → α) (k : Nat) : upto f (k + 1) = upto f k ++ [f k] := by simp [upto, List.range_succ]
theorem upto_length {α : Type} (f : Nat → α) (k : Nat) : (upto f k).length = k := by simp [upto]

set_option maxRecDepth 100000 in
set_option maxHeartbeats 2000000 in
theorem cback1_in (F : Fence) (n : Nat) (h42 : F.fn 46) (hro : F.round = none) (hn : 1 ≤ n) (l Bs n₀ g cap : Nat) (C : List (Nat × List Int)) (hC : ∀ x ∈ C, Sec x.2) (hreach : C.length ≤ 1099511627776) (hg : g < n₀) (hBn : Bs < n₀) (J Jx : List Wx → World → Prop)
    (hY : ∀ pre x W, J pre W → pre.length < C.length → YieldAt F (n - 1) Try.prog l #[.int .i64 (x.i : Int), .agg (wrA x.x)] W fun e W' =>
      (e = .returned (.bool true) ∧ J (pre ++ [x]) W' ∧ Below n₀ W W') ∨ (e = .returned (.bool false) ∧ Jx (pre ++ [x]) W'))
    (W : World) (hBs : W.cell? ⟨Bs, 0, none⟩ = some (.slice (some ⟨g, 0, none⟩) C.length cap)) (hc : ∀ i x, C[i]? = some x → ∀ j, j < 33 → W.cell? ⟨g, i * 33 + j, none⟩ = (wrV x)[j]?) (h0 : J [] W) :
    CallsIn F n Try.prog 46 #[.func (.yield l) #[] #[], .pointer (some ⟨Bs, 0, none⟩)] W fun e W' => (∃ v, e = .returned v) ∧
      ((∃ ys, ys = upto (wxAt C hC) C.length ∧ J ys W') ∨ (∃ pre, (∃ k, k ≤ C.length ∧ pre = upto (wxAt C hC) k) ∧ Jx pre W')) := by
  refine callsIn_of_wp Try.func46 rfl h42 ?_ hro
  simp only [Try.ntmps46, List.size_toArray, List.length_cons, List.length_nil, Nat.reduceAdd, Nat.reduceSub, Array.replicate_succ, Array.replicate_zero, List.push_toArray, List.append_toArray, List.nil_append, List.cons_append]
  gi_wp2
  gi_loopw [3] (fun i wr => ∃ k : Nat, k ≤ C.length ∧ i = .int .i64 ((C.length : Int) - 1 - k) ∧ J (upto (wxAt C hC) k) wr ∧ Below n₀ W wr)
    (fun i _ => (intOf i + 1).toNat)
  case atStart => exact ⟨0, Nat.zero_le _, by simp, h0, Below.refl _ _⟩
  case round =>
    obtain ⟨k, hk, rfl, hJs, hnx⟩ := hrel
    have hBs' : wr.cell? ⟨Bs, 0, none⟩ = some (.slice (some ⟨g, 0, none⟩) C.length cap) := (hnx.cell (p := ⟨Bs, 0, none⟩) hBn).trans hBs
    by_cases hlt : k < C.length
    · have hi : C.length - 1 - k < C.length := by omega
      have hx0 : C[C.length - 1 - k]? = some C[C.length - 1 - k] := List.getElem?_eq_getElem hi
      have hsx := hC _ (List.getElem_mem hi)
      have e1 : (wxAt C hC k).x = C[C.length - 1 - k] := by simp [wxAt, List.getD, hx0]
      have e2 : (wxAt C hC k).i = C.length - 1 - k := rfl
      obtain ⟨fn, tmps, assign, body, hy, hR⟩ := hY _ (wxAt C hC k) wr hJs (by rw [upto_length]; exact hlt)
      rw [e1, e2] at hy
      have e3 : (C.length : Int) - 1 - (k : Int) = ((C.length - 1 - k : Nat) : Int) := by omega
      rw [e3]
      obtain ⟨l1, l2⟩ := ld_wri (w := wr) (g := g) (o := (C.length - 1 - k) * 33) (x := C[C.length - 1 - k]) ⟨hsx.1⟩ (fun j hj => (hnx.cell (p := ⟨g, (C.length - 1 - k) * 33 + j, none⟩) hg).trans (hc _ _ hx0 j hj))
      generalize hqi : C.length - 1 - k = i at *
      generalize hqx : C[i] = x at *
      have HI := hide hqi
      have HX := hide hx0
      have HJ := hide hJs
      have HE := hide e3
      clear hqi hx0 hJs e3 e1 e2 hqx
      gi_wp2
      refine hR.mono ?_
      rintro e W3 (⟨rfl, hJ3, hk3⟩ | ⟨rfl, hJx3⟩)
      · have hBs3 := (hk3.cell (p := ⟨Bs, 0, none⟩) hBn).trans hBs'
        gi_wp2
        go_roundw
        case rel => exact ⟨k + 1, by omega, by have := HE.out; simp; omega, by rw [upto_succ]; exact hJ3, hnx.trans hk3⟩
        case measure => simp [intOf]
      · gi_wp2
        refine bodyPost_ret (results_none rfl _ _ _) rfl ?_
        exact ⟨⟨_, rfl⟩, .inr ⟨_, ⟨k + 1, by omega, (upto_succ _ _).symm⟩, hJx3⟩⟩
    · obtain rfl : k = C.length := by omega
      gi_wp2
      go_end0
      exact ⟨⟨_, rfl⟩, .inl ⟨_, rfl, hJs⟩⟩

set_option maxRecDepth 100000 in
set_option maxHeartbeats 1000000 in
theorem cback1_nil_in (F : Fence) (n : Nat) (h42 : F.fn 46) (hro : F.round = none) (l Bs : Nat) (J : List Wx → World → Prop) (W : World) (hBs : W.cell? ⟨Bs, 0, none⟩ = some (.slice none 0 0)) (h0 : J [] W) :
    CallsIn F n Try.prog 46 #[.func (.yield l) #[] #[], .pointer (some ⟨Bs, 0, none⟩)] W fun e W' => (∃ v, e = .returned v) ∧ J [] W' := by
  refine callsIn_of_wp Try.func46 rfl h42 ?_ hro
  simp only [Try.ntmps46, List.size_toArray, List.length_cons, List.length_nil, Nat.reduceAdd, Nat.reduceSub, Array.replicate_succ, Array.replicate_zero, List.push_toArray, List.append_toArray, List.nil_append, List.cons_append]
  gi_wp2
  gi_loopw [3] (fun i wr => i = .int .i64 (-1) ∧ J [] wr) (fun _ _ => 0)
  case atStart => exact ⟨rfl, h0⟩
  case round =>
    obtain ⟨rfl, hJs⟩ := hrel
    gi_wp2
    go_end0
    exact ⟨⟨_, rfl⟩, hJs⟩

set_option maxHeartbeats 1000000 in
/-- slices.Backward(s): the slice is boxed, the function value captures the box -/
theorem cback_in (F : Fence) (n : Nat) (h40 : F.fn 45) (hro : F.round = none) (a : Option Addr) (len cap : Nat) (w : World) :
    CallsIn F n Try.prog 45 #[.slice a len cap] w fun e w' => e = .returned (.func (.func 46) #[] #[.pointer (some ⟨w.heap.size, 0, none⟩)]) ∧ w' = w.alloc (.cells #[.slice a len cap] 70) := by
  refine callsIn_of_wp Try.func45 rfl h40 ?_ hro
  simp only [Try.ntmps45, List.size_toArray, List.length_cons, List.length_nil, Nat.reduceAdd, Nat.reduceSub, Array.replicate_succ, Array.replicate_zero, List.push_toArray, List.append_toArray, List.nil_append, List.cons_append]
  gi_wp2
  go_ret
  exact ⟨rfl, rfl⟩

theorem cback_stops (F : Fence) (n : Nat) (h42 : F.fn 46) (hro : F.round = none) (hn : 1 ≤ n) (Bs n₀ : Nat) (ca : Option Addr) (cap : Nat) (C : List (Nat × List Int)) (hC : ∀ x ∈ C, Sec x.2) (hreach : C.length ≤ 1099511627776) (w : World) (hBs : Bs < n₀) (hn₀ : n₀ ≤ w.heap.size)
    (hc : w.cell? ⟨Bs, 0, none⟩ = some (.slice ca C.length cap)) (hnil : ca = none → C = [] ∧ cap = 0) (hca : ∀ x, ca = some x → ∃ g, x = ⟨g, 0, none⟩ ∧ g < n₀ ∧ ∀ i x, C[i]? = some x → ∀ j, j < 33 → w.cell? ⟨g, i * 33 + j, none⟩ = (wrV x)[j]?) :
    SeqStopsK F n Try.prog 46 #[.pointer (some ⟨Bs, 0, none⟩)] (fun x : Wx => #[Value.int .i64 (x.i : Int), Value.agg (wrA x.x)]) (Below n₀) (fun ys => ys = upto (wxAt C hC) C.length)
      (fun pre => ∃ k, k ≤ C.length ∧ pre = upto (wxAt C hC) k) C.length w := fun l J Jx W hW _ _ hY h0 => by
  have hc' := (hW.cell (p := ⟨Bs, 0, none⟩) (Nat.lt_of_lt_of_le hBs hn₀)).trans hc
  cases ca with
  | none =>
    obtain ⟨rfl, rfl⟩ := hnil rfl
    exact (cback1_nil_in F n h42 hro l Bs J W hc' h0).mono fun e W' ⟨he, hj⟩ => ⟨he, .inl ⟨_, rfl, hj⟩⟩
  | some x =>
    obtain ⟨g, rfl, hg, hcs⟩ := hca x rfl
    exact cback1_in F n h42 hro hn l Bs n₀ g cap C hC hreach hg hBs J Jx hY W hc' (fun i x hx j hj => (hW.cell (p := ⟨g, i * 33 + j, none⟩) (Nat.lt_of_lt_of_le hg hn₀)).trans (hcs i x hx j hj)) h0
end Go.Proofs.Ytdpbkmbegjcgjaa
