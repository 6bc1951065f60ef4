/- slices.Values at refs: each in its order, till a round says no more. Over the translation. -/
import Derived.Test.YticofadpbpcejaaRAl
namespace Go.Proofs.Yticofadpbpcejaa
open Go.RowKit Go.Shelf Apo
/-- what a loop must leave alone: blocks of O -/
def KeepO (O : Nat → Prop) (W W' : World) : Prop := W.heap.size ≤ W'.heap.size ∧ ∀ i, O i → W'.heap[i]? = W.heap[i]?
theorem keepO_t {O : Nat → Prop} {A B C : World} (h : KeepO O A B) (k : KeepO O B C) : KeepO O A C := ⟨Nat.le_trans h.1 k.1, fun i hi => (k.2 i hi).trans (h.2 i hi)⟩
theorem keepO_b {O : Nat → Prop} {w : World} (hO : ∀ i, O i → i < w.heap.size) (W : World) (l : Nat) (o o' : Obj) (hl : w.heap.size ≤ l) (_ : W.heap[l]? = some o) (_ : o.isCells = false) (_ : o.isWalk = false) : KeepO O W (W.putObj l o') :=
  ⟨by simp, fun i hi => World.putObj_heap_other (fun e => by have := hO i hi; omega)⟩
theorem keepO_below {O : Nat → Prop} {W W' : World} (hO : ∀ i, O i → i < W.heap.size) (b : Below W.heap.size W W') : KeepO O W W' := ⟨b.size, fun i hi => b.block i (hO i hi)⟩
abbrev encR (x : Rf) : Value := .agg #[.string x.n, .bool x.t, .int .u64 x.i]
def xAt (xs : List Rf) (i : Nat) : Rf := xs.getD i zeroR
abbrev encI (xs : List Rf) (i : Nat) : Value := encR (xAt xs i)
attribute [local go_sem] Oper.semAt_some
set_option maxRecDepth 100000 in
set_option maxHeartbeats 2000000 in
theorem rvals1_in (m : Nat) (hm : 1 ≤ m) (l Bs cap : Nat) (a : Option Addr) (xs : List Rf) (hn : xs.length ≤ 1000000) (U : Nat → Prop) (hUg : ∀ ad, a = some ad → U ad.block) (J Jx : List Nat → World → Prop)
    (hY : ∀ pre i W, J pre W → pre.length < xs.length → YieldAt Fence.wide (m - 1) Try.prog l #[encI xs i] W fun e W' => (e = .returned (.bool true) ∧ J (pre ++ [i]) W' ∧ KeepO U W W') ∨ (e = .returned (.bool false) ∧ Jx (pre ++ [i]) W'))
    (W : World) (hUl : ∀ i, U i → i < W.heap.size) (hJ : AbidesFrom W.heap.size J) (hBs : W.cell? ⟨Bs, 0, none⟩ = some (.slice a xs.length cap)) (hcap : xs.length ≤ cap) (hg : RdG cRf 3 W a xs) (h0 : J [] W) :
    CallsIn Fence.wide m Try.prog 35 #[.func (.yield l) #[] #[], .pointer (some ⟨Bs, 0, none⟩)] W fun e W' => (∃ v, e = .returned v) ∧
      ((∃ ys, ys = List.range xs.length ∧ J ys W') ∨ (∃ pre, (∃ k, k ≤ xs.length ∧ pre = List.range k) ∧ Jx pre W')) := by
  refine callsIn_of_wp Try.func35 rfl trivial ?_ rfl
  simp only [Try.ntmps35, List.size_toArray, List.length_cons, List.length_nil, Nat.reduceAdd, Nat.reduceSub, Array.replicate_succ, Array.replicate_zero, List.push_toArray, List.append_toArray, List.nil_append, List.cons_append]
  obtain ⟨n, hnn⟩ : ∃ n, n = xs.length := ⟨_, rfl⟩
  rw [← hnn] at hBs hcap hn
  have HN := hide hnn
  have HG := hide hg
  have HJA := hide hJ
  have HUL := hide hUl
  clear hnn hg hJ hUl
  gi_wp2
  gi_loopw [7] (fun i wr => ∃ k : Nat, k ≤ n ∧ i = .int .i64 k ∧ Hid (J (List.range k) wr) ∧ Hid (KeepO U W wr)) (fun i _ => n - (intOf i).toNat)
  case atStart => exact ⟨0, Nat.zero_le _, rfl, hide (by simpa using h0), hide ⟨Nat.le_refl _, fun _ _ => rfl⟩⟩
  case round =>
    obtain ⟨k, hk, rfl, HJ, HK⟩ := hrel
    by_cases hlt : k < n
    · have hkx : k < xs.length := by rw [← HN.out]; exact hlt
      obtain ⟨x, hx⟩ : ∃ x, x = xs[k] := ⟨_, rfl⟩
      have hxk : xs[k]? = some x := by rw [hx]; exact List.getElem?_eq_getElem _
      obtain ⟨g, o, rfl, q0', q1', q2'⟩ := rd_rf HG.out hxk
      have hcell : ∀ j v, W.cell? ⟨g, j, none⟩ = some v → wr.cell? ⟨g, j, none⟩ = some v := fun j v h => (World.cell?_of_block (HK.out.2 g (hUg _ rfl))).trans h
      have q0 := hcell _ _ q0'
      have q1 := hcell _ _ q1'
      have q2 := hcell _ _ q2'
      have hlen : (List.range k).length = k := List.length_range
      have bA : Below wr.heap.size wr (wr.alloc (.cells #[.string x.n, .bool x.t, .int .u64 x.i] 32)) := (Below.refl _ _).alloc (Nat.le_refl _) _
      have hJ2 : J (List.range k) (wr.alloc (.cells #[.string x.n, .bool x.t, .int .u64 x.i] 32)) := HJA.out (List.range k) wr _ none HJ.out (grew_below none bA) (fun r e => by cases e)
      have HKA : Hid (KeepO U W (wr.alloc (.cells #[.string x.n, .bool x.t, .int .u64 x.i] 32))) := hide (keepO_t HK.out (keepO_below (fun i hi => Nat.lt_of_lt_of_le (HUL.out i hi) HK.out.1) bA))
      have hxe : xAt xs k = x := by unfold xAt; rw [List.getD_eq_getElem?_getD, hxk]; rfl
      obtain ⟨fn, tmps, assign, body, hy, hRR⟩ := hY _ k _ hJ2 (by rw [hlen]; exact hkx)
      have hsn : List.range k ++ [k] = List.range (k + 1) := List.range_succ.symm
      unfold encI at hy
      rw [hxe] at hy
      rw [hsn] at hRR
      have d1 : decide ((k : Int) < (n : Int)) = true := by simp; omega
      have d2 : decide (k < n) = true := by simp; omega
      clear hlen hsn hx hxk hxe q0' q1' q2' hcell hJ2 bA
      gi_wp2
      refine hRR.mono ?_
      rintro e W3 (⟨rfl, hJ3, hk3⟩ | ⟨rfl, hJx3⟩)
      · have HJ3 := hide hJ3
        have HK3 : Hid (KeepO U W W3) := hide (keepO_t HKA.out hk3)
        clear hJ3 hk3
        gi_wp2
        go_roundw
        case rel => exact ⟨k + 1, by omega, by simp, HJ3, HK3⟩
        case measure => simp [intOf]; omega
      · have HJx3 := hide hJx3
        clear hJx3
        gi_wp2
        refine bodyPost_ret (results_none rfl _ _ _) rfl ?_
        exact ⟨⟨_, rfl⟩, .inr ⟨_, ⟨k + 1, by omega, rfl⟩, HJx3.out⟩⟩
    · obtain rfl : k = n := by omega
      have HJe : Hid (J (List.range xs.length) wr) := by
        have := HJ.out
        rw [HN.out] at this
        exact hide this
      gi_wp2
      go_end0
      exact ⟨⟨_, rfl⟩, .inl ⟨_, rfl, HJe.out⟩⟩
/-- what All hands out tells the refs, as long as a block or two of its own are left alone -/
theorem all_toldI {L : List Rf} (hl : L.length ≤ 40) {w : World} {e : Ending} {w' : World} (h : AlP L w e w') : Below w.heap.size w w' ∧ ∃ gf lb U, e = .returned (.func (.func gf) #[] lb) ∧ (∀ args w, (callFunc gf args).run Try.prog w = .ok (.enter gf args) w) ∧ (∀ i, U i → w.heap.size ≤ i ∧ i < w'.heap.size) ∧
    SeqStopsK Fence.wide 2 Try.prog gf lb (fun i => #[encI L i]) (KeepO U) (fun ys => ys = List.range L.length) (fun pre => ∃ k, k ≤ L.length ∧ pre = List.range k) L.length w' := by
  obtain ⟨a, n, c, Bs, rfl, hn, hBs, ob, row, hb⟩ := h
  obtain ⟨a', c', hv, hrd, hc, hmx, hnil, hat⟩ := rd_gcells (c := cRf) (k := 3) cRf_len row
  injection hv with e1 e2 e3
  subst e1 e2 e3
  have hag : ∀ i, a.map Addr.block = some i → w.heap.size ≤ i ∧ i < w'.heap.size := by
    intro i hi
    cases ha : a with
    | none => rw [ha] at hi; cases hi
    | some ad =>
      obtain ⟨g, rfl, hg⟩ := hat ad ha
      rw [ha] at hi
      simp only [Option.map_some, Option.some.injEq] at hi
      subst hi
      subst ha
      exact ⟨hg, row.1.lt g rfl |>.2⟩
  refine ⟨hb, 35, _, (fun i => a.map Addr.block = some i), rfl, enters_of Try.func35 (by kernel_rfl) rfl, hag, ?_⟩
  intro l J Jx W hW hJ _ hY h0
  exact rvals1_in 2 (by decide) l Bs c a L (by omega) (fun i => a.map Addr.block = some i) (fun ad q => by rw [q]; rfl) J Jx hY W (fun i hi => Nat.lt_of_lt_of_le (hag i hi).2 hW.size) hJ ((ob.old hW).cell 0) hc (hrd.below hW) h0
theorem range_at (L : List Rf) : (List.range L.length).map (xAt L) = L := List.ext_getElem? (fun i => by
  rw [List.getElem?_map]
  by_cases q : i < L.length
  · rw [List.getElem?_range q, List.getElem?_eq_getElem q]
    simp [xAt, List.getD_eq_getElem?_getD, List.getElem?_eq_getElem q]
  · rw [List.getElem?_eq_none (by simp; omega), List.getElem?_eq_none (by omega)]
    rfl)
theorem seq_of_idx {gf : Nat} {lb : Array Value} {Kp : World → World → Prop} {L : List Rf} {w : World} (h : SeqStopsK Fence.wide 2 Try.prog gf lb (fun i => #[encI L i]) Kp (fun ys => ys = List.range L.length) (fun pre => ∃ k, k ≤ L.length ∧ pre = List.range k) L.length w) :
    SeqStopsK Fence.wide 2 Try.prog gf lb (fun x => #[encR x]) Kp (fun ys => ys = L) (fun _ => True) L.length w := by
  intro l J Jx W hW hJ hJx hY h0
  refine (h l (fun pre => J (pre.map (xAt L))) (fun pre => Jx (pre.map (xAt L))) W hW (fun s => hJ (s.map (xAt L))) (fun s => hJx (s.map (xAt L))) (fun pre i W1 q r => ?_) h0).mono ?_
  · have := hY (pre.map (xAt L)) (xAt L i) W1 q (by rw [List.length_map]; exact r)
    rw [List.map_append]
    exact this
  · rintro e W' ⟨hv, ⟨ys, rfl, q⟩ | ⟨pre, _, q⟩⟩
    · exact ⟨hv, .inl ⟨L, rfl, by rw [range_at] at q; exact q⟩⟩
    · exact ⟨hv, .inr ⟨_, trivial, q⟩⟩
theorem all_told {L : List Rf} (hl : L.length ≤ 40) {w : World} {e : Ending} {w' : World} (h : AlP L w e w') : Below w.heap.size w w' ∧ ∃ gf lb U, e = .returned (.func (.func gf) #[] lb) ∧ (∀ args w, (callFunc gf args).run Try.prog w = .ok (.enter gf args) w) ∧ (∀ i, U i → w.heap.size ≤ i ∧ i < w'.heap.size) ∧
    SeqStopsK Fence.wide 2 Try.prog gf lb (fun x => #[encR x]) (KeepO U) (fun ys => ys = L) (fun _ => True) L.length w' := by
  obtain ⟨h1, gf, lb, U, h2, h3, h4, h5⟩ := all_toldI hl h
  exact ⟨h1, gf, lb, U, h2, h3, h4, seq_of_idx h5⟩
end Go.Proofs.Yticofadpbpcejaa
