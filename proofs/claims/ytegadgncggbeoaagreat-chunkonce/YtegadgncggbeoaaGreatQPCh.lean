/- What slices.Chunk hands out over pages: each of them in its order, till a round says no more. Over the translation. -/
import Derived.Test.YtegadgncggbeoaaGreatQPNd
import Derived.Test.YtegadgncggbeoaaGreatQGLo
namespace Go.Proofs.YtegadgncggbeoaaGreat
open Go.RowKit Go.Shelf Apo
attribute [local go_sem] Oper.semAt_some

set_option maxRecDepth 100000 in
set_option maxHeartbeats 2000000 in
theorem chunk1_in (m : Nat) (hm : 1 ≤ m) (l Bs Bn g cap n : Nat) (hn : n ≤ 16384) (U : Nat → Prop) (hUs : U Bs) (hUn : U Bn) (J Jx : List (Fin n) → World → Prop)
    (hJ : ∀ pre W, J pre W → J pre W.drew)
    (hY : ∀ pre (x : Fin n) W, J pre W → pre.length < n → YieldAt Fence.wide (m - 1) Tryz.prog l #[.slice (some ⟨g, 128 * x.1, none⟩) 128 128] W fun e W' =>
      (e = .returned (.bool true) ∧ J (pre ++ [x]) W' ∧ KeepO U W W') ∨ (e = .returned (.bool false) ∧ Jx (pre ++ [x]) W'))
    (W : World) (N : Nat) (hN : N = 128 * n) (hcap : N ≤ cap) (hBs : W.cell? ⟨Bs, 0, none⟩ = some (.slice (some ⟨g, 0, none⟩) N cap)) (hBn : W.cell? ⟨Bn, 0, none⟩ = some (.int .i64 128)) (h0 : J [] W) :
    CallsIn Fence.wide m Tryz.prog 144 #[.func (.yield l) #[] #[], .pointer (some ⟨Bs, 0, none⟩), .pointer (some ⟨Bn, 0, none⟩)] W fun e W' => (∃ v, e = .returned v) ∧
      ((∃ ys, ys = List.finRange n ∧ J ys W') ∨ (∃ pre, (∃ k, k ≤ n ∧ pre = (List.finRange n).take k) ∧ Jx pre W')) := by
  refine callsIn_of_wp Tryz.func144 rfl trivial ?_ rfl
  simp only [Tryz.ntmps144, List.size_toArray, List.length_cons, List.length_nil, Nat.reduceAdd, Nat.reduceSub, Array.replicate_succ, Array.replicate_zero, List.push_toArray, List.append_toArray, List.nil_append, List.cons_append]
  have HN := hide hN
  clear hN
  gi_wp2
  gi_loopw [4] (fun i wr => ∃ k I : Nat, k ≤ n ∧ Hid (I = 128 * k) ∧ i = .int .i64 I ∧ Hid (J ((List.finRange n).take k) wr) ∧ Hid (KeepO U W wr))
    (fun i _ => N - (intOf i).toNat)
  case atStart => exact ⟨0, 0, Nat.zero_le _, hide rfl, rfl, hide (by simpa using h0), hide ⟨Nat.le_refl _, fun _ _ => rfl⟩⟩
  case round =>
    obtain ⟨k, I, hk, HI, rfl, HJ, HK⟩ := hrel
    have p1 : wr.cell? ⟨Bs, 0, none⟩ = some (.slice (some ⟨g, 0, none⟩) N cap) := (World.cell?_of_block (HK.out.2 Bs hUs)).trans hBs
    have p2 : wr.cell? ⟨Bn, 0, none⟩ = some (.int .i64 128) := (World.cell?_of_block (HK.out.2 Bn hUn)).trans hBn
    by_cases hlt : k < n
    · have hlen : ((List.finRange n).take k).length = k := by rw [List.length_take, List.length_finRange]; omega
      obtain ⟨fn, tmps, assign, body, hy, hRR⟩ := hY _ ⟨k, hlt⟩ _ (hJ _ _ HJ.out) (by rw [hlen]; exact hlt)
      have hsn : (List.finRange n).take k ++ [⟨k, hlt⟩] = (List.finRange n).take (k + 1) := by
        rw [List.take_succ_eq_append_getElem (by simpa using hlt)]
        simp
      rw [hsn] at hRR
      have hIN : I + 128 ≤ N := by rw [HI.out, HN.out]; omega
      have hy2 : (Instr.yield l #[.slice (some ⟨g, I, none⟩) 128 128]).run Tryz.prog wr.drew = .ok (.round l fn tmps assign body) wr.drew := by rw [HI.out]; exact hy
      obtain ⟨T, hT⟩ : ∃ T, T = I + 128 := ⟨_, rfl⟩
      have wT : IntKind.i64.wrap ((I : Int) + 128) = (T : Int) := by have := HI.out; rw [IntKind.wrap_i64]; omega
      have t1 : I ≤ T := by omega
      have t2 : T ≤ N := by omega
      have t3 : T ≤ cap := by omega
      have t4 : T - I = 128 := by omega
      have t5 : I < N := by omega
      have t6 : cap ≠ I := by omega
      have t7 : 128 ≤ N - I := by omega
      have t8 : I ≤ 2097152 := by have := HI.out; omega
      have t9 : N ≤ 2097152 := by have := HN.out; omega
      have HT := hide hT
      clear hT hsn hlen hIN hy
      gi_wp2
      gi_region
      gi_wp2
      refine hRR.mono ?_
      rintro e W3 (⟨rfl, hJ3, hk3⟩ | ⟨rfl, hJx3⟩)
      · have p3 : W3.cell? ⟨Bn, 0, none⟩ = some (.int .i64 128) := (World.cell?_of_block (hk3.2 Bn hUn)).trans p2
        have HJ3 := hide hJ3
        have HK3 : Hid (KeepO U W W3) := hide (keepO_t HK.out (keepO_t (⟨Nat.le_refl _, fun _ _ => rfl⟩ : KeepO U wr wr.drew) hk3))
        clear hJ3 hk3
        gi_wp2
        go_roundw
        case rel => exact ⟨k + 1, T, by omega, hide (by rw [HT.out, HI.out]; omega), rfl, HJ3, HK3⟩
        case measure => simp [intOf]; omega
      · have HJx3 := hide hJx3
        clear hJx3
        gi_wp2
        refine bodyPost_ret (results_none rfl _ _ _) rfl ?_
        exact ⟨⟨_, rfl⟩, .inr ⟨_, ⟨k + 1, by omega, rfl⟩, HJx3.out⟩⟩
    · obtain rfl : k = n := by omega
      have hIN : I = N := by rw [HI.out, HN.out]
      subst hIN
      have HJe : Hid (J (List.finRange k) wr) := by
        have := HJ.out
        rw [List.take_of_length_le (by simp)] at this
        exact hide this
      gi_wp2
      go_end0
      exact ⟨⟨_, rfl⟩, .inl ⟨_, rfl, HJe.out⟩⟩

theorem chunk_stops {w : World} {Bs Bn g cap n N : Nat} (hn : n ≤ 16384) (hN : N = 128 * n) (hcap : N ≤ cap) (hBs : Ob w Bs 34 [.slice (some ⟨g, 0, none⟩) N cap]) (hBn : Ob w Bn 3 [.int .i64 128]) :
    SeqStopsK Fence.wide 2 Tryz.prog 144 #[.pointer (some ⟨Bs, 0, none⟩), .pointer (some ⟨Bn, 0, none⟩)] (fun x : Fin n => #[Value.slice (some ⟨g, 128 * x.1, none⟩) 128 128]) (KeepO (fun i => i = Bs ∨ i = Bn)) (fun ys => ys = List.finRange n) (fun pre => ∃ k, k ≤ n ∧ pre = (List.finRange n).take k) n w := by
  intro l J Jx W hW hAJ _ hY h0
  have hJ : ∀ pre W, J pre W → J pre W.drew := fun pre A h => hAJ pre A _ none h (grew_below none ((Below.refl _ A).drew)) (fun r e => by cases e)
  exact chunk1_in 2 (by decide) l Bs Bn g cap n hn _ (.inl rfl) (.inr rfl) J Jx hJ hY W N hN hcap ((hBs.old hW).cell 0) ((hBn.old hW).cell 0) h0
set_option maxRecDepth 100000 in
set_option maxHeartbeats 1000000 in
/-- slices.Chunk(s, 128): both are boxed, the function value captures the boxes -/
theorem chunk_in (m : Nat) (a : Option Addr) (len cap : Nat) (w : World) :
    CallsIn Fence.wide m Tryz.prog 123 #[.slice a len cap, .int .i64 128] w fun e w' => e = .returned (.func (.func 144) #[] #[.pointer (some ⟨w.heap.size, 0, none⟩), .pointer (some ⟨w.heap.size + 1, 0, none⟩)]) ∧ w' = (w.alloc (.cells #[.slice a len cap] 34)).alloc (.cells #[.int .i64 128] 3) := by
  refine callsIn_of_wp Tryz.func123 rfl trivial ?_ rfl
  simp only [Tryz.ntmps123, List.size_toArray, List.length_cons, List.length_nil, Nat.reduceAdd, Nat.reduceSub, Array.replicate_succ, Array.replicate_zero, List.push_toArray, List.append_toArray, List.nil_append, List.cons_append]
  gi_wp2
  go_ret
  exact ⟨rfl, rfl⟩
theorem enter_chunk1 : ∀ args w, (callFunc 144 args).run Tryz.prog w = .ok (.enter 144 args) w := fun _ _ => by kernel_rfl
end Go.Proofs.YtegadgncggbeoaaGreat
