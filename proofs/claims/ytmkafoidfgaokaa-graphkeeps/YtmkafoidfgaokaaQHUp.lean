/- container/heap's up and down, at a queue of commits. Over the translation. -/
import Derived.Test.YtmkafoidfgaokaaQL1
namespace Go.Proofs.Ytmkafoidfgaokaa
open Go.RowKit Apo
variable {uv : Value × Value}
def zCmA : CmA := ⟨⟨0, [], 0, 0, ByteArray.empty⟩, none, 0⟩
def fq (d : List CmA) : Nat → CmA := Hp.fn d zCmA
theorem fq_at {d : List CmA} {i : Nat} (h : i < d.length) : d[i]? = some (fq d i) := by
  unfold fq Hp.fn
  rw [List.getD_eq_getElem?_getD, List.getElem?_eq_getElem h]
  rfl
theorem onl_drewN (O : Nat → Prop) (w : World) (q : Nat) : Onl O w (w.drewN q) := Onl.ofBelow (below_drewN (Below.refl _ _) q)
/-- a queue at p: its row at g -/
structure Qu (w : World) (p : Nat) (uv : Value × Value) (g n cap : Nat) (d : List CmA) (ex : List Value) : Prop where
  ob : Ob w p 78 [uv.1, uv.2, .slice (some ⟨g, 0, none⟩) n cap]
  ro : RoC w g d ex
  n : n = d.length
  ne : p ≠ g
theorem Qu.old {w w' : World} {p g n cap : Nat} {d : List CmA} {ex : List Value} (h : Qu w p uv g n cap d ex) (b : Below w.heap.size w w') : Qu w' p uv g n cap d ex :=
  { h with ob := h.ob.old b, ro := h.ro.old b }
theorem Qu.drewN {w : World} {p g n cap : Nat} {d : List CmA} {ex : List Value} (h : Qu w p uv g n cap d ex) (q : Nat) : Qu (w.drewN q) p uv g n cap d ex := h.old (below_drewN (Below.refl _ _) q)
theorem Qu.swp {w w' : World} {p g n cap : Nat} {d d' : List CmA} {ex : List Value} (h : Qu w p uv g n cap d ex) (r : RoC w' g d' ex) (o : Onl (fun k => k = g) w w') (hl : d'.length = d.length) : Qu w' p uv g n cap d' ex :=
  { h with ob := h.ob.onl o h.ne, ro := r, n := by rw [h.n, hl] }
set_option maxRecDepth 100000 in
theorem info_pq (w : World) : (typeInfo 88).run Try.prog w = .ok Try.t88 w := by kernel_rfl
theorem wrapok (w : World) (t : TypeId) (a : Addr) (s : String) : (Builtin.ssaWrapNilChk_ #[t] t #[.pointer (some a), strVal "", strVal s]).run Try.prog w = .ok (.pointer (some a)) w := rfl
set_option maxRecDepth 100000 in
theorem recv_q (w : World) (a : Addr) (s : String) : (receiverAt 88 (.val (.pointer (some a))) false (some s)).run Try.prog w = (loadVar 76 a).run Try.prog w := by kernel_rfl
set_option maxRecDepth 100000 in
set_option maxHeartbeats 4000000 in
/-- a method on the value, found through a pointer -/
theorem meth_val {w : World} {p : Nat} {a : Option Addr} {n c : Nat} (h : w.cell? ⟨p, 2, none⟩ = some (.slice a n c)) (s : String) (f : Nat) (hm : ((Try.t88.methods.find? (·.name == s)).map (fun m => (m.path.toList.length, m.func))) = some (0, some (f, false))) (k : Nat) : (method (k + 1) 88 (.pointer (some ⟨p, 2, none⟩)) s).run Try.prog w = .ok (f, .slice a n c) w := by
  cases hq : Try.t88.methods.find? (·.name == s) with
  | none => rw [hq] at hm; cases hm
  | some m =>
    rw [hq] at hm
    simp only [Option.map_some, Option.some.injEq, Prod.mk.injEq] at hm
    obtain ⟨h1, h2⟩ := hm
    have h3 : m.path.toList = [] := List.eq_nil_of_length_eq_zero h1
    have h4 : m.path.isEmpty = true := by
      rw [← Array.isEmpty_toList, h3]; rfl
    unfold method
    simp only [Sem.run_bind, info_pq, Result.andThen, hq, h2, h3, h4, follow, if_true]
    have e1 := recv_q w ⟨p, 2, none⟩ ((s.splitOn ".").getLastD s)
    have e2 : (loadVar 76 ⟨p, 2, none⟩).run Try.prog w = .ok (.slice a n c) w := by simp [go_sem, h]
    simp only [Sem.run_pure]
    rw [e1, e2]
set_option maxRecDepth 100000 in
theorem meth_less {w : World} {p : Nat} {a : Option Addr} {n c : Nat} (h : w.cell? ⟨p, 2, none⟩ = some (.slice a n c)) (k : Nat) : (method (k + 1) 88 (.pointer (some ⟨p, 2, none⟩)) "Less").run Try.prog w = .ok (106, .slice a n c) w := meth_val h "Less" _ (by kernel_rfl) k
set_option maxRecDepth 100000 in
theorem meth_swap {w : World} {p : Nat} {a : Option Addr} {n c : Nat} (h : w.cell? ⟨p, 2, none⟩ = some (.slice a n c)) (k : Nat) : (method (k + 1) 88 (.pointer (some ⟨p, 2, none⟩)) "Swap").run Try.prog w = .ok (107, .slice a n c) w := meth_val h "Swap" _ (by kernel_rfl) k
set_option maxRecDepth 100000 in
theorem meth_len {w : World} {p : Nat} {a : Option Addr} {n c : Nat} (h : w.cell? ⟨p, 2, none⟩ = some (.slice a n c)) (k : Nat) : (method (k + 1) 88 (.pointer (some ⟨p, 2, none⟩)) "Len").run Try.prog w = .ok (105, .slice a n c) w := meth_val h "Len" _ (by kernel_rfl) k
set_option maxRecDepth 100000 in
theorem meth_push (w : World) (v : Value) (k : Nat) : (method (k + 1) 88 v "Push").run Try.prog w = .ok (109, v) w := by kernel_rfl
set_option maxRecDepth 100000 in
theorem meth_pop (w : World) (v : Value) (k : Nat) : (method (k + 1) 88 v "Pop").run Try.prog w = .ok (108, v) w := by kernel_rfl
set_option maxRecDepth 100000 in
set_option maxHeartbeats 4000000 in
theorem up_q {w : World} {p g n cap : Nat} {d : List CmA} {ex : List Value} (h : Qu w p uv g n cap d ex) (hn : n ≤ 1000000) {j : Nat} (hu : Hp.UpInv ltQ (fq d) n j) :
    Calls Try.prog 66 #[.iface 88 (.pointer (some ⟨p, 2, none⟩)), .int .i64 j] w fun e w' => e = .returned (.tuple #[]) ∧ ∃ d', Qu w' p uv g n cap d' ex ∧ d'.Perm d ∧ Hp.HeapFrom ltQ (fq d') n 0 ∧ Onl (fun k => k = g) w w' := by
  have HQ := hide h
  have HU := hide hu
  have hj : j < n := hu.1
  clear h hu
  go_enter Try.func66, Try.ntmps66
  go_wp2
  go_loopw [1] (fun v wr => ∃ (j : Nat) (d' : List CmA), v = .int .i64 j ∧ j < n ∧ Hid (Qu wr p uv g n cap d' ex) ∧ Hid (d'.Perm d) ∧ Hid (Hp.UpInv ltQ (fq d') n j) ∧ Hid (Onl (fun k => k = g) w wr)) (fun v _ => (intOf v).toNat)
  case atStart => exact ⟨j, d, rfl, hj, HQ, hide (List.Perm.refl _), HU, hide (Onl.refl _ _)⟩
  case round =>
    clear hj
    obtain ⟨j, d', rfl, hj, HQ, HP, HU, HO⟩ := hrel
    have x0 := HQ.out.ob.cell 2
    simp only [List.getElem?_cons_succ, List.getElem?_cons_zero] at x0
    by_cases h0 : j = 0
    · subst h0
      have HF : Hid (Hp.HeapFrom ltQ (fq d') n 0) := hide (Hp.up_stop HU.out (.inl rfl))
      have w0 : IntKind.i64.wrap (((0 : Nat) : Int) - 1) = -1 := by rw [IntKind.wrap_i64]; omega
      clear HU
      go_wp2
      go_end0
      exact ⟨rfl, d', HQ.out, HP.out, HF.out, HO.out⟩
    · obtain ⟨i, hi⟩ : ∃ i, i = Hp.par j := ⟨_, rfl⟩
      have hij : i < j := by rw [hi]; exact Hp.par_lt (Nat.pos_of_ne_zero h0)
      have w1 : IntKind.i64.wrap ((j : Int) - 1) = ((j - 1 : Nat) : Int) := by rw [IntKind.wrap_i64]; omega
      have hm := meth_less x0
      have w2 : (((j - 1 : Nat) : Int) / 2) = (i : Int) := by unfold Hp.par at hi; omega
      have w3 : ((i : Int) == (j : Int)) = false := by rw [beq_eq_false_iff_ne]; omega
      have ej := fq_at (d := d') (i := j) (by have := HQ.out.n; omega)
      have ei := fq_at (d := d') (i := i) (by have := HQ.out.n; omega)
      have HCL := hide (less_q HQ.out.ro n cap HQ.out.n ej ei)
      cases hl : ltQ (fq d' j) (fq d' i) with
      | false =>
        have HF : Hid (Hp.HeapFrom ltQ (fq d') n 0) := hide (Hp.up_stop HU.out (.inr (by rw [← hi]; exact hl)))
        rw [hl] at HCL
        clear HU hi ei ej hl
        go_wp2_with fail
        refine HCL.out.mono ?_
        rintro e w2 ⟨rfl, q, rfl⟩
        have HQ2 := hide (HQ.out.drewN q)
        have HO2 := hide (HO.out.trans (onl_drewN (fun k => k = g) wr q))
        generalize wr.drewN q = W2 at HQ2 HO2 ⊢
        go_wp2
        go_end0
        exact ⟨rfl, d', HQ2.out, HP.out, HF.out, HO2.out⟩
      | true =>
        have HU2 : Hid (Hp.UpInv ltQ (fq (Hp.swL d' i j)) n i) := hide (by
          have h1 := Hp.up_step ltQ_ord HU.out (Nat.pos_of_ne_zero h0) (by rw [← hi]; exact hl)
          rw [← hi] at h1
          unfold fq
          rw [Hp.swL_fn (by have := HQ.out.n; omega) (by have := HQ.out.n; omega)]
          exact h1)
        have HP2 : Hid ((Hp.swL d' i j).Perm d) := hide ((Hp.swL_perm _ _ _).trans HP.out)
        rw [hl] at HCL
        clear HU hi ei ej hl
        go_wp2_with fail
        refine HCL.out.mono ?_
        rintro e w2 ⟨rfl, q, rfl⟩
        have HQ2 := hide (HQ.out.drewN q)
        have HO2 := hide (HO.out.trans (onl_drewN (fun k => k = g) wr q))
        generalize wr.drewN q = W2 at HQ2 HO2 ⊢
        have y0 := HQ2.out.ob.cell 2
        simp only [List.getElem?_cons_succ, List.getElem?_cons_zero] at y0
        have hs := meth_swap y0
        have HCS := hide (swap_q HQ2.out.ro n cap HQ2.out.n (i := i) (j := j) (by omega) hj)
        clear x0 hm
        go_wp2_with fail
        refine HCS.out.mono ?_
        rintro e w3 ⟨rfl, ro, on⟩
        have HQ3 := hide (HQ2.out.swp ro on (Hp.swL_len _ _ _))
        have HO3 := hide (HO2.out.trans on)
        clear ro on y0 hs
        go_wp2
        go_roundw
        case rel => exact ⟨i, _, rfl, by omega, HQ3, HP2, HU2, HO3⟩
        case measure => simp [intOf]; omega
end Go.Proofs.Ytmkafoidfgaokaa
