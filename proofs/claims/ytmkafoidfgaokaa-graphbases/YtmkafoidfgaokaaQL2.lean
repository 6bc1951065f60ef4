/- A queue of commits, be it empty or not: rows and blocks. Over the translation. A queue of commits: Pop, and container/heap's Push and Pop. Over the translation. -/
import Derived.Test.YtmkafoidfgaokaaQHDn
namespace Go.Proofs.Ytmkafoidfgaokaa
open Go.RowKit Apo
variable {uv : Value × Value}
/-- a queue at p, all its blocks of O -/
structure Qe (w : World) (p : Nat) (uv : Value × Value) (O : Nat → Prop) (d : List CmA) : Prop where
  lo : O p
  lt : ∀ k, O k → k < w.heap.size
  mem : ∃ a n c, n = d.length ∧ Ob w p 78 [uv.1, uv.2, .slice a n c] ∧ Row (fun g => O g ∧ g ≠ p) w 32 5 (.slice a n c) d.length (gcells cCm d)
theorem row_ro {O : Nat → Prop} {w : World} {a : Option Addr} {n c : Nat} {d : List CmA} (h : Row O w 32 5 (.slice a n c) d.length (gcells cCm d)) (h0 : 0 < d.length) : ∃ g ex, a = some ⟨g, 0, none⟩ ∧ RoC w g d ex ∧ O g ∧ (gcells cCm d ++ ex).length = c * 5 ∧ n = d.length ∧ n ≤ c ∧ c ≤ maxLen := by
  rcases h.1.2 with ⟨_, hz⟩ | ⟨g, cap, cur, hv, _, hb, hnc, hcm, hs, ht⟩
  · omega
  · injection hv with e1 e2 e3
    subst e1 e2 e3
    have hcur : cur.toList = gcells cCm d ++ cur.toList.drop (d.length * 5) := by
      rw [← ht, List.take_append_drop]
    refine ⟨g, cur.toList.drop (d.length * 5), rfl, ?_, h.2 g rfl, ?_, rfl, hnc, hcm⟩
    · unfold RoC Ob
      rw [← hcur]
      exact hb
    · rw [← hcur]
      simpa using hs
theorem ro_row {O : Nat → Prop} {w : World} {g n c : Nat} {d : List CmA} {ex : List Value} (h : RoC w g d ex) (hO : O g) (hn : n = d.length) (hc : n ≤ c) (hm : c ≤ maxLen) (hx : (gcells cCm d ++ ex).length = c * 5) : Row O w 32 5 (.slice (some ⟨g, 0, none⟩) n c) d.length (gcells cCm d) := by
  subst hn
  refine ⟨⟨gcells_len cCm_len d, .inr ⟨g, c, _, rfl, Nat.zero_le _, h, hc, hm, by simpa using hx, ?_⟩⟩, fun k hk => ?_⟩
  · rw [List.take_append_of_le_length (by rw [gcells_len cCm_len]; exact Nat.le_refl _), List.take_of_length_le (by rw [gcells_len cCm_len]; exact Nat.le_refl _)]
  · simp only [Value.ownBlock, Option.some.injEq] at hk
    subst hk
    exact hO
/-- with something in it -/
theorem Qe.qu {w : World} {p : Nat} {O : Nat → Prop} {d : List CmA} (h : Qe w p uv O d) (h0 : 0 < d.length) : ∃ g n c ex, Qu w p uv g n c d ex ∧ O g ∧ (gcells cCm d ++ ex).length = c * 5 ∧ n = d.length ∧ n ≤ c ∧ c ≤ maxLen := by
  obtain ⟨a, n, c, hn, ob, row⟩ := h.mem
  obtain ⟨g, ex, rfl, ro, hg, hx, _, hc, hm⟩ := row_ro row h0
  exact ⟨g, n, c, ex, ⟨ob, ro, hn, fun e => hg.2 e.symm⟩, hg.1, hx, hn, hc, hm⟩
theorem Qu.qe {w : World} {p g n c : Nat} {O : Nat → Prop} {d : List CmA} {ex : List Value} (h : Qu w p uv g n c d ex) (hp : O p) (hlt : ∀ k, O k → k < w.heap.size) (hg : O g) (hx : (gcells cCm d ++ ex).length = c * 5) (hc : n ≤ c) (hm : c ≤ maxLen) : Qe w p uv O d :=
  ⟨hp, hlt, _, n, c, h.n, h.ob, ro_row h.ro ⟨hg, fun e => h.ne e.symm⟩ h.n hc hm hx⟩
theorem Qe.old {w w' : World} {p : Nat} {O : Nat → Prop} {d : List CmA} (h : Qe w p uv O d) (b : Below w.heap.size w w') : Qe w' p uv O d := by
  obtain ⟨a, n, c, hn, ob, row⟩ := h.mem
  exact ⟨h.lo, fun k hk => Nat.lt_of_lt_of_le (h.lt k hk) b.size, a, n, c, hn, ob.old b, row.onl (F := fun _ => False) (Onl.ofBelow b) (fun _ _ q => q)⟩
/-- one less, from a row's end -/
theorem RoC.less {w : World} {g : Nat} {d : List CmA} {x : CmA} {ex : List Value} (h : RoC w g (d ++ [x]) ex) : RoC w g d (cCm x ++ ex) := by
  unfold RoC at h ⊢
  have : gcells cCm (d ++ [x]) = gcells cCm d ++ cCm x := by simp [gcells]
  rw [this, List.append_assoc] at h
  exact h
theorem app_q {O : Nat → Prop} {W : World} {v : Value} {l xs : List CmA} {y : Addr} {cp : Nat} (h : Row O W 32 5 v l.length (gcells cCm l)) (hn : l.length + xs.length ≤ 100000000) (hr : RdG cCm 5 W (some y) xs) :
    ∃ v' w', (Builtin.append_ #[76, 76] 76 #[v, .slice (some y) xs.length cp]).run Try.prog W = .ok v' w' ∧ Row (fun g => O g ∨ g = W.heap.size) w' 32 5 v' (l ++ xs).length (gcells cCm (l ++ xs)) ∧ Onl (fun g => v.ownBlock = some g) W w' ∧ ∀ g, v'.ownBlock = some g → v.ownBlock = some g ∨ g = W.heap.size :=
  app_G cCm_len (by decide) cCm_one Try.underlying76 info_cm (by rfl) (by decide) h hn hr
set_option maxRecDepth 100000 in
theorem ta_cm (v : Value) (w : World) : (Instr.typeAssert (.iface 32 v) 20 32 true).run Try.prog w = .ok (.tuple #[v, .bool true]) w := by kernel_rfl
attribute [local go_sem ↓] Apo.app_exec
set_option maxRecDepth 100000 in
set_option maxHeartbeats 4000000 in
/-- the queue's own Push -/
theorem qpush {w : World} {p : Nat} {O : Nat → Prop} {d : List CmA} (h : Qe w p uv O d) (hl : d.length ≤ 1000000) (x : CmA) :
    Calls Try.prog 109 #[.pointer (some ⟨p, 2, none⟩), .iface 32 (aggC x)] w fun e w' => e = .returned (.tuple #[]) ∧ Qe w' p uv (Gro O w w') (d ++ [x]) ∧ Onl O w w' := by
  obtain ⟨W0, hW0⟩ : ∃ W0, W0 = w.alloc (.cells #[.int .u64 x.c.id, .slice x.a x.c.ps.length x.cap, .int .u64 x.c.gen, .int .u64 x.c.root, .string x.c.tx] 32) := ⟨_, rfl⟩
  have b0 : Below w.heap.size w W0 := by rw [hW0]; exact (Below.refl _ w).alloc (Nat.le_refl _) _
  have s0 : W0.heap.size = w.heap.size + 1 := by rw [hW0]; simp
  obtain ⟨a, n, c, hn, ob, row⟩ := (h.old b0).mem
  obtain ⟨A, hA⟩ : ∃ A, A = (W0.alloc (.cells #[.int .u64 x.c.id, .slice x.a x.c.ps.length x.cap, .int .u64 x.c.gen, .int .u64 x.c.root, .string x.c.tx] 32)).drew := ⟨_, rfl⟩
  have oA : Onl (fun _ => False) W0 A := by rw [hA]; exact ((Onl.refl _ W0).alloc _).drew
  have rA : RdG cCm 5 A (some ⟨W0.heap.size, 0, none⟩) [x] := by
    rw [hA]
    exact (rd_lit (c := cCm) (k := 5) 32 W0 x).onl (O := fun _ => False) ((Onl.refl _ _).drew) (fun _ _ q => q)
  obtain ⟨v5, w5, R5, r5, o5, _⟩ := app_q (cp := 1) (row.onl oA (fun _ _ q => q)) (by simp; omega) rA
  obtain ⟨a5, c5, hv, hn5, hc5, hz5, hO5⟩ := r5.form
  subst hv
  simp only [List.length_singleton] at R5
  rw [s0] at R5
  obtain ⟨z1, z2, z3⟩ := app_runs R5
  have sA : A.heap.size = w.heap.size + 2 := by rw [hA]; simp [s0]
  have hpl := ob.lt
  have hplw := (h.mem.choose_spec.choose_spec.choose_spec.2.1).lt
  have o6 := (oA.mono (O' := fun g => (Value.slice a n c).ownBlock = some g) (fun _ q => q.elim)).trans o5
  have ob5 := ob.onl o6 (fun e => (row.2 p e).2 rfl)
  have HOB := hide (ob5.set 2 (.slice a5 (d ++ [x]).length c5))
  have o7 : Onl (fun i => i = p) w5 (w5.setCell ⟨p, 2, none⟩ (.slice a5 (d ++ [x]).length c5)) := (Onl.refl (fun i => i = p) w5).set (p := p) (.inl rfl) _
  have hsw : w5.heap.size ≤ (w5.setCell ⟨p, 2, none⟩ (.slice a5 (d ++ [x]).length c5)).heap.size := o7.size
  have hs5 := o5.size
  have r5' : Row (fun g => (O g ∧ g ≠ p ∨ g = A.heap.size) ∧ g < w5.heap.size) w5 32 5 (.slice a5 (d ++ [x]).length c5) (d ++ [x]).length (gcells cCm (d ++ [x])) := ⟨r5.1, fun g hg => ⟨r5.2 g hg, r5.lt g hg⟩⟩
  have r6 := (r5'.mono (O' := fun g => Gro O w (w5.setCell ⟨p, 2, none⟩ (.slice a5 (d ++ [x]).length c5)) g ∧ g ≠ p) (fun g hg => ⟨hg.1.elim (fun q => .inl q.1) (fun q => .inr ⟨by omega, by omega⟩), hg.1.elim (fun q => q.2) (fun q => by omega)⟩)).onl o7 (fun g hg e => ((r5.2 g hg).elim (fun q => q.2 e) (fun q => by omega)))
  have HQ : Hid (Qe (w5.setCell ⟨p, 2, none⟩ (.slice a5 (d ++ [x]).length c5)) p uv (Gro O w (w5.setCell ⟨p, 2, none⟩ (.slice a5 (d ++ [x]).length c5))) (d ++ [x])) := hide ⟨.inl h.lo, Gro.lt h.lt (by omega), a5, _, c5, rfl, HOB.out, r6⟩
  have HO : Hid (Onl O w (w5.setCell ⟨p, 2, none⟩ (.slice a5 (d ++ [x]).length c5))) := hide ((Onl.ofBelow b0).trans ((o6.mono (fun g hg => (row.2 g hg).1)).trans (o7.mono (fun i e => by rw [e]; exact h.lo))))
  have x0 := ob.cell 2
  simp only [List.getElem?_cons_succ, List.getElem?_cons_zero] at x0
  have x5 := ob5.cell 2
  have f5 := ob5.frozen 2
  simp only [List.getElem?_cons_succ, List.getElem?_cons_zero] at x5
  have hpn : ¬ p = w.heap.size := by omega
  have hpn1 : ¬ p = w.heap.size + 1 := by omega
  generalize (d ++ [x]).length = n5 at *
  rw [hA] at z1 z2 z3
  rw [hW0] at z1 z2 z3 x0
  unfold aggC
  have hta := fun v W => ta_cm v W
  clear ob row R5 h o5 r5 r5' hsw hs5 hn oA rA hA ob5 o6 o7 r6 hn5 hO5 hpl hW0 b0 s0
  go_enter Try.func109, Try.ntmps109
  go_wp2
  go_region
  go_wp2
  go_end0
  exact ⟨rfl, HQ.out, HO.out⟩
end Go.Proofs.Ytmkafoidfgaokaa
namespace Go.Proofs.Ytmkafoidfgaokaa
open Go.RowKit Apo
variable {uv : Value × Value}
set_option maxRecDepth 100000 in
set_option maxHeartbeats 4000000 in
/-- the queue's own Pop -/
theorem qpop {w : World} {p : Nat} {O : Nat → Prop} {d : List CmA} {x : CmA} (h : Qe w p uv O (d ++ [x])) (hl : d.length ≤ 1000000) :
    Calls Try.prog 108 #[.pointer (some ⟨p, 2, none⟩)] w fun e w' => e = .returned (.iface 32 (aggC x)) ∧ Qe w' p uv (Gro O w w') d ∧ Onl O w w' := by
  obtain ⟨g, n, c, ex, hq, hBg, hx, hn, hc, hm⟩ := h.qu (by simp)
  obtain ⟨ln, hln⟩ : ∃ ln, ln = d.length := ⟨_, rfl⟩
  obtain rfl : n = ln + 1 := by rw [hn, hln]; simp
  have hpl := hq.ob.lt
  have hgl := hq.ro.lt
  obtain ⟨a0, a1, a2, a3, a4⟩ := hq.ro.cells (i := ln) (x := x) (by rw [hln]; simp)
  have x0 := hq.ob.cell 2
  simp only [List.getElem?_cons_succ, List.getElem?_cons_zero] at x0
  have f0 := hq.ob.frozen 2
  have HLN := hide hln
  have hnp : ¬ p = w.heap.size := by omega
  have hnp2 : ¬ w.heap.size = p := by omega
  have hcl : ln ≤ c := by omega
  have hlb : ln ≤ 1000000 := by omega
  have hmb : c ≤ 9223372036854775807 := by unfold maxLen at hm; omega
  unfold aggC
  have HQ := hide hq
  have HX := hide hx
  have h0 := h.lo
  have HLT := hide h.lt
  clear h hq hln hn hx
  go_enter Try.func108, Try.ntmps108
  go_wp2
  have o1 : Onl (fun i => i = p) w (w.setCell ⟨p, 2, none⟩ (.slice (some ⟨g, 0, none⟩) ln c)) := (Onl.refl (fun i => i = p) w).set (p := p) (.inl rfl) _
  have bA : Below (w.setCell ⟨p, 2, none⟩ (.slice (some ⟨g, 0, none⟩) ln c)).heap.size (w.setCell ⟨p, 2, none⟩ (.slice (some ⟨g, 0, none⟩) ln c)) ((w.setCell ⟨p, 2, none⟩ (.slice (some ⟨g, 0, none⟩) ln c)).alloc (.cells #[.int .u64 x.c.id, .slice x.a x.c.ps.length x.cap, .int .u64 x.c.gen, .int .u64 x.c.root, .string x.c.tx] 32)) := (Below.refl _ _).alloc (Nat.le_refl _) _
  have ro1 : RoC (w.setCell ⟨p, 2, none⟩ (.slice (some ⟨g, 0, none⟩) ln c)) g d (cCm x ++ ex) := RoC.less (Ob.onl HQ.out.ro o1 (fun e => HQ.out.ne e.symm))
  have q1 : Qu (w.setCell ⟨p, 2, none⟩ (.slice (some ⟨g, 0, none⟩) ln c)) p uv g ln c d (cCm x ++ ex) := ⟨HQ.out.ob.set 2 _, ro1, HLN.out, HQ.out.ne⟩
  have HF := hide ((q1.old bA).qe (O := Gro O w ((w.setCell ⟨p, 2, none⟩ (.slice (some ⟨g, 0, none⟩) ln c)).alloc (.cells #[.int .u64 x.c.id, .slice x.a x.c.ps.length x.cap, .int .u64 x.c.gen, .int .u64 x.c.root, .string x.c.tx] 32))) (.inl h0) (Gro.lt HLT.out (Nat.le_trans o1.size bA.size)) (.inl hBg) (by have := HX.out; simp only [gcells, List.flatMap_append, List.length_append, List.flatMap_cons, List.flatMap_nil, List.append_nil] at this ⊢; omega) hcl hm)
  have HO := hide ((o1.mono (O' := O) (fun i e => by rw [e]; exact h0)).trans (Onl.ofBelow bA))
  clear o1 bA ro1 q1
  go_ret
  exact ⟨rfl, HF.out, HO.out⟩
theorem len_q (w : World) (a : Option Addr) (n c : Nat) : Calls Try.prog 105 #[.slice a n c] w fun e w' => e = .returned (.int .i64 n) ∧ w' = w := by
  go_enter Try.func105, Try.ntmps105
  go_wp2
  go_ret
  exact ⟨rfl, rfl⟩
set_option maxRecDepth 100000 in
set_option maxHeartbeats 4000000 in
/-- container/heap's Push -/
theorem hpush {w : World} {p : Nat} {O : Nat → Prop} {d : List CmA} (h : Qe w p uv O d) (hl : d.length < 1000000) (hh : Hp.HeapFrom ltQ (fq d) d.length 0) (x : CmA) :
    Calls Try.prog 56 #[.iface 88 (.pointer (some ⟨p, 2, none⟩)), .iface 32 (aggC x)] w fun e w' => e = .returned (.tuple #[]) ∧ ∃ d', Qe w' p uv (Gro O w w') d' ∧ d'.Perm (d ++ [x]) ∧ Hp.HeapFrom ltQ (fq d') d'.length 0 ∧ Onl O w w' := by
  have HC := hide (qpush h (by omega) x)
  have hm := fun k => meth_push w (.pointer (some ⟨p, 2, none⟩)) k
  have HH := hide hh
  clear h hh
  go_enter Try.func56, Try.ntmps56
  go_wp2_with fail
  refine HC.out.mono ?_
  rintro e w1 ⟨rfl, h1, o1⟩
  obtain ⟨g, n, c, ex, hq, hBg, hx, hn, hc, hcm⟩ := h1.qu (by simp)
  have x0 := hq.ob.cell 2
  simp only [List.getElem?_cons_succ, List.getElem?_cons_zero] at x0
  have hm2 := meth_len x0
  obtain ⟨ln, hln⟩ : ∃ ln, ln = d.length := ⟨_, rfl⟩
  obtain rfl : n = ln + 1 := by rw [hn, hln]; simp
  have hu : Hp.UpInv ltQ (fq (d ++ [x])) (ln + 1) ln := by
    have := Hp.up_start (y := x) HH.out
    have e : fq (d ++ [x]) = fun k => if k = d.length then x else fq d k := by
      funext k
      unfold fq Hp.fn
      simp only [List.getD_eq_getElem?_getD]
      by_cases q : k = d.length
      · subst q; simp
      · rw [if_neg q]
        by_cases r : k < d.length
        · rw [List.getElem?_append_left r]
        · rw [List.getElem?_eq_none (by simp; omega), List.getElem?_eq_none (by omega)]
    rw [e, hln]
    exact this
  have HU := hide (up_q hq (by omega) hu)
  have w0 : IntKind.i64.wrap (((ln + 1 : Nat) : Int) - 1) = (ln : Int) := by rw [IntKind.wrap_i64]; omega
  have hlb : ln < 1000000 := by omega
  have HO1 := hide o1
  have h0 := h1.lo
  have HLT1 := hide h1.lt
  have HX := hide hx
  have HN := hide hn
  clear hm h1 o1 hq hx hn hu HH HC hln
  go_wp2_with fail
  refine (len_q _ _ _ _).mono ?_
  rintro e w1b ⟨rfl, rfl⟩
  go_wp2_with fail
  refine HU.out.mono ?_
  rintro e w2 ⟨rfl, d', hq2, hp, hf, o2⟩
  have hl2 := hp.length_eq
  have hgro : ∀ k, Gro O w w1b k → Gro O w w2 k := fun k hk => hk.elim .inl (fun q => .inr ⟨q.1, Nat.lt_of_lt_of_le q.2 o2.size⟩)
  have HF := hide (hq2.qe (O := Gro O w w2) (hgro _ h0) (fun k hk => hk.elim (fun q => Nat.lt_of_lt_of_le (HLT1.out k (.inl q)) o2.size) (fun q => q.2)) (hgro _ hBg) (by have := HX.out; rw [List.length_append, gcells_len cCm_len] at this ⊢; rw [hl2]; exact this) hc hcm)
  have HR : Hid (d'.Perm (d ++ [x]) ∧ Hp.HeapFrom ltQ (fq d') d'.length 0 ∧ Onl O w w2) := hide ⟨hp, by rw [hl2, ← HN.out]; exact hf, HO1.out.more o2 (fun i e => by rw [e]; exact hBg.elim .inl (fun q => .inr q.1))⟩
  clear hq2 hp hf o2 hl2 x0 hm2 hgro
  go_wp2
  go_end0
  exact ⟨rfl, d', HF.out, HR.out.1, HR.out.2.1, HR.out.2.2⟩
theorem swap_end {d : List CmA} {m : Nat} (hm : d.length = m + 1) : ∃ r, d[0]? = some r ∧ r = fq d 0 ∧ fq (Hp.swL d 0 m) m = r := by
  refine ⟨fq d 0, fq_at (by omega), rfl, ?_⟩
  unfold fq
  rw [Hp.swL_fn (by omega) (by omega)]
  unfold Hp.sw
  by_cases q : m = 0
  · rw [if_pos q, q]
  · rw [if_neg q, if_pos rfl]
theorem ends_at {d : List CmA} {m : Nat} {r : CmA} (hm : d.length = m + 1) (h : fq d m = r) : d = d.take m ++ [r] := by
  have h1 := List.take_append_drop m d
  have h2 : d.drop m = [r] := by
    rw [List.drop_eq_getElem_cons (by omega), List.drop_eq_nil_of_le (by omega)]
    congr 1
    have := fq_at (d := d) (i := m) (by omega)
    rw [List.getElem?_eq_getElem (by omega), h] at this
    exact Option.some.inj this
  rw [h2] at h1
  exact h1.symm
set_option maxRecDepth 100000 in
set_option maxHeartbeats 4000000 in
/-- container/heap's Pop -/
theorem hpop {w : World} {p m : Nat} {O : Nat → Prop} {d : List CmA} (h : Qe w p uv O d) (hl : d.length ≤ 1000000) (hm : d.length = m + 1) (hh : Hp.HeapFrom ltQ (fq d) d.length 0) :
    Calls Try.prog 57 #[.iface 88 (.pointer (some ⟨p, 2, none⟩))] w fun e w' => ∃ r d', r = fq d 0 ∧ e = .returned (.iface 32 (aggC r)) ∧ Qe w' p uv (Gro O w w') d' ∧ (r :: d').Perm d ∧ d'.length = m ∧ Hp.HeapFrom ltQ (fq d') d'.length 0 ∧ (∀ y ∈ d', ltQ y r = false) ∧ Onl O w w' := by
  obtain ⟨g, n, c, ex, hq, hBg, hx, hn, hc, hcm⟩ := h.qu (by omega)
  obtain rfl : n = m + 1 := by omega
  have x0 := hq.ob.cell 2
  simp only [List.getElem?_cons_succ, List.getElem?_cons_zero] at x0
  have hm1 := meth_len x0
  have hm2 := meth_swap x0
  have HS := hide (swap_q hq.ro (m + 1) c hn (i := 0) (j := m) (by omega) (by omega))
  obtain ⟨r, hr0, hrf, hre⟩ := swap_end hm
  have hd : Hp.DownInv ltQ (fq (Hp.swL d 0 m)) m 0 0 := by
    have := Hp.pop_start (n := m) (by rw [← hm]; exact hh)
    unfold fq
    rw [Hp.swL_fn (by omega) (by omega)]
    exact this
  have hleast : ∀ y ∈ d, ltQ y r = false ∨ y = r := by
    intro y hy
    obtain ⟨k, hk⟩ := List.getElem?_of_mem hy
    have hkl := (List.getElem?_eq_some_iff.1 hk).1
    rw [fq_at hkl] at hk
    injection hk with hk
    rcases Hp.root_least ltQ_ord hh k hkl with q | q
    · left; rw [← hk, hrf]; exact q
    · right; rw [← hk, hrf, q]
  have hself : ltQ r r = false := by
    cases q : ltQ r r with
    | false => rfl
    | true => exact absurd (ltQ_ord.as _ _ q) (by rw [q]; decide)
  have HQ := hide hq
  have HD := hide hd
  have HRE := hide hre
  have HRF := hide hrf
  have HL := hide hleast
  have HSELF := hide hself
  have HM := hide hm
  have HX := hide hx
  have h0 := h.lo
  have HLT := hide h.lt
  have w0 : IntKind.i64.wrap (((m + 1 : Nat) : Int) - 1) = (m : Int) := by rw [IntKind.wrap_i64]; omega
  have hmb : m < 1000000 := by omega
  clear h hq hx hn hr0 hrf hre hd hleast hself hh hl hm
  go_enter Try.func57, Try.ntmps57
  go_wp2_with fail
  refine (len_q _ _ _ _).mono ?_
  rintro e w1b ⟨rfl, hw⟩
  obtain rfl := hw.symm
  go_wp2_with fail
  refine HS.out.mono ?_
  rintro e w1 ⟨rfl, ro1, o1⟩
  have hq1 := HQ.out.swp ro1 o1 (Hp.swL_len _ _ _)
  have HC := hide (down_q hq1 (by omega) (m := m) (b := 0) (i := 0) (by omega) (by omega) HD.out)
  have HO1 := hide (o1.mono (O' := O) (fun i e => by rw [e]; exact hBg))
  clear ro1 o1 hq1 x0 hm1 hm2
  go_wp2_with fail
  refine HC.out.mono ?_
  rintro e w2 ⟨⟨rb, rfl⟩, d2, hq2, hp2, hf2, hk2, o2⟩
  have hl2 : d2.length = m + 1 := by rw [hp2.length_eq, Hp.swL_len]; exact HM.out
  have he2 : d2 = d2.take m ++ [r] := ends_at hl2 (by rw [hk2 m (Nat.le_refl _)]; exact HRE.out)
  have hqe := hq2.qe (O := O) h0 (fun k hk => Nat.lt_of_lt_of_le (HLT.out k hk) (HO1.out.trans (o2.mono (O' := O) (fun i e => by rw [e]; exact hBg))).size) hBg (by have := HX.out; rw [List.length_append, gcells_len cCm_len] at this ⊢; rw [hl2]; rw [HM.out] at this; exact this) hc hcm
  obtain ⟨d3, hd3⟩ : ∃ d3, d3 = d2.take m := ⟨_, rfl⟩
  rw [← hd3] at he2
  have h3l : d3.length = m := by rw [hd3, List.length_take]; omega
  have hperm : (r :: d3).Perm d := by
    have e1 : (d3 ++ [r]).Perm d := by rw [← he2]; exact hp2.trans (Hp.swL_perm _ _ _)
    exact (List.perm_append_comm (l₁ := [r]) (l₂ := d3)).trans e1
  have hheap : Hp.HeapFrom ltQ (fq d3) d3.length 0 := by
    intro k hk0 hk hb
    have := hf2 k hk0 (by omega) hb
    have hpk := Hp.par_lt hk0
    have e1 : ∀ j, j < m → fq d2 j = fq d3 j := by
      intro j hj
      unfold fq Hp.fn
      rw [he2, List.getD_eq_getElem?_getD, List.getD_eq_getElem?_getD, List.getElem?_append_left (by omega)]
    rw [e1 k (by omega), e1 (Hp.par k) (by omega)] at this
    exact this
  rw [he2] at hqe
  have HC3 := hide (qpop hqe (by omega))
  have HO2 := hide (HO1.out.trans (o2.mono (O' := O) (fun i e => by rw [e]; exact hBg)))
  have HR : Hid ((r :: d3).Perm d ∧ d3.length = m ∧ Hp.HeapFrom ltQ (fq d3) d3.length 0 ∧ ∀ y ∈ d3, ltQ y r = false) := hide ⟨hperm, h3l, hheap, fun y hy => by
    rcases HL.out y (hperm.mem_iff.1 (List.mem_cons_of_mem _ hy)) with q | q
    · exact q
    · rw [q]; exact HSELF.out⟩
  have hm3 := fun k => meth_pop w2 (.pointer (some ⟨p, 2, none⟩)) k
  clear hq2 hp2 hf2 hk2 o2 hl2 he2 hqe hd3 h3l hperm hheap HC
  go_wp2_with fail
  refine HC3.out.mono ?_
  rintro e w3 ⟨rfl, hq3, o3⟩
  have HF : Hid (Qe w3 p uv (Gro O w w3) d3 ∧ Onl O w w3) := hide ⟨⟨.inl h0, Gro.lt HLT.out (HO2.out.trans o3).size, (by obtain ⟨a, n, c, q1, q2, q3⟩ := hq3.mem; exact ⟨a, n, c, q1, q2, q3.mono (fun g hg => ⟨hg.1.elim .inl (fun q => .inr ⟨Nat.le_trans HO2.out.size q.1, q.2⟩), hg.2⟩)⟩)⟩, HO2.out.trans o3⟩
  clear hq3 o3 hm3
  go_wp2
  go_ret
  exact ⟨r, d3, HRF.out, rfl, HF.out.1, HR.out.1, HR.out.2.1, HR.out.2.2.1, HR.out.2.2.2, HF.out.2⟩
end Go.Proofs.Ytmkafoidfgaokaa
