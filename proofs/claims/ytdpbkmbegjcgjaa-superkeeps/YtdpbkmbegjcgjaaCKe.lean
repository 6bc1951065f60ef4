/- What the program's keep does with a write: its first bytes are laid into its sector. Over the translation. -/
import Derived.Test.YtdpbkmbegjcgjaaCSec
namespace Go.Proofs.Ytdpbkmbegjcgjaa
open Go.RowKit Apo

theorem ld_exec65 {P : Program} {w : World} {ρ : Operand → Value} {dst : Option Tmp} {x : Operand} {ty : TypeId} {pos : String} {after : Array Edge} {guard : Option (Nat × Bool)} (h : LdRuns P w 78 (ρ x)) :
    (execOp ρ { dst, op := .load 78 x, type := ty, pos, after, guard }).run P w = .ok (.value (ldVal P w 78 (ρ x))) w := ld_exec h
theorem ld_exec67 {P : Program} {w : World} {ρ : Operand → Value} {dst : Option Tmp} {x : Operand} {ty : TypeId} {pos : String} {after : Array Edge} {guard : Option (Nat × Bool)} (h : LdRuns P w 80 (ρ x)) :
    (execOp ρ { dst, op := .load 80 x, type := ty, pos, after, guard }).run P w = .ok (.value (ldVal P w 80 (ρ x))) w := ld_exec h
theorem st_exec65 {P : Program} {w : World} {ρ : Operand → Value} {dst : Option Tmp} {x y : Operand} {ty : TypeId} {pos : String} {after : Array Edge} {guard : Option (Nat × Bool)} (h : StRuns P w 78 (ρ x) (ρ y)) :
    (execOp ρ { dst, op := .store 78 x y, type := ty, pos, after, guard }).run P w = .ok .skip (stWld P w 78 (ρ x) (ρ y)) := st_exec h
theorem st_exec67 {P : Program} {w : World} {ρ : Operand → Value} {dst : Option Tmp} {x y : Operand} {ty : TypeId} {pos : String} {after : Array Edge} {guard : Option (Nat × Bool)} (h : StRuns P w 80 (ρ x) (ρ y)) :
    (execOp ρ { dst, op := .store 80 x y, type := ty, pos, after, guard }).run P w = .ok .skip (stWld P w 80 (ρ x) (ρ y)) := st_exec h
theorem bd_exec67 {P : Program} {w : World} {ρ : Operand → Value} {dst : Option Tmp} {ps : Array (Nat × Operand)} {ty : TypeId} {pos : String} {after : Array Edge} {guard : Option (Nat × Bool)} (h : BdRuns P 80 (ps.map fun (i, x) => (i, ρ x))) :
    (execOp ρ { dst, op := .build 80 ps, type := ty, pos, after, guard }).run P w = .ok (.value (bdVal P 80 (ps.map fun (i, x) => (i, ρ x)))) w := bd_exec h
theorem al_exec65 {w : World} {ρ : Operand → Value} {dst : Option Tmp} {ty : TypeId} {pos : String} {after : Array Edge} {guard : Option (Nat × Bool)} :
    (execOp ρ { dst, op := .alloc 78, type := ty, pos, after, guard }).run Try.prog w = .ok (.value (.pointer (some ⟨w.heap.size, 0, none⟩))) (w.alloc (.cells (zc Try.prog 78) 78)) := al_exec al_sec
theorem al_exec67 {w : World} {ρ : Operand → Value} {dst : Option Tmp} {ty : TypeId} {pos : String} {after : Array Edge} {guard : Option (Nat × Bool)} :
    (execOp ρ { dst, op := .alloc 80, type := ty, pos, after, guard }).run Try.prog w = .ok (.value (.pointer (some ⟨w.heap.size, 0, none⟩))) (w.alloc (.cells (zc Try.prog 80) 80)) := al_exec al_wri
theorem ne_exec67 {P : Program} {w : World} {ρ : Operand → Value} {dst : Option Tmp} {t' : TypeId} {x y : Operand} {ty : TypeId} {pos : String} {after : Array Edge} {guard : Option (Nat × Bool)} (h : NeRuns P 80 (ρ x) (ρ y)) :
    (execOp ρ { dst, op := .binOp .neq 80 x y t', type := ty, pos, after, guard }).run P w = .ok (.value (neVal P 80 (ρ x) (ρ y))) w := ne_exec h
attribute [local go_sem ↓] ld_exec65 ld_exec67 st_exec65 st_exec67 bd_exec67 al_exec65 al_exec67 ne_exec67 Apo.cp_exec

/-- what is new is changed alone -/
theorem CParts.fresh {O F : Nat → Prop} {w w' : World} {p : Nat} {st : Sd} {vK vC : Value} {m : Nat} {lf : Int} (h : CParts O w p st vK vC m lf) (ho : Onl F w w') (hF : ∀ i, i < w.heap.size → ¬ F i) : CParts O w' p st vK vC m lf :=
  ⟨h.ob.onl ho (hF p h.ob.lt), h.own, h.sS.onl ho (fun g hg => hF g (h.sS.lt g hg)), h.sC.onl ho (fun g hg => hF g (h.sC.lt g hg)), h.mO, h.mF.onl ho (hF m h.mF.lt), h.hlf, h.ok⟩
theorem over_take {cs vs : List Value} {o k : Nat} (h : o + vs.length ≤ k) (hk : k ≤ cs.length) : (over cs o vs).take k = over (cs.take k) o vs := by
  unfold over
  have e1 : (cs.take o ++ vs).length = o + vs.length := by simp; omega
  rw [List.take_append, e1, List.take_of_length_le (by rw [e1]; exact h), List.take_take, Nat.min_eq_left (by omega), List.drop_take]
/-- a sector is laid over -/
theorem CParts.setS {O : Nat → Prop} {w w' : World} {p : Nat} {st : Sd} {vC : Value} {g cap m : Nat} {lf : Int} (h : CParts O w p st (.slice (some ⟨g, 0, none⟩) st.S.length cap) vC m lf) {i : Nat} (hi : i < st.S.length) {r : List Int} (hr : Sec r) {cs : List Value} {e : TypeId} (hb : Ob w g e cs)
    (hb' : Ob w' g e (over cs (i * 32) (secV r))) (ho : Onl (fun k => k = g) w w') : CParts O w' p { st with S := st.S.set i r } (.slice (some ⟨g, 0, none⟩) st.S.length cap) vC m lf := by
  have hlen : ∀ y ∈ st.S, (secV y).length = 32 := fun y hy => by simp [secV, (h.ok.secs y hy).1]
  have hrl : (secV r).length = 32 := by simp [secV, hr.1]
  refine ⟨h.ob.onl ho (fun q => h.sS.apartOb h.ob (by decide) (by rw [q]; rfl)), h.own, ⟨?_, h.sS.2⟩, h.sC.onl ho (fun k hk q => h.sC.apart h.sS (by decide) k hk (by rw [q]; rfl)), h.mO, h.mF.onl ho (fun q => h.mF.neRow h.sS (by rw [q]; rfl)), h.hlf, ?_⟩
  · obtain ⟨hl, hc⟩ := h.sS.1
    have h2 : (scells (st.S.set i r)).length = (st.S.set i r).length * 32 := flat_len (fun y hy => by
      rcases List.mem_or_eq_of_mem_set hy with hy | hy
      · exact hlen y hy
      · rw [hy]; exact hrl)
    simp only [List.length_set] at h2 ⊢
    refine ⟨h2, ?_⟩
    rcases hc with ⟨hn, _⟩ | ⟨g1, cap1, cur, hv, q1, q2, q3, q4, q5, q6⟩
    · cases hn
    · simp only [Value.slice.injEq, Option.some.injEq, Addr.mk.injEq, and_true, true_and] at hv
      obtain ⟨rfl, rfl⟩ := hv
      unfold Ob at hb hb'
      rw [q2] at hb
      simp only [Option.some.injEq, Obj.cells.injEq] at hb
      obtain ⟨rfl, rfl, _⟩ := hb
      refine .inr ⟨g, cap, (over cs (i * 32) (secV r)).toArray, rfl, q1, hb', q3, q4, ?_, ?_⟩
      · have := over_len (cs := cs) (vs := secV r) (o := i * 32) (by simp at q5; rw [hrl, q5]; omega)
        simp at q5 ⊢
        rw [this, q5]
      · simp only at q6 ⊢
        have e1 := flat_set (f := secV) hlen hrl hi
        show _ = (st.S.set i r).flatMap secV
        rw [← e1]
        show _ = over (scells st.S) (i * 32) (secV r)
        rw [← q6]
        simp at q5
        exact over_take (by rw [hrl]; omega) (by rw [q5]; omega)
  · refine ⟨fun q hq => ?_, fun x hx => by simpa using h.ok.cach x hx, by simp [h.ok.bads], by simpa using h.ok.size, h.ok.l0, h.ok.l1⟩
    rcases List.mem_or_eq_of_mem_set hq with hq | hq
    · exact h.ok.secs q hq
    · rw [hq]; exact hr

def mixed (x : Nat × List Int) (S : List (List Int)) (n : Nat) : List Int := x.2.take n ++ (S.getD x.1 []).drop n

set_option maxHeartbeats 4000000 in
theorem ckeep_any {O : Nat → Prop} {w : World} {p : Nat} {st : Sd} {vK vC : Value} {m : Nat} {lf : Int} (h : CParts O w p st vK vC m lf) {x : Nat × List Int} (hx : x.1 < st.S.length) (hs : Sec x.2) (n : Nat) (hn : n ≤ 32) :
    Calls Try.prog 38 #[.pointer (some ⟨p, 0, none⟩), .agg (wrA x), .int .i64 n] w fun e w' => e = .returned (.tuple #[]) ∧ CParts O w' p { st with S := st.S.set x.1 (mixed x st.S n) } vK vC m lf ∧ Onl O w w' := by
  obtain ⟨gs, scap, rfl, hgs, hgslt, hsl, hsm, hscell, hsfr⟩ := h.sS.shape (by omega)
  have hplt := h.ob.lt
  have hsz := h.ok.size
  have c1 := h.ob.cell 1
  simp only [List.getElem?_cons_zero, List.getElem?_cons_succ] at c1
  -- the sector as it is
  have hr0 : st.S[x.1]? = some st.S[x.1] := List.getElem?_eq_getElem hx
  have hS0 : Sec st.S[x.1] := h.ok.secs _ (List.getElem_mem hx)
  generalize hq0 : st.S[x.1] = r0 at hr0 hS0
  have L0 : Len32 r0 := ⟨hS0.1⟩
  have Lx : Len32 x.2 := ⟨hs.1⟩
  have hlen : ∀ y ∈ st.S, (secV y).length = 32 := fun y hy => by simp [secV, (h.ok.secs y hy).1]
  have hcell0 : ∀ j, j < 32 → w.cell? ⟨gs, x.1 * 32 + j, none⟩ = (secV r0)[j]? := fun j hj => (hscell _ (by omega)).trans (flat_at hlen hr0 hj)
  have H := hide h
  have HS := hide hS0
  have HX := hide hs
  have HR := hide hr0
  have HL := hide hlen
  have HC := hide hcell0
  have hxi : ((x.1 : Nat) : Int) < (st.S.length : Int) := by omega
  obtain ⟨b1, b2⟩ := bd_wri (k := x.1) L0
  -- the world behind the box
  have k1 : Ob (w.alloc (.cells (wrA x) 80)) w.heap.size 80 (wrV x) := Ob.new w (wrV x) 80
  have o1 : Onl (fun _ => False) w (w.alloc (.cells (wrA x) 80)) := (Onl.refl _ w).alloc _
  have z1 : (w.alloc (.cells (wrA x) 80)).heap.size = w.heap.size + 1 := by simp
  generalize hW1 : w.alloc (.cells (wrA x) 80) = W1 at k1 o1 z1
  have c1' : W1.cell? ⟨p, 1, none⟩ = some (.slice (some ⟨gs, 0, none⟩) st.S.length scap) := by
    have := (H.out.kept o1).ob.cell 1
    simpa using this
  have d0 : W1.cell? ⟨w.heap.size, 0, none⟩ = some (.int .i64 x.1) := by
    have := k1.cell 0
    simpa [wrV] using this
  obtain ⟨l1, l2⟩ := ld_sec (w := W1.drew) (g := gs) (o := x.1 * 32) L0 (fun j hj => (World.cell?_of_block (o1.block gs hgslt (by simp))).trans (HC.out j hj))
  obtain ⟨l3, l4⟩ := ld_sec (w := (W1.alloc (.cells (zc Try.prog 80) 80)).drew) (g := gs) (o := x.1 * 32) L0 (fun j hj => (World.cell?_of_block ((o1.alloc _).drew.block gs hgslt (by simp))).trans (HC.out j hj))
  obtain ⟨s2, s3⟩ := st_new_wri W1.drew (x := (x.1, r0)) L0
  change StRuns Try.prog (W1.alloc (.cells (zc Try.prog 80) 80)).drew 80 (.pointer (some ⟨W1.heap.size, 0, none⟩)) (.agg (wrA (x.1, r0))) at s2
  change stWld Try.prog (W1.alloc (.cells (zc Try.prog 80) 80)).drew 80 (.pointer (some ⟨W1.heap.size, 0, none⟩)) (.agg (wrA (x.1, r0))) = (W1.alloc (.cells (wrA (x.1, r0)) 80)).drew at s3
  rw [z1] at s2 s3
  have hn2 : n ≤ x.2.length := by have := HX.out.1; omega
  have hmix : mixed x st.S n = x.2.take n ++ r0.drop n := by
    have h0 : st.S[x.1]? = some r0 := HR.out
    simp [mixed, List.getD, h0]
  have hSm : Sec (mixed x st.S n) := by
    rw [hmix]
    refine ⟨by simp [HX.out.1, HS.out.1]; omega, ?_⟩
    intro y hy
    simp only [List.mem_append] at hy
    rcases hy with hy | hy
    · exact HX.out.2 y (List.mem_of_mem_take hy)
    · exact HS.out.2 y (List.mem_of_mem_drop hy)
  have Lm : Len32 (mixed x st.S n) := ⟨hSm.1⟩
  -- behind region 1
  have k2 : Ob (W1.alloc (.cells (wrA (x.1, r0)) 80)).drew (w.heap.size + 1) 80 (wrV (x.1, r0)) := by rw [← z1]; exact Ob.new W1 (wrV (x.1, r0)) 80
  have o2 : Onl (fun _ => False) W1 (W1.alloc (.cells (wrA (x.1, r0)) 80)).drew := ((Onl.refl _ W1).alloc _).drew
  have z2 : (W1.alloc (.cells (wrA (x.1, r0)) 80)).drew.heap.size = w.heap.size + 2 := by
    show (W1.alloc (.cells (wrA (x.1, r0)) 80)).heap.size = _
    simp [z1]
  generalize hW2 : (W1.alloc (.cells (wrA (x.1, r0)) 80)).drew = W2 at s3 k2 o2 z2
  clear hW2
  obtain ⟨l5, l6⟩ := ld_wri_ob (x := (x.1, r0)) L0 k2
  obtain ⟨s4, s5⟩ := st_new_wri W2 (x := (x.1, r0)) L0
  rw [z2] at s4 s5
  -- behind region 2
  have k3 : Ob (W2.alloc (.cells (wrA (x.1, r0)) 80)) (w.heap.size + 2) 80 (wrV (x.1, r0)) := by rw [← z2]; exact Ob.new W2 (wrV (x.1, r0)) 80
  have o3 : Onl (fun _ => False) W2 (W2.alloc (.cells (wrA (x.1, r0)) 80)) := (Onl.refl _ W2).alloc _
  have z3 : (W2.alloc (.cells (wrA (x.1, r0)) 80)).heap.size = w.heap.size + 3 := by simp [z2]
  generalize hW3 : W2.alloc (.cells (wrA (x.1, r0)) 80) = W3 at s5 k3 o3 z3
  clear hW3
  have q1 : Ob W3.drew w.heap.size 80 (wrV x) := (k1.onl o2 (by simp)).onl o3.drew (by simp)
  have q2 : Ob W3.drew (w.heap.size + 1) 80 (wrV (x.1, r0)) := k2.onl o3.drew (by simp)
  obtain ⟨W4, hcp, k4, o4⟩ := run_copy_over (P := Try.prog) (w := W3.drew) 26 26 3 5 80 Try.underlying26 size_byt (w.heap.size + 2) 1 n 32 ⟨w.heap.size, 1, none⟩ 32 (wrV (x.1, r0)) ((secV x.2).take n) k3 (by simp [secV]; omega) (fun j v hv => by
    have e : (⟨w.heap.size, 1, none⟩ : Addr).add j = ⟨w.heap.size, j + 1, none⟩ := by unfold Addr.add; split <;> simp_all [Nat.add_comm]
    rw [e, q1.cell (j + 1)]
    simp only [wrV, List.getElem?_cons_succ]
    rw [List.getElem?_take] at hv
    split at hv
    · exact hv
    · cases hv) (by simp [wrV, secV, L0.len]; omega) (fun v hv => secV_one _ v (List.mem_of_mem_take hv))
  have e4 : over (wrV (x.1, r0)) 1 ((secV x.2).take n) = wrV (x.1, mixed x st.S n) := by
    rw [hmix]
    have : min n x.2.length = n := by omega
    simp [over, wrV, secV, List.map_take, List.map_drop, this, Nat.add_comm 1 n]
  rw [e4] at k4
  obtain ⟨p1, p2, p3⟩ := cp_runs hcp
  have t1 : Ob W4 (w.heap.size + 1) 80 (wrV (x.1, r0)) := q2.onl o4 (by omega)
  have t0 : Ob W4 w.heap.size 80 (wrV x) := q1.onl o4 (by omega)
  obtain ⟨l7, l8⟩ := ld_wri_ob (x := (x.1, mixed x st.S n)) Lm k4
  obtain ⟨l9, l10⟩ := ld_wri_ob (x := (x.1, r0)) L0 t1
  obtain ⟨b, n1, n2, n3⟩ := ne_wri (k := x.1) hSm HS.out
  have O4 : Onl (fun k => w.heap.size ≤ k) w W4 := ((o1.mono (by simp)).trans (((o2.mono (by simp)).trans (o3.mono (by simp))).drew.trans (o4.mono (fun i hi => by omega))))
  have P4 : CParts O W4 p st (.slice (some ⟨gs, 0, none⟩) st.S.length scap) vC m lf := by
    exact H.out.fresh O4 (fun i hi => by omega)
  -- the sector is laid over
  obtain ⟨cs, hcs, hcl⟩ : ∃ cs, Ob W4.drew gs 78 cs ∧ (x.1 * 32 + 32 ≤ cs.length) := by
    obtain ⟨_, hc⟩ := P4.sS.1
    rcases hc with ⟨hn, _⟩ | ⟨g1, cap1, cur, hv, q1, q2, q3, q4, q5, q6⟩
    · cases hn
    · simp only [Value.slice.injEq, Option.some.injEq, Addr.mk.injEq, and_true, true_and] at hv
      obtain ⟨rfl, rfl⟩ := hv
      exact ⟨cur.toList, q2, by simp [q5]; omega⟩
  obtain ⟨W5, hst, k5, o5⟩ := run_storeAt_cells (P := Try.prog) (w := W4.drew) 78 78 gs (x.1 * 32) cs (secV (mixed x st.S n)) (by rw [size_sec]; simp [secV, Lm.len]) (secV_one _) hcs (by simp [secV, Lm.len]; omega)
  obtain ⟨s6, s7⟩ := st_runs hst
  change StRuns _ _ _ _ (.agg (secA (mixed x st.S n))) at s6
  change stWld _ _ _ _ (.agg (secA (mixed x st.S n))) = _ at s7
  obtain ⟨l11, l12⟩ := ld_sec (w := W4.drew) (g := w.heap.size + 2) (o := 1) Lm (fun j hj => by
    have := k4.cell (1 + j)
    rw [Nat.add_comm 1 j] at this ⊢
    simpa [wrV] using this)
  have u0 : W4.cell? ⟨w.heap.size, 0, none⟩ = some (.int .i64 x.1) := by
    have := t0.cell 0
    simpa [wrV] using this
  have u1 : W4.cell? ⟨p, 1, none⟩ = some (.slice (some ⟨gs, 0, none⟩) st.S.length scap) := by
    have := P4.ob.cell 1
    simpa using this
  have P5 : CParts O W4.drew p st (.slice (some ⟨gs, 0, none⟩) st.S.length scap) vC m lf := P4.kept (Onl.refl _ _).drew
  have HE := hide (P5.setS hx hSm hcs k5 o5)
  have HO5 := hide o5
  have HO4 := hide O4
  have HP4 := hide P4
  have HN := hide n3
  have HM := hide hmix
  clear k1 o1 c1 k2 o2 k3 o3 q1 q2 hcp k4 o4 e4 t0 t1 O4 P4 n3 hst hcs k5 o5 hcl P5 hSm hmix h hr0 hS0 hs hlen hcell0 hscell hsfr hq0 Lm Lx L0
  have sl := fun (a : Addr) (W : World) => slice_sec (a := a) hn W
  cases b with
  | true =>
    go_enter Try.func38, Try.ntmps38
    go_wp2
    go_region
    go_wp2
    go_region
    go_wp2
    go_region
    go_wp2
    go_end0
    exact ⟨rfl, HE.out, ((Onl.refl O w).more HO4.out (fun i hi => .inr hi)).drew.more HO5.out (fun i hi => .inl (by rw [hi]; exact hgs))⟩
  | false =>
    go_enter Try.func38, Try.ntmps38
    go_wp2
    go_region
    go_wp2
    go_region
    go_wp2
    go_end0
    have e : st.S.set x.1 (mixed x st.S n) = st.S := by
      rw [HN.out trivial]
      have h0 := List.getElem?_eq_some_iff.1 HR.out
      rw [← h0.2]
      simp
    rw [e]
    exact ⟨rfl, HP4.out, (Onl.refl O w).more HO4.out (fun i hi => .inr hi)⟩
end Go.Proofs.Ytdpbkmbegjcgjaa
