/- What the document's NewDev makes, over the translation. -/
import Derived.Test.YtdpbkmbegjcgjaaRCoL
namespace Go.Proofs.Ytdpbkmbegjcgjaa
open Go.RowKit Apo
attribute [local go_sem ↓] Apo.app_exec

def zrow : Array Value := madeCells #[.int .u8 0] 32
theorem zrow_list : zrow.toList = zeros.map (Value.int .u8) := by
  unfold zrow zeros
  rw [toList_madeCells_one, List.map_replicate]
theorem mk32 (wx : World) : (Instr.makeSlice 26 (.int .i64 32) (.int .i64 32)).run Try.prog wx = .ok (.slice (some ⟨wx.heap.size, 0, none⟩) 32 32) (wx.alloc (.cells zrow 5)) := by
  obtain ⟨i1, hi, hz0, hz1, hz2⟩ := info_parts info_u8
  have := run_makeSlice (P := Try.prog) wx 26 5 i1 (.int .u8 0) Try.underlying26 hi hz0 .i64 .i64 32 32 (by decide) (by decide) (by rw [hz1]; decide) (by rw [hz2]; decide) (by decide)
  rw [hz1] at this
  exact this

/-- a device that is being made: k sectors and j marks of faults so far -/
structure Mak (w wr : World) (k j : Nat) (vS vB : Value) (rv : List Value) : Prop where
  ob : Ob wr w.heap.size 76 [vS, .slice none 0 0, vB, .int .i64 (-1), .bool false]
  sS : Row (fun i => w.heap.size ≤ i) wr 26 1 vS k rv
  sR : Byts (fun i => w.heap.size ≤ i) 5 wr rv (List.replicate k zeros)
  sB : Row (fun i => w.heap.size ≤ i) wr 4 1 vB j (List.replicate j (.bool false))
  onl : Onl (fun _ => False) w wr

theorem Mak.kept {w wr wq : World} {k j : Nat} {vS vB : Value} {rv : List Value} (h : Mak w wr k j vS vB rv) (ho : Onl (fun _ => False) wr wq) : Mak w wq k j vS vB rv :=
  ⟨h.ob.onl ho id, h.sS.onl ho (fun _ _ q => q), h.sR.onl ho (fun _ _ _ _ _ q => q), h.sB.onl ho (fun _ _ q => q), h.onl.trans ho⟩

def w_cell (W : World) (b : Nat) (u : Value) : Prop := W.cell? ⟨b, 0, none⟩ = some u

/-- one cell more behind an own row, in place or not -/
theorem row_push {B : Nat} {W : World} {e t : TypeId} {i : TypeInfo} {z : Value} {bytes n b : Nat} {a : Option Addr} {cap : Nat} {xs : List Value} {u : Value} (h : Row (fun i => B ≤ i) W e 1 (.slice a n cap) n xs) (hB : B ≤ W.heap.size) (hu : w_cell W b u) (h1 : u.oneCell' = true)
    (ht : Try.prog.underlying t = some (.slice e)) (hi : Try.prog.info? e = some i) (hz : i.zero = some z) (hsize : i.size = 1) (hby : i.bytes = bytes) (hzs : z.cells.size = 1) (hn : n ≤ 65536) (hb : bytes ≤ 1024) :
    ∃ a' cap' w2, (Builtin.append_ #[t, t] t #[.slice a n cap, .slice (some ⟨b, 0, none⟩) 1 1]).run Try.prog W = .ok (.slice a' (n + 1) cap') w2 ∧ Row (fun i => B ≤ i) w2 e 1 (.slice a' (n + 1) cap') (n + 1) (xs ++ [u]) ∧ Onl (fun k => (Value.slice a n cap).ownBlock = some k) W w2 := by
  have own : W.ownsRow B e 1 (.slice a n cap) n xs := by
    refine ⟨h.1.1, ?_⟩
    rcases h.1.2 with hn | ⟨g, c, cur, hv, _, rest⟩
    · exact .inl hn
    · exact .inr ⟨g, c, cur, hv, h.2 g (by rw [hv]; rfl), rest⟩
  have hbb : (n + 1) * bytes ≤ 140737488355328 := Nat.le_trans (Nat.mul_le_mul (show n + 1 ≤ 65537 by omega) hb) (by decide)
  obtain ⟨v', w2, q1, q2, q3, _⟩ := run_append_own (P := Try.prog) W B t t e i z 1 bytes ht hi hz hsize hby hzs (by decide) (.slice a n cap) n xs own ⟨b, 0, none⟩ 1 1 [u] rfl (by
    intro j x hx
    have hj : j = 0 := by
      rcases Nat.eq_zero_or_pos j with q | q
      · exact q
      · rw [List.getElem?_eq_none (by simp; omega)] at hx; cases hx
    subst hj
    simp at hx
    subst hx
    have e0 : (⟨b, 0, none⟩ : Addr).add 0 = ⟨b, 0, none⟩ := by unfold Addr.add; split <;> simp_all
    rw [e0]
    exact hu) (by simpa using h1) (by unfold maxLen; omega) hbb hB
  obtain ⟨g, c, hv', hg, _⟩ := own_shape2 q2 (by omega)
  subst hv'
  exact ⟨_, _, w2, q1, ⟨q2.mono (Nat.zero_le _), fun k hk => (q2.lt k hk).1⟩, (Onl.refl _ _).grown q3 (fun k hk => .inl hk)⟩

theorem mak_S {w wr : World} {k j : Nat} {sa : Option Addr} {scap : Nat} {vB : Value} {rv : List Value} (h : Mak w wr k j (.slice sa k scap) vB rv) (hk : k ≤ 65536) :
    ∃ a' cap' w2, (Builtin.append_ #[73, 73] 73 #[.slice sa k scap, .slice (some ⟨wr.heap.size + 1, 0, none⟩) 1 1]).run Try.prog ((wr.alloc (.cells zrow 5)).alloc (.cells #[.slice (some ⟨wr.heap.size, 0, none⟩) 32 32] 26)).drew = .ok (.slice a' (k + 1) cap') w2 ∧
      w2.cell? ⟨w.heap.size, 0, none⟩ = some (.slice sa k scap) ∧ w2.frozen? ⟨w.heap.size, 0, none⟩ = false ∧
      Mak w (w2.setCell ⟨w.heap.size, 0, none⟩ (.slice a' (k + 1) cap')) (k + 1) j (.slice a' (k + 1) cap') vB (rv ++ [.slice (some ⟨wr.heap.size, 0, none⟩) 32 32]) := by
  obtain ⟨i0, hi, hz0, hz1, hz2⟩ := info_parts info_bs
  have oA : Onl (fun _ => False) wr (wr.alloc (.cells zrow 5)) := (Onl.refl _ _).alloc _
  have oB : Onl (fun _ => False) (wr.alloc (.cells zrow 5)) ((wr.alloc (.cells zrow 5)).alloc (.cells #[.slice (some ⟨wr.heap.size, 0, none⟩) 32 32] 26)).drew := ((Onl.refl _ _).alloc _).drew
  have hsz := h.onl.size
  have rowA : Row (fun i => w.heap.size ≤ i) (wr.alloc (.cells zrow 5)) 5 1 (.slice (some ⟨wr.heap.size, 0, none⟩) 32 32) 32 (zeros.map (Value.int .u8)) := by
    refine ⟨⟨by simp [zeros], .inr ⟨wr.heap.size, 32, zrow, rfl, Nat.zero_le _, heap_alloc_new wr _, Nat.le_refl _, by unfold maxLen; decide, by rw [← Array.length_toList, zrow_list]; simp [zeros], ?_⟩⟩, fun g hg => by simp [Value.ownBlock] at hg; omega⟩
    rw [zrow_list]
    exact List.take_of_length_le (by simp [zeros])
  have rowB := rowA.onl oB (fun _ _ q => q)
  have obN := Ob.new (wr.alloc (.cells zrow 5)) [Value.slice (some ⟨wr.heap.size, 0, none⟩) 32 32] 26
  have hB := h.kept (oA.trans oB)
  have esz : (wr.alloc (.cells zrow 5)).heap.size = wr.heap.size + 1 := by simp
  have hu : w_cell ((wr.alloc (.cells zrow 5)).alloc (.cells #[.slice (some ⟨wr.heap.size, 0, none⟩) 32 32] 26)).drew (wr.heap.size + 1) (.slice (some ⟨wr.heap.size, 0, none⟩) 32 32) := by
    have := obN.cell 0
    rw [esz] at this
    exact this
  generalize ((wr.alloc (.cells zrow 5)).alloc (.cells #[.slice (some ⟨wr.heap.size, 0, none⟩) 32 32] 26)).drew = W at oB rowB hB hu ⊢
  obtain ⟨a', cap', w2, R, rw, og⟩ := row_push hB.sS hB.onl.size hu rfl Try.underlying73 hi hz0 hz1 hz2 rfl hk (by decide)
  have ob2 := hB.ob.onl og (fun q => hB.sS.apartOb hB.ob (by decide) q)
  have o3 : Onl (fun k => k = w.heap.size) w2 (w2.setCell ⟨w.heap.size, 0, none⟩ (.slice a' (k + 1) cap')) := Onl.set (O := fun k => k = w.heap.size) (Onl.refl _ w2) (.inl rfl) _
  have sR2 := (hB.sR.snoc rowB).onl og (fun v r g hb hg q => Row.apart hb hB.sS (by decide) g hg q)
  have sB2 := hB.sB.onl og (fun g hg q => hB.sB.apart hB.sS (by decide) g hg q)
  have c2 := ob2.cell 0
  simp only [List.getElem?_cons_zero] at c2
  have on2 : Onl (fun _ => False) w w2 := ⟨og.os.trans hB.onl.os, og.tape.trans hB.onl.tape, og.output.trans hB.onl.output, Nat.le_trans hB.onl.size og.size, fun i hi _ => (og.block i (Nat.lt_of_lt_of_le hi hB.onl.size) (fun q => by have := hB.sS.2 i q; omega)).trans (hB.onl.block i hi id)⟩
  refine ⟨a', cap', w2, R, c2, ob2.frozen 0, ⟨ob2.set 0 _, rw.onl o3 (fun g hg q => rw.apartOb ob2 (by decide) (by rw [hg, q])), ?_, sB2.onl o3 (fun g hg q => sB2.apartOb ob2 (by decide) (by rw [hg, q])), on2.set (.inr (Nat.le_refl _)) _⟩⟩
  rw [List.replicate_succ']
  exact sR2.onl o3 (fun v r g hb hg q => Row.apartOb hb ob2 (by decide) (by rw [hg, q]))

theorem mak_B {w wr : World} {k j : Nat} {ba : Option Addr} {bcap : Nat} {vS : Value} {rv : List Value} (h : Mak w wr k j vS (.slice ba j bcap) rv) (hk : j ≤ 65536) :
    ∃ a' cap' w2, (Builtin.append_ #[47, 47] 47 #[.slice ba j bcap, .slice (some ⟨wr.heap.size, 0, none⟩) 1 1]).run Try.prog (wr.alloc (.cells #[.bool false] 4)) = .ok (.slice a' (j + 1) cap') w2 ∧
      w2.cell? ⟨w.heap.size, 2, none⟩ = some (.slice ba j bcap) ∧ w2.frozen? ⟨w.heap.size, 2, none⟩ = false ∧
      Mak w (w2.setCell ⟨w.heap.size, 2, none⟩ (.slice a' (j + 1) cap')) k (j + 1) vS (.slice a' (j + 1) cap') rv := by
  obtain ⟨i0, hi, hz0, hz1, hz2⟩ := info_parts info_bl
  have hB := h.kept ((Onl.refl _ wr).alloc (.cells #[.bool false] 4))
  have hu : w_cell (wr.alloc (.cells #[.bool false] 4)) wr.heap.size (.bool false) := (Ob.new wr [.bool false] 4).cell 0
  generalize wr.alloc (.cells #[.bool false] 4) = W at hB hu ⊢
  obtain ⟨a', cap', w2, R, rw, og⟩ := row_push hB.sB hB.onl.size hu rfl Try.underlying47 hi hz0 hz1 hz2 rfl hk (by decide)
  have ob2 := hB.ob.onl og (fun q => hB.sB.apartOb hB.ob (by decide) q)
  have o3 : Onl (fun k => k = w.heap.size) w2 (w2.setCell ⟨w.heap.size, 2, none⟩ (.slice a' (j + 1) cap')) := Onl.set (O := fun k => k = w.heap.size) (Onl.refl _ w2) (.inl rfl) _
  have sR2 := hB.sR.onl og (fun v r g hb hg q => Row.apart hb hB.sB (by decide) g hg q)
  have sS2 := hB.sS.onl og (fun g hg q => hB.sS.apart hB.sB (by decide) g hg q)
  have c2 := ob2.cell 2
  simp only [List.getElem?_cons_zero, List.getElem?_cons_succ] at c2
  have on2 : Onl (fun _ => False) w w2 := ⟨og.os.trans hB.onl.os, og.tape.trans hB.onl.tape, og.output.trans hB.onl.output, Nat.le_trans hB.onl.size og.size, fun i hi _ => (og.block i (Nat.lt_of_lt_of_le hi hB.onl.size) (fun q => by have := hB.sB.2 i q; omega)).trans (hB.onl.block i hi id)⟩
  refine ⟨a', cap', w2, R, c2, ob2.frozen 2, ⟨ob2.set 2 _, sS2.onl o3 (fun g hg q => sS2.apartOb ob2 (by decide) (by rw [hg, q])), sR2.onl o3 (fun v r g hb hg q => Row.apartOb hb ob2 (by decide) (by rw [hg, q])), ?_, on2.set (.inr (Nat.le_refl _)) _⟩⟩
  rw [List.replicate_succ']
  exact rw.onl o3 (fun g hg q => rw.apartOb ob2 (by decide) (by rw [hg, q]))

theorem mak_end {w wr : World} {n : Int} {k : Nat} {vS vB : Value} {rv : List Value} (h : Mak w wr k k vS vB rv) (hk : k ≤ lenOf n) (hn : ¬ k < lenOf n) : RDev (fun i => w.heap.size ≤ i) wr w.heap.size (newSd n) ∧ Below w.heap.size w wr := by
  have e : k = lenOf n := by omega
  subst e
  refine ⟨⟨vS, .slice none 0 0, vB, rv, [], ⟨h.ob, Nat.le_refl _, ?_, ?_, Row.nil _ _ _ _, Byts.nil _ _ _, ?_, OkS.new n⟩⟩, h.onl.toBelow (fun _ q => q.elim) (Nat.le_refl _)⟩
  · simpa [newSd] using h.sS
  · exact h.sR
  · simpa [newSd] using h.sB

set_option maxHeartbeats 1000000 in
theorem rnew_any (n : Int) (w : World) (h0 : -9223372036854775808 ≤ n) (h1 : n ≤ 9223372036854775807) :
    Calls Try.prog 13 #[.int .i64 n] w fun e w' => e = .returned (.pointer (some ⟨w.heap.size, 0, none⟩)) ∧ RDev (fun i => w.heap.size ≤ i) w' w.heap.size (newSd n) ∧ Below w.heap.size w w' := by
  have hln : lenOf n ≤ 65536 := by unfold lenOf; split <;> (try split) <;> omega
  have hlt : ∀ k : Nat, k < lenOf n → (k : Int) < n ∧ (k : Int) < 65536 := by unfold lenOf; intro k; split <;> (try split) <;> omega
  have hge : ∀ k : Nat, ¬ k < lenOf n → ¬ ((k : Int) < n ∧ (k : Int) < 65536) := by unfold lenOf; intro k; split <;> (try split) <;> omega
  have HLT := hide hlt
  have HGE := hide hge
  clear hlt hge
  have hst : Mak w (w.alloc (Obj.cells #[Value.slice none 0 0, Value.slice none 0 0, Value.slice none 0 0, Value.int IntKind.i64 (-1), Value.bool false] 76)) 0 0 (.slice none 0 0) (.slice none 0 0) [] :=
    ⟨Ob.new w _ 76, Row.nil _ _ _ _, Byts.nil _ _ _, Row.nil _ _ _ _, (Onl.refl _ _).alloc _⟩
  have HST := hide hst
  have mk := mk32
  clear hst
  go_enter Try.func13, Try.ntmps13
  go_wp2
  go_loopw [4] (fun i wr => ∃ k : Nat, k ≤ lenOf n ∧ i = .int .i64 k ∧ ∃ vS vB rv, Hid (Mak w wr k k vS vB rv)) (fun i _ => lenOf n - (intOf i).toNat)
  case atStart => exact ⟨0, Nat.zero_le _, rfl, _, _, _, HST.out⟩
  case round =>
    obtain ⟨k, hk, rfl, vS, vB, rv, hM⟩ := hrel
    have c0 := hM.out.ob.cell 0
    have c2 := hM.out.ob.cell 2
    have hplt := hM.out.ob.lt
    simp only [List.getElem?_cons_zero, List.getElem?_cons_succ] at c0 c2
    obtain ⟨sa, scap, rfl, hs1, hs2, -, -⟩ := hM.out.sS.form
    obtain ⟨ba, bcap, rfl, hb1, hb2, -, -⟩ := hM.out.sB.form
    by_cases hkn : k < lenOf n
    · obtain ⟨q1, q2⟩ := HLT.out k hkn
      obtain ⟨a1, k1, w2, R1, x1, f1, M1⟩ := mak_S hM.out (by omega)
      obtain ⟨m1, m2, m3⟩ := app_runs R1
      have HM1 := hide M1
      clear R1 M1
      go_wp2
      go_region
      generalize w2.setCell ⟨w.heap.size, 0, none⟩ (.slice a1 (k + 1) k1) = W2 at HM1 ⊢
      obtain ⟨a2, k2, w3, R2, x2, f2, M2⟩ := mak_B HM1.out (by omega)
      obtain ⟨n1, n2, n3⟩ := app_runs R2
      have d2 := HM1.out.ob.cell 2
      have hplt2 := HM1.out.ob.lt
      simp only [List.getElem?_cons_zero, List.getElem?_cons_succ] at d2
      have HM2 := hide M2
      clear R2 M2 m1 m2 m3 HM1
      go_wp2
      go_roundw
      case rel => exact ⟨k + 1, hkn, rfl, _, _, _, HM2.out⟩
      case measure => simp [intOf]; omega
    · have hno := HGE.out k hkn
      by_cases hn1 : (k : Int) < n
      · have hn2 : ¬ (k : Int) < 65536 := fun q => hno ⟨hn1, q⟩
        clear hno
        go_wp2
        go_ret
        exact ⟨rfl, mak_end hM.out hk hkn⟩
      · clear hno
        go_wp2
        go_ret
        exact ⟨rfl, mak_end hM.out hk hkn⟩
end Go.Proofs.Ytdpbkmbegjcgjaa
