/- One parent more, read and appended: both readers, over the translation. -/
import Derived.Test.YtapomhpahdmekaaOPu
import Derived.Test.YtapomhpahdmekaaRef
import Derived.Deep.RegionHeld3
namespace Go.Proofs.Ytapomhpahdmekaa
open Go.RowKit Apo
theorem Rr.onl {F : Nat → Prop} {w w' : World} {p g : Nat} {t : TypeId} {st : St} (h : Rr w p t g st) (o : Onl F w w') (hp : ¬ F p) (hg : ¬ F g) : Rr w' p t g st := by
  cases st with
  | none => exact Ob.onl h o hp
  | some l =>
    obtain ⟨a, cap, h1, h2, h3, h4, h5, h6, h7⟩ := h
    exact ⟨a, cap, h1.onl o hp, h2.onl o (fun x hx h0 => by rw [(h5 x hx h0).1]; exact hg), h3, h4, fun x hx h0 => ⟨(h5 x hx h0).1, (h5 x hx h0).2.1, Nat.lt_of_lt_of_le (h5 x hx h0).2.2 o.size⟩, h6, h7⟩
set_option maxRecDepth 100000 in
theorem infoU64 : (Try.prog.info? 22).map (fun i => (i.zero, i.size, i.bytes)) = some (some (.int .u64 0), 1, 8) := by kernel_rfl
/-- one number more in a row -/
theorem app64 {O : Nat → Prop} {w : World} {v : Value} {cur : List Int} (hown : Row O w 22 1 v cur.length (cur.map (Value.int .u64))) (hl : cur.length ≤ 1000000) (ao : Option Addr) (c : Nat) (l : List Int) (hr : Rd .u64 w ao l) (hn : ao = none → c = 0) (hll : l.length ≤ 1000000) :
    ∃ v' w', (Builtin.append_ #[23, 23] 23 #[v, .slice ao l.length c]).run Try.prog w = .ok v' w' ∧ Row (Gro O w w') w' 22 1 v' (cur ++ l).length ((cur ++ l).map (Value.int .u64)) ∧ Onl O w w' := by
  obtain ⟨i0, hi, hz0, hz1, hz2⟩ := info_parts infoU64
  exact run_append_rdo (P := Try.prog) 23 23 22 i0 _ 8 Try.underlying23 hi hz0 hz1 hz2 rfl .u64 v cur hown ao c l hr hn (by unfold maxLen; omega) (by omega)
/-- what is there behind one parent more -/
def StpA (t : TypeId) (p g qc : Nat) (st : St) (W : World) (c0 c2 c3 c4 : Value) (ps : List Int) (va : Option Addr) (vn vc : Nat) (w5 : World) : Prop :=
  ∃ va8 vn8 vc8 w8, AppRuns Try.prog (w5.alloc (.cells #[.int .u64 (rnum st full).1] 22)) #[23, 23] 23 #[.slice va vn vc, .slice (some ⟨w5.heap.size, 0, none⟩) 1 1] ∧
    appVal Try.prog (w5.alloc (.cells #[.int .u64 (rnum st full).1] 22)) #[23, 23] 23 #[.slice va vn vc, .slice (some ⟨w5.heap.size, 0, none⟩) 1 1] = .slice va8 vn8 vc8 ∧
    appWld Try.prog (w5.alloc (.cells #[.int .u64 (rnum st full).1] 22)) #[23, 23] 23 #[.slice va vn vc, .slice (some ⟨w5.heap.size, 0, none⟩) 1 1] = w8 ∧
    w8.cell? ⟨qc, 1, none⟩ = some (.slice va vn vc) ∧ w8.frozen? ⟨qc, 1, none⟩ = false ∧
    Hid (Rr (w8.setCell ⟨qc, 1, none⟩ (.slice va8 vn8 vc8)) p t g (rnum st full).2 ∧ Ob (w8.setCell ⟨qc, 1, none⟩ (.slice va8 vn8 vc8)) qc 25 [c0, .slice va8 vn8 vc8, c2, c3, c4] ∧
      Row (fun i => qc < i ∧ i < (w8.setCell ⟨qc, 1, none⟩ (.slice va8 vn8 vc8)).heap.size) (w8.setCell ⟨qc, 1, none⟩ (.slice va8 vn8 vc8)) 22 1 (.slice va8 vn8 vc8) (ps ++ [(rnum st full).1]).length ((ps ++ [(rnum st full).1]).map (Value.int .u64)) ∧
      Onl (fun i => i = p ∨ qc ≤ i) W (w8.setCell ⟨qc, 1, none⟩ (.slice va8 vn8 vc8)))
theorem stp_any (t : TypeId) (p g qc : Nat) (st : St) (W w5 : World) (c0 c2 c3 c4 : Value) (ps : List Int) (va : Option Addr) (vn vc : Nat) (hR : Rr w5 p t g (rnum st full).2) (hk : Ob W qc 25 [c0, .slice va vn vc, c2, c3, c4]) (hrow : Row (fun i => qc < i ∧ i < W.heap.size) W 22 1 (.slice va vn vc) ps.length (ps.map (Value.int .u64))) (hp : p < qc) (hg : g < qc) (hl : ps.length ≤ 1000) (hgr : W.grownBy w5 (some p)) :
    (w5.cell? ⟨qc, 1, none⟩ = some (.slice va vn vc) ∧ (w5.alloc (.cells #[.int .u64 (rnum st full).1] 22)).cell? ⟨qc, 1, none⟩ = some (.slice va vn vc)) ∧ StpA t p g qc st W c0 c2 c3 c4 ps va vn vc w5 := by
  have o5 : Onl (fun i => i = p) W w5 := (Onl.refl _ W).grown hgr (fun j hj => .inl (by cases hj; rfl))
  have k5 := hk.onl o5 (by omega)
  have hlt := hk.lt
  have z5 := o5.size
  have b6 : Below w5.heap.size w5 (w5.alloc (.cells #[.int .u64 (rnum st full).1] 22)) := (Below.refl _ _).alloc (Nat.le_refl _) _
  have r6 := (hrow.onl o5 (fun g hg q => by have := (hrow.2 g hg).1; omega)).onl (F := fun _ => False) (Onl.ofBelow b6) (fun _ _ q => q)
  obtain ⟨v8, w8, RA, r8, o8⟩ := app64 r6 (by omega) (some ⟨w5.heap.size, 0, none⟩) 1 [(rnum st full).1] (rd_lit1 _ _ _ _) (by simp) (by simp)
  obtain ⟨va8, vc8, hv8, _⟩ := r8.form
  obtain ⟨vn8, hvn⟩ : ∃ vn8, vn8 = (ps ++ [(rnum st full).1]).length := ⟨_, rfl⟩
  have hv9 : v8 = .slice va8 vn8 vc8 := by rw [hv8, hvn]
  clear hv8
  subst hv9
  obtain ⟨s1, s2, s3⟩ := app_runs RA
  have k8 := (k5.old b6).onl o8 (fun q => by have := q.1; omega)
  have z8 := o8.size
  simp only [World.size_alloc] at z8
  have hW9 : (w8.setCell ⟨qc, 1, none⟩ (.slice va8 vn8 vc8)).heap.size = w8.heap.size := by simp [World.setCell]
  have o9 : Onl (fun i => i = qc) w8 (w8.setCell ⟨qc, 1, none⟩ (.slice va8 vn8 vc8)) := (Onl.refl (fun i => i = qc) w8).set (p := qc) (.inl rfl) _
  have OO : Onl (fun i => i = p ∨ qc ≤ i) W (w8.setCell ⟨qc, 1, none⟩ (.slice va8 vn8 vc8)) :=
    (((o5.mono (O' := fun i => i = p ∨ qc ≤ i) (fun i q => .inl q)).trans (Onl.ofBelow b6)).more o8 (fun i q => .inl (.inr (by have := q.1; omega)))).more o9 (fun i q => .inl (.inr (by omega)))
  refine ⟨⟨k5.cell 1, (k5.old b6).cell 1⟩, va8, vn8, vc8, w8, s1, s2, s3, k8.cell 1, k8.frozen 1, hide ⟨?_, k8.set 1 _, ?_, OO⟩⟩
  · exact ((hR.old b6).onl o8 (fun q => by have := q.1; omega) (fun q => by have := q.1; omega)).onl o9 (by omega) (by omega)
  · refine (r8.onl o9 (fun i hi q => ?_)).mono (fun i q => ?_)
    · have h1 := r8.2 i hi
      rcases h1 with h1 | h1
      · have := h1.1; omega
      · have := h1.1; simp only [World.size_alloc] at this; omega
    · rw [hW9]
      rcases q with q | q
      · exact ⟨q.1, by have := q.2; omega⟩
      · have := q.1
        simp only [World.size_alloc] at this
        exact ⟨by omega, q.2⟩
theorem stp_p (p g qc : Nat) (st : St) (W : World) (c0 c2 c3 c4 : Value) (ps : List Int) (va : Option Addr) (vn vc : Nat) (hR : Rr W p 63 g st) (hk : Ob W qc 25 [c0, .slice va vn vc, c2, c3, c4]) (hrow : Row (fun i => qc < i ∧ i < W.heap.size) W 22 1 (.slice va vn vc) ps.length (ps.map (Value.int .u64))) (hp : p < qc) (hg : g < qc) (hl : ps.length ≤ 1000) :
    Calls Try.prog 24 #[.pointer (some ⟨p, 0, none⟩), .int .u64 18446744073709551615] W fun e w5 => e = .returned (.int .u64 (rnum st full).1) ∧ (w5.cell? ⟨qc, 1, none⟩ = some (.slice va vn vc) ∧ (w5.alloc (.cells #[.int .u64 (rnum st full).1] 22)).cell? ⟨qc, 1, none⟩ = some (.slice va vn vc)) ∧ StpA 63 p g qc st W c0 c2 c3 c4 ps va vn vc w5 := by
  refine (rdnum_any p g st full W hR).mono ?_
  rintro e w5 ⟨rfl, r5, g5⟩
  exact ⟨rfl, stp_any _ p g qc st W w5 c0 c2 c3 c4 ps va vn vc r5 hk hrow hp hg hl g5⟩
theorem stp_x (p g qc : Nat) (st : St) (W : World) (c0 c2 c3 c4 : Value) (ps : List Int) (va : Option Addr) (vn vc : Nat) (hR : Rr W p 58 g st) (hk : Ob W qc 25 [c0, .slice va vn vc, c2, c3, c4]) (hrow : Row (fun i => qc < i ∧ i < W.heap.size) W 22 1 (.slice va vn vc) ps.length (ps.map (Value.int .u64))) (hp : p < qc) (hg : g < qc) (hl : ps.length ≤ 1000) :
    Calls Try.prog 27 #[.pointer (some ⟨p, 0, none⟩), .int .u64 18446744073709551615] W fun e w5 => e = .returned (.int .u64 (rnum st full).1) ∧ (w5.cell? ⟨qc, 1, none⟩ = some (.slice va vn vc) ∧ (w5.alloc (.cells #[.int .u64 (rnum st full).1] 22)).cell? ⟨qc, 1, none⟩ = some (.slice va vn vc)) ∧ StpA 58 p g qc st W c0 c2 c3 c4 ps va vn vc w5 := by
  refine (xnum_any p g st full W hR).mono ?_
  rintro e w5 ⟨rfl, r5, g5⟩
  exact ⟨rfl, stp_any _ p g qc st W w5 c0 c2 c3 c4 ps va vn vc r5 hk hrow hp hg hl g5⟩
end Go.Proofs.Ytapomhpahdmekaa
