/- Sectors and cached writes as values, over the translation: how they are loaded, stored, built and compared. -/
import Derived.Test.YtdpbkmbegjcgjaaCDev
import Derived.Deep.WholeRow
import Derived.BigRegion
namespace Go.Proofs.Ytdpbkmbegjcgjaa
open Go.RowKit Apo

structure Len32 (r : List Int) : Prop where
  len : r.length = 32

theorem info_sec : (Try.prog.info? 78).map (fun i => (i.zero, i.size, i.bytes)) = some (some (.agg (secA zeros)), 32, 32) := by kernel_rfl
theorem info_wri : (Try.prog.info? 80).map (fun i => (i.zero, i.size, i.bytes)) = some (some (.agg (wrA (0, zeros))), 33, 40) := by kernel_rfl
theorem size_sec : (Try.prog.info? 78).map (·.size) = some 32 := by kernel_rfl
theorem size_wri : (Try.prog.info? 80).map (·.size) = some 33 := by kernel_rfl
theorem size_byt : (Try.prog.info? 5).map (·.size) = some 1 := by kernel_rfl
theorem al_sec : AlRuns Try.prog 78 := (al_runs info_sec).1
theorem al_wri : AlRuns Try.prog 80 := (al_runs info_wri).1
theorem zc_sec : zc Try.prog 78 = secA zeros := (al_runs info_sec).2
theorem zc_wri : zc Try.prog 80 = wrA (0, zeros) := (al_runs info_wri).2
theorem secA_size {r : List Int} (h : Len32 r) : (secA r).size = 32 := by simp [secA, secV, h.len]
theorem wrA_size {x : Nat × List Int} (h : Len32 x.2) : (wrA x).size = 33 := by simp [wrA, wrV, secV, h.len]
theorem secA_one (r : List Int) : (secA r).all (·.oneCell') = true := by
  rw [Array.all_eq_true_iff_forall_mem]
  intro v hv
  exact secV_one r v (by simpa [secA] using hv)
theorem wrA_one (x : Nat × List Int) : (wrA x).all (·.oneCell') = true := by
  rw [Array.all_eq_true_iff_forall_mem]
  intro v hv
  exact wrV_one x v (by simpa [wrA] using hv)
theorem zeros32 : Len32 zeros := ⟨by simp [zeros]⟩

/-- the whole of a new variable is stored -/
theorem st_new_sec (w : World) {r : List Int} (h : Len32 r) : StRuns Try.prog (w.alloc (.cells (zc Try.prog 78) 78)) 78 (.pointer (some ⟨w.heap.size, 0, none⟩)) (.agg (secA r)) ∧
    stWld Try.prog (w.alloc (.cells (zc Try.prog 78) 78)) 78 (.pointer (some ⟨w.heap.size, 0, none⟩)) (.agg (secA r)) = w.alloc (.cells (secA r) 78) :=
  st_runs (run_storeAt_new w 78 (zc Try.prog 78) (secA r) (by rw [secA_size h]; exact size_sec) (by rw [zc_sec, secA_size h, secA_size zeros32]) (secA_one r))
theorem st_new_wri (w : World) {x : Nat × List Int} (h : Len32 x.2) : StRuns Try.prog (w.alloc (.cells (zc Try.prog 80) 80)) 80 (.pointer (some ⟨w.heap.size, 0, none⟩)) (.agg (wrA x)) ∧
    stWld Try.prog (w.alloc (.cells (zc Try.prog 80) 80)) 80 (.pointer (some ⟨w.heap.size, 0, none⟩)) (.agg (wrA x)) = w.alloc (.cells (wrA x) 80) :=
  st_runs (run_storeAt_new w 80 (zc Try.prog 80) (wrA x) (by rw [wrA_size h]; exact size_wri) (by rw [zc_wri, wrA_size h, wrA_size (x := (0, zeros)) zeros32]) (wrA_one x))

/-- a sector out of a row, by its cells -/
theorem ld_sec {w : World} {g o : Nat} {r : List Int} (h : Len32 r) (hc : ∀ j, j < 32 → w.cell? ⟨g, o + j, none⟩ = (secV r)[j]?) : LdRuns Try.prog w 78 (.pointer (some ⟨g, o, none⟩)) ∧ ldVal Try.prog w 78 (.pointer (some ⟨g, o, none⟩)) = .agg (secA r) :=
  ld_runs (run_loadAt_cells 78 _ Try.underlying78 rfl (secV r) (by rw [size_sec]; simp [secV, h.len]) ⟨g, o, none⟩ (fun j v hv => by
    have hj : j < 32 := by have := (List.getElem?_eq_some_iff.1 hv).1; simpa [secV, h.len] using this
    have e : (⟨g, o, none⟩ : Addr).add j = ⟨g, o + j, none⟩ := by unfold Addr.add; split <;> simp_all
    rw [e, hc j hj, hv]))
theorem ld_wri {w : World} {g o : Nat} {x : Nat × List Int} (h : Len32 x.2) (hc : ∀ j, j < 33 → w.cell? ⟨g, o + j, none⟩ = (wrV x)[j]?) : LdRuns Try.prog w 80 (.pointer (some ⟨g, o, none⟩)) ∧ ldVal Try.prog w 80 (.pointer (some ⟨g, o, none⟩)) = .agg (wrA x) :=
  ld_runs (run_loadAt_cells 80 _ Try.underlying80 rfl (wrV x) (by rw [size_wri]; simp [wrV, secV, h.len]) ⟨g, o, none⟩ (fun j v hv => by
    have hj : j < 33 := by have := (List.getElem?_eq_some_iff.1 hv).1; simpa [wrV, secV, h.len] using this
    have e : (⟨g, o, none⟩ : Addr).add j = ⟨g, o + j, none⟩ := by unfold Addr.add; split <;> simp_all
    rw [e, hc j hj, hv]))
theorem ld_wri_ob {w : World} {g : Nat} {x : Nat × List Int} (h : Len32 x.2) (hO : Ob w g 80 (wrV x)) : LdRuns Try.prog w 80 (.pointer (some ⟨g, 0, none⟩)) ∧ ldVal Try.prog w 80 (.pointer (some ⟨g, 0, none⟩)) = .agg (wrA x) :=
  ld_wri h (fun j _ => by rw [Nat.zero_add]; exact hO.cell j)

/-- a write that is built -/
theorem bd_wri {k : Nat} {r : List Int} (h : Len32 r) : BdRuns Try.prog 80 #[(0, .int .i64 k), (1, .agg (secA r))] ∧ bdVal Try.prog 80 #[(0, .int .i64 k), (1, .agg (secA r))] = .agg (wrA (k, r)) := by
  refine bd_runs (fun w => ?_)
  obtain ⟨i, hi, hz, hs, _⟩ := info_parts info_wri
  have e := fill_two (place := fun i => ([(0, 1), (1, 32)] : List (Nat × Nat))[i]?) (cs := wrV (0, zeros)) (v := .int .i64 k) (u := .agg (secA r)) (vs := [.int .i64 k]) (us := secV r) (i := 0) (j := 1) (o1 := 0) (o2 := 1) (n1 := 1) (n2 := 32) rfl rfl rfl rfl rfl (by simp [secV, h.len]) (by simp [wrV]) (by simp [wrV, secV, zeros])
  have e2 : over (over (wrV (0, zeros)) 0 [.int .i64 k]) 1 (secV r) = wrV (k, r) := by
    have : (secV zeros).length = (secV r).length := by simp [secV, zeros, h.len]
    simp [over, wrV, ← this]
    omega
  rw [e2] at e
  have hz2 : (zeroValue 80).run Try.prog w = .ok (.agg (wrA (0, zeros))) w := by simp [zeroValue, typeInfo, hi, hz]
  simp only [Instr.build, Sem.run_bind, hz2, Result.andThen_ok, run_underlying Try.underlying80]
  simp [Try.sizeOf3, Try.sizeOf78, Value.cells]
  rw [show Instr.fill (fun x => [(0, 1), (1, 32)][x]?) (wrA (0, zeros)) [(0, Value.int .i64 (k : Int)), (1, Value.agg (secA r))] = some (wrA (k, r)) from e]
  rfl

/-- a piece of a sector, and the whole -/
theorem slice_sec {a : Addr} {n : Nat} (hn : n ≤ 32) (w : World) : (Instr.sliceAt 78 (.pointer (some a)) none (some (.int .i64 n)) none).run Try.prog w = .ok (.slice (some a) n 32) w := by
  simp [Instr.sliceAt, run_underlying Try.underlying78, Instr.sureAddr, Instr.sliceBounds, Instr.sliceBound, Try.sizeOf5, Addr.add, asIntOf]
  omega
theorem slice_all {a : Addr} (w : World) : (Instr.sliceAt 78 (.pointer (some a)) none none none).run Try.prog w = .ok (.slice (some a) 32 32) w := by
  simp [Instr.sliceAt, run_underlying Try.underlying78, Instr.sureAddr, Instr.sliceBounds, Try.sizeOf5, Addr.add]

/-- two writes of one sector, held against each other -/
def NeRuns (P : Program) (t : TypeId) (v u : Value) : Prop := ∃ b, ∀ w x y, (do eqGuard .neq t x y v u; binOp .neq t v u : Sem Value).run P w = .ok (.bool b) w
noncomputable def neVal (P : Program) (t : TypeId) (v u : Value) : Value := match (do eqGuard .neq t (.const (.bool true)) (.const (.bool true)) v u; binOp .neq t v u : Sem Value).run P default with
  | .ok u _ => u
  | _ => undef
theorem ne_runs {P : Program} {t : TypeId} {v u : Value} {b : Bool} (h : ∀ w x y, (do eqGuard .neq t x y v u; binOp .neq t v u : Sem Value).run P w = .ok (.bool b) w) : NeRuns P t v u ∧ neVal P t v u = .bool b := ⟨⟨b, h⟩, by unfold neVal; rw [h]⟩
theorem ne_exec {P : Program} {w : World} {ρ : Operand → Value} {dst : Option Tmp} {t t' : TypeId} {x y : Operand} {ty : TypeId} {pos : String} {after : Array Edge} {guard : Option (Nat × Bool)} (h : NeRuns P t (ρ x) (ρ y)) :
    (execOp ρ { dst, op := .binOp .neq t x y t', type := ty, pos, after, guard }).run P w = .ok (.value (neVal P t (ρ x) (ρ y))) w := by
  obtain ⟨u, h⟩ := h
  obtain ⟨_, e⟩ := ne_runs h
  rw [e]
  have h1 := h w x y
  simp only [execOp, Sem.run_bind] at h1 ⊢
  rw [h1]
  simp [Result.andThen]
theorem eq_wri (d : Nat) (w : World) {k : Nat} {r s : List Int} {xs ys : List UInt8} (hx : xs.map Extern.Stop.cell = secV r) (hy : ys.map Extern.Stop.cell = secV s) (hr : r.length = 32) (hs : s.length = 32) (hxl : xs.length = r.length) (hyl : ys.length = s.length) :
    (Op.equalIn (d + 3) 80 (.agg (wrA (k, r))) (.agg (wrA (k, s)))).run Try.prog w = .ok (xs == ys) w := by
  have hb := run_equalIn_bytes (P := Try.prog) w d 78 5 32 Try.underlying78 Try.underlying5 Try.sizeOf5 xs ys (by rw [hxl, hr]) (by rw [hyl, hs])
  rw [hx, hy] at hb
  have p1 : ∀ q : List Int, q.length = 32 → (part 78 (wrA (k, q)) 1).run Try.prog w = .ok (.agg (secV q).toArray) w := by
    intro q hq
    have : (wrA (k, q)).extract 1 (1 + 32) = (secV q).toArray := by
      simp [wrA, wrV]
      rw [List.take_of_length_le (by simp [secV, hq])]
    simp [part, isAgg, run_underlying Try.underlying78, Try.sizeOf78, this]
  have p0 : ∀ q : List Int, (part 3 (wrA (k, q)) 0).run Try.prog w = .ok (.int .i64 k) w := by
    intro q
    simp [part, isAgg, run_underlying Try.underlying3, wrA, wrV]
  have q0 : (Op.equalIn (d + 2) 3 (.int .i64 k) (.int .i64 k)).run Try.prog w = .ok true w := by
    have := run_equalIn_int (P := Try.prog) w (d + 1) 3 .i64 .i64 k k Try.underlying3
    simpa using this
  rw [run_equalIn_struct w (d + 2) 80 _ _ (by simp only [Program.fieldsOf, Try.underlying80]) Try.stoodInHeld80]
  simp only [Program.fieldsOf, Try.underlying80]
  have n1 : ("at" : String) ≠ "_" := by decide
  have n2 : ("data" : String) ≠ "_" := by decide
  simp only [Op.eqFields]
  rw [if_pos n1, Sem.run_bind, p0, Result.andThen_ok, Sem.run_bind, p0, Result.andThen_ok, Sem.run_bind, q0, Result.andThen_ok, if_neg (by decide), if_pos n2, Sem.run_bind, p1 r hr, Result.andThen_ok, Sem.run_bind, p1 s hs, Result.andThen_ok, Sem.run_bind, hb, Result.andThen_ok]
  generalize (xs == ys) = q
  cases q
  · rw [if_pos (by decide), Sem.run_pure]
  · rw [if_neg (by decide), Sem.run_pure]
theorem ne_wri {k : Nat} {r s : List Int} (hr : Sec r) (hs : Sec s) : ∃ b, NeRuns Try.prog 80 (.agg (wrA (k, r))) (.agg (wrA (k, s))) ∧ neVal Try.prog 80 (.agg (wrA (k, r))) (.agg (wrA (k, s))) = .bool b ∧ (b = false → r = s) := by
  obtain ⟨xs, hx, hxl⟩ := bytes_cells hr.2
  obtain ⟨ys, hy, hyl⟩ := bytes_cells hs.2
  have hrun : ∀ w x y, (do eqGuard .neq 80 x y (.agg (wrA (k, r))) (.agg (wrA (k, s))); binOp .neq 80 (.agg (wrA (k, r))) (.agg (wrA (k, s))) : Sem Value).run Try.prog w = .ok (.bool (!(xs == ys))) w := by
    intro w x y
    have h1 := eq_wri 9997 w (k := k) hx hy hr.1 hs.1 hxl hyl
    rw [Sem.run_bind, run_eqGuard_agg (P := Try.prog) w .neq 80 x y _ _ Try.eqGuardType80, Result.andThen_ok, run_neq_struct, h1]
    rfl
  obtain ⟨a1, a2⟩ := ne_runs hrun
  refine ⟨_, a1, a2, ?_⟩
  intro hb
  have : xs = ys := by simpa using hb
  exact secV_inj (by rw [← hx, ← hy, this])
end Go.Proofs.Ytdpbkmbegjcgjaa
