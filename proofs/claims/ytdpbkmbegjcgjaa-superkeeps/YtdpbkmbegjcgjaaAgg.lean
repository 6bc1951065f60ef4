/- Whole arrays, and structs with arrays in them, as an operation loads, stores, builds and copies them: each by its run, ahead of any unfolding. No Go text is named here. -/
import Derived.Test.YtdpbkmbegjcgjaaOnl
import Derived.Test.YtdpbkmbegjcgjaaApp
import Derived.Laws.CopyRow
import Derived.Stop.BytesEq
import Derived.BigFrame
namespace Apo
open Go Go.RowKit

/-! a load that runs to its end and leaves the world -/
def LdRuns (P : Program) (w : World) (t : TypeId) (v : Value) : Prop := ∃ u, (Instr.loadAt t v).run P w = .ok u w
noncomputable def ldVal (P : Program) (w : World) (t : TypeId) (v : Value) : Value := match (Instr.loadAt t v).run P w with
  | .ok u _ => u
  | _ => undef
theorem ld_runs {P : Program} {w : World} {t : TypeId} {v u : Value} (h : (Instr.loadAt t v).run P w = .ok u w) : LdRuns P w t v ∧ ldVal P w t v = u := ⟨⟨u, h⟩, by unfold ldVal; rw [h]⟩
theorem ld_exec {P : Program} {w : World} {ρ : Operand → Value} {dst : Option Tmp} {t : TypeId} {x : Operand} {ty : TypeId} {pos : String} {after : Array Edge} {guard : Option (Nat × Bool)} (h : LdRuns P w t (ρ x)) :
    (execOp ρ { dst, op := .load t x, type := ty, pos, after, guard }).run P w = .ok (.value (ldVal P w t (ρ x))) w := by
  obtain ⟨u, h⟩ := h
  obtain ⟨_, e⟩ := ld_runs h
  rw [e]
  simp [execOp, h, Result.andThen]

/-! a store that runs to its end -/
def StRuns (P : Program) (w : World) (t : TypeId) (v u : Value) : Prop := ∃ w', (Instr.storeAt t v u).run P w = .ok () w'
noncomputable def stWld (P : Program) (w : World) (t : TypeId) (v u : Value) : World := match (Instr.storeAt t v u).run P w with
  | .ok _ w' => w'
  | _ => w
theorem st_runs {P : Program} {w w' : World} {t : TypeId} {v u : Value} (h : (Instr.storeAt t v u).run P w = .ok () w') : StRuns P w t v u ∧ stWld P w t v u = w' := ⟨⟨w', h⟩, by unfold stWld; rw [h]⟩
theorem st_exec {P : Program} {w : World} {ρ : Operand → Value} {dst : Option Tmp} {t : TypeId} {x y : Operand} {ty : TypeId} {pos : String} {after : Array Edge} {guard : Option (Nat × Bool)} (h : StRuns P w t (ρ x) (ρ y)) :
    (execOp ρ { dst, op := .store t x y, type := ty, pos, after, guard }).run P w = .ok .skip (stWld P w t (ρ x) (ρ y)) := by
  obtain ⟨w', h⟩ := h
  obtain ⟨_, e⟩ := st_runs h
  rw [e]
  simp [execOp, h, Result.andThen]

/-! a struct or array that is built -/
def BdRuns (P : Program) (t : TypeId) (ps : Array (Nat × Value)) : Prop := ∃ u, ∀ w, (Instr.build t ps).run P w = .ok u w
noncomputable def bdVal (P : Program) (t : TypeId) (ps : Array (Nat × Value)) : Value := match (Instr.build t ps).run P default with
  | .ok u _ => u
  | _ => undef
theorem bd_runs {P : Program} {t : TypeId} {ps : Array (Nat × Value)} {u : Value} (h : ∀ w, (Instr.build t ps).run P w = .ok u w) : BdRuns P t ps ∧ bdVal P t ps = u := ⟨⟨u, h⟩, by unfold bdVal; rw [h]⟩
theorem bd_exec {P : Program} {w : World} {ρ : Operand → Value} {dst : Option Tmp} {t : TypeId} {ps : Array (Nat × Operand)} {ty : TypeId} {pos : String} {after : Array Edge} {guard : Option (Nat × Bool)} (h : BdRuns P t (ps.map fun (i, x) => (i, ρ x))) :
    (execOp ρ { dst, op := .build t ps, type := ty, pos, after, guard }).run P w = .ok (.value (bdVal P t (ps.map fun (i, x) => (i, ρ x)))) w := by
  obtain ⟨u, h⟩ := h
  obtain ⟨_, e⟩ := bd_runs h
  rw [e]
  have h1 := h w
  simp only [execOp, Sem.run_bind]
  rw [h1]
  simp [Result.andThen]

/-! a copy that runs to its end -/
def CpRuns (P : Program) (w : World) (ts : Array TypeId) (ty : TypeId) (xs : Array Value) : Prop := ∃ v' w', (Builtin.copy_ ts ty xs).run P w = .ok v' w'
noncomputable def cpVal (P : Program) (w : World) (ts : Array TypeId) (ty : TypeId) (xs : Array Value) : Value := match (Builtin.copy_ ts ty xs).run P w with
  | .ok v _ => v
  | _ => undef
noncomputable def cpWld (P : Program) (w : World) (ts : Array TypeId) (ty : TypeId) (xs : Array Value) : World := match (Builtin.copy_ ts ty xs).run P w with
  | .ok _ w' => w'
  | _ => w
theorem cp_runs {P : Program} {w w' : World} {ts : Array TypeId} {ty : TypeId} {xs : Array Value} {v' : Value} (h : (Builtin.copy_ ts ty xs).run P w = .ok v' w') : CpRuns P w ts ty xs ∧ cpVal P w ts ty xs = v' ∧ cpWld P w ts ty xs = w' :=
  ⟨⟨v', w', h⟩, by unfold cpVal; rw [h], by unfold cpWld; rw [h]⟩
theorem cp_exec {P : Program} {w : World} {ρ : Operand → Value} {dst : Option Tmp} {xs : Array Operand} {ats : Array TypeId} {ty : TypeId} {pos : String} {after : Array Edge} {guard : Option (Nat × Bool)} (h : CpRuns P w ats ty (xs.map ρ)) :
    (execOp ρ { dst, op := .call { callee := .builtin .copy, args := xs, argTypes := ats }, type := ty, pos, after, guard }).run P w = .ok (.value (cpVal P w ats ty (xs.map ρ))) (cpWld P w ats ty (xs.map ρ)) := by
  rw [BigFrame.execOp_builtin, BigFrame.builtin_copy]
  obtain ⟨v', w', h⟩ := h
  obtain ⟨_, h1, h2⟩ := cp_runs h
  rw [h1, h2]
  simp [h]

/-! what a load of cells that are known gives -/
theorem run_loadAt_cells {P : Program} {w : World} (t : TypeId) (d : TypeDesc) (hu : P.underlying t = some d) (hd : (match d with | .struct _ | .array _ _ => true | _ => false) = true) (cs : List Value) (hi : (P.info? t).map (·.size) = some cs.length)
    (ad : Addr) (h : ∀ j v, cs[j]? = some v → w.cell? (ad.add j) = some v) : (Instr.loadAt t (.pointer (some ad))).run P w = .ok (.agg cs.toArray) w := by
  have hl := run_loadCells_list (P := P) w ad cs h
  cases hq : P.info? t with
  | none => simp [hq] at hi
  | some i =>
    have hs : i.size = cs.length := by simpa [hq] using hi
    have hagg : (isAgg t).run P w = .ok true w := by
      unfold isAgg
      rw [Sem.run_bind, run_underlying hu w]
      cases d <;> simp_all
    simp [Instr.loadAt, Instr.sureAddr, loadVar, Sem.run_bind, hagg, Go.sizeOf, typeInfo, hq, hs, hl]

/-- a segment of a row is laid over -/
def over (cs : List Value) (o : Nat) (vs : List Value) : List Value := cs.take o ++ vs ++ cs.drop (o + vs.length)
theorem over_len {cs vs : List Value} {o : Nat} (h : o + vs.length ≤ cs.length) : (over cs o vs).length = cs.length := by simp [over]; omega

theorem run_storeAt_cells {P : Program} {w : World} (t e : TypeId) (g o : Nat) (cs vs : List Value) (hi : (P.info? t).map (·.size) = some vs.length) (h1 : ∀ v ∈ vs, v.oneCell' = true) (hO : Ob w g e cs) (hl : o + vs.length ≤ cs.length) :
    ∃ w', (Instr.storeAt t (.pointer (some ⟨g, o, none⟩)) (.agg vs.toArray)).run P w = .ok () w' ∧ Ob w' g e (over cs o vs) ∧ Onl (fun k => k = g) w w' := by
  have hr := run_storeCells_at P g o e vs 0 cs.toArray w hO (by simpa using hl) h1
  cases hq : P.info? t with
  | none => simp [hq] at hi
  | some i =>
    have hs : i.size = vs.length := by simpa [hq] using hi
    refine ⟨w.setRow g (over cs o vs).toArray, ?_, ?_, ?_⟩
    · simp only [Nat.add_zero] at hr
      simp [Instr.storeAt, Instr.sureAddr, storeVar, Go.sizeOf, typeInfo, hq, Value.cells, hs, hr, over]
    · exact setRow_heap w g cs.toArray _ e _ hO
    · exact ⟨rfl, rfl, rfl, by simp, fun k _ hk => setRow_other w g k _ hk⟩
/-- a copy of bytes into an own row -/
theorem run_copy_over {P : Program} {w : World} (dT sT ty elem e : TypeId) (hu : P.underlying dT = some (.slice elem)) (hs : (P.info? elem).map (·.size) = some 1) (g o n dCap : Nat) (a : Addr) (sCap : Nat) (cs vs : List Value) (hO : Ob w g e cs) (hn : vs.length = n)
    (hsrc : ∀ j v, vs[j]? = some v → w.cell? (a.add j) = some v) (hl : o + n ≤ cs.length) (h1 : ∀ v ∈ vs, v.oneCell' = true) :
    ∃ w', (Builtin.copy_ #[dT, sT] ty #[.slice (some ⟨g, o, none⟩) n dCap, .slice (some a) n sCap]).run P w = .ok (.int .i64 n) w' ∧ Ob w' g e (over cs o vs) ∧ Onl (fun k => k = g) w w' := by
  subst hn
  have hr := run_copy_row P w dT sT ty elem g o vs.length dCap a vs.length sCap cs.toArray e vs hu hs hO (by simp) hsrc (by simpa using hl) h1
  exact ⟨_, hr, setRow_heap w g cs.toArray _ e _ hO, ⟨rfl, rfl, rfl, by simp, fun k _ hk => setRow_other w g k _ hk⟩⟩

/-! cells of a row of things of one size -/
section
variable {α : Type} {f : α → List Value} {n : Nat}
theorem flat_len : ∀ {l : List α}, (∀ x ∈ l, (f x).length = n) → (l.flatMap f).length = l.length * n
  | [], _ => by simp
  | x :: l, h => by
    rw [List.flatMap_cons, List.length_append, h x (by simp), flat_len (fun y hy => h y (by simp [hy])), List.length_cons, Nat.add_mul, Nat.one_mul, Nat.add_comm]
theorem flat_at : ∀ {l : List α} {i : Nat} {x : α} {j : Nat}, (∀ x ∈ l, (f x).length = n) → l[i]? = some x → j < n → (l.flatMap f)[i * n + j]? = (f x)[j]?
  | [], _, _, _, _, h, _ => by simp at h
  | y :: l, 0, x, j, hl, h, hj => by
    simp at h
    subst h
    rw [List.flatMap_cons, List.getElem?_append_left (by rw [hl y (by simp)]; omega)]
    congr 1
    omega
  | y :: l, i + 1, x, j, hl, h, hj => by
    have e1 := hl y (by simp)
    rw [List.flatMap_cons, List.getElem?_append_right (by rw [e1, Nat.add_mul]; omega), e1]
    have e2 : (i + 1) * n + j - n = i * n + j := by rw [Nat.add_mul]; omega
    rw [e2]
    exact flat_at (fun z hz => hl z (by simp [hz])) (by simpa using h) hj
theorem flat_set : ∀ {l : List α} {i : Nat} {x : α}, (∀ x ∈ l, (f x).length = n) → (f x).length = n → i < l.length → over (l.flatMap f) (i * n) (f x) = (l.set i x).flatMap f
  | [], _, _, _, _, h => by simp at h
  | y :: l, 0, x, hl, hx, _ => by
    have e1 := hl y (by simp)
    simp [over, hx, ← e1]
  | y :: l, i + 1, x, hl, hx, h => by
    have e1 := hl y (by simp)
    have ih := flat_set (l := l) (i := i) (x := x) (fun z hz => hl z (by simp [hz])) hx (by simpa using h)
    rw [List.set_cons_succ, List.flatMap_cons, List.flatMap_cons, ← ih]
    unfold over
    have e2 : (i + 1) * n = n + i * n := by rw [Nat.add_mul]; omega
    rw [e2, hx, List.take_append, List.drop_append, e1]
    have e3 : n + i * n - n = i * n := by omega
    have e4 : n + i * n + n - n = i * n + n := by omega
    rw [e3, e4, List.take_of_length_le (by omega), List.drop_eq_nil_of_le (by omega)]
    simp
end

/-- a sector's cells; those of sectors, of cached writes -/
def secV (r : List Int) : List Value := r.map (Value.int .u8)
def wrV (x : Nat × List Int) : List Value := .int .i64 x.1 :: secV x.2
def scells (S : List (List Int)) : List Value := S.flatMap secV
def wcells (C : List (Nat × List Int)) : List Value := C.flatMap wrV
def secA (r : List Int) : Array Value := (secV r).toArray
def wrA (x : Nat × List Int) : Array Value := (wrV x).toArray
theorem secV_one (r : List Int) : ∀ v ∈ secV r, v.oneCell' = true := by
  intro v hv
  simp only [secV, List.mem_map] at hv
  obtain ⟨z, _, rfl⟩ := hv
  rfl
theorem wrV_one (x : Nat × List Int) : ∀ v ∈ wrV x, v.oneCell' = true := by
  intro v hv
  simp only [wrV, List.mem_cons] at hv
  rcases hv with rfl | hv
  · rfl
  · exact secV_one _ v hv

/-- bytes as bytes -/
theorem bytes_cells {r : List Int} (h : ∀ z ∈ r, 0 ≤ z ∧ z ≤ 255) : ∃ xs : List UInt8, xs.map Extern.Stop.cell = secV r ∧ xs.length = r.length := by
  refine ⟨r.map (fun z => UInt8.ofNat z.toNat), ?_, by simp⟩
  simp only [secV, List.map_map]
  apply List.map_congr_left
  intro z hz
  obtain ⟨h0, h1⟩ := h z hz
  simp only [Function.comp, Extern.Stop.cell]
  congr 1
  have : (UInt8.ofNat z.toNat).toNat = z.toNat := by simp [UInt8.toNat_ofNat']; omega
  rw [this]
  exact Int.toNat_of_nonneg h0
theorem secV_inj : ∀ {r s : List Int}, secV r = secV s → r = s := by
  intro r s h
  have := congrArg (List.map (fun v => match v with | Value.int _ z => z | _ => 0)) h
  simpa [secV, List.map_map, Function.comp_def] using this

/-! a variable that is made: its cells of nothing, behind a name -/
def AlRuns (P : Program) (t : TypeId) : Prop := ∃ i z, P.info? t = some i ∧ i.zero = some z
def zc (P : Program) (t : TypeId) : Array Value := match P.info? t with
  | some i => (i.zero.getD undef).cells
  | none => #[]
theorem al_runs {P : Program} {t : TypeId} {z : Value} {n m : Nat} (h : (P.info? t).map (fun i => (i.zero, i.size, i.bytes)) = some (some z, n, m)) : AlRuns P t ∧ zc P t = z.cells := by
  cases hq : P.info? t with
  | none => simp [hq] at h
  | some i =>
    simp [hq] at h
    exact ⟨⟨i, z, hq, h.1⟩, by simp [zc, hq, h.1]⟩
theorem al_exec {P : Program} {w : World} {ρ : Operand → Value} {dst : Option Tmp} {t : TypeId} {ty : TypeId} {pos : String} {after : Array Edge} {guard : Option (Nat × Bool)} (h : AlRuns P t) :
    (execOp ρ { dst, op := .alloc t, type := ty, pos, after, guard }).run P w = .ok (.value (.pointer (some ⟨w.heap.size, 0, none⟩))) (w.alloc (.cells (zc P t) t)) := by
  obtain ⟨i, z, hi, hz⟩ := h
  simp [execOp, Instr.alloc, zeroValue, typeInfo, hi, hz, newVar, newRow, zc, Result.andThen]

/-! a struct that is built: its parts laid over -/
theorem fold_over : ∀ (vs cs : List Value) (o k : Nat), o + k + vs.length ≤ cs.length → ((vs.zipIdx k).foldl (fun (cs : Array Value) (c : Value × Nat) => cs.setIfInBounds (o + c.2) c.1) cs.toArray) = (over cs (o + k) vs).toArray
  | [], cs, o, k, h => by simp [over]
  | v :: vs, cs, o, k, h => by
    simp only [List.length_cons] at h
    rw [List.zipIdx_cons, List.foldl_cons]
    have e : cs.toArray.setIfInBounds (o + k) v = (cs.set (o + k) v).toArray := by simp
    rw [e, fold_over vs (cs.set (o + k) v) o (k + 1) (by simp; omega)]
    congr 1
    unfold over
    have := list_seg_step cs (o + k) v vs (by omega)
    simp only [List.length_cons] at this ⊢
    rw [show o + (k + 1) = o + k + 1 from rfl, this]
theorem fill_two {place : Nat → Option (Nat × Nat)} {cs vs us : List Value} {v u : Value} {i j o1 o2 n1 n2 : Nat} (hv : v.cells = vs.toArray) (hu : u.cells = us.toArray) (hi : place i = some (o1, n1)) (hj : place j = some (o2, n2)) (h1 : vs.length = n1) (h2 : us.length = n2)
    (l1 : o1 + n1 ≤ cs.length) (l2 : o2 + n2 ≤ cs.length) : Instr.fill place cs.toArray [(i, v), (j, u)] = some (over (over cs o1 vs) o2 us).toArray := by
  have e1 := fold_over vs cs o1 0 (by omega)
  have e2 := fold_over us (over cs o1 vs) o2 0 (by rw [over_len (by omega)]; omega)
  have q1 : (v.cells.zipIdx.foldl (fun (cs : Array Value) (c : Value × Nat) => cs.setIfInBounds (o1 + c.2) c.1) cs.toArray) = (over cs o1 vs).toArray := by
    rw [hv, ← Array.foldl_toList]
    simpa using e1
  have q2 : (u.cells.zipIdx.foldl (fun (cs : Array Value) (c : Value × Nat) => cs.setIfInBounds (o2 + c.2) c.1) (over cs o1 vs).toArray) = (over (over cs o1 vs) o2 us).toArray := by
    rw [hu, ← Array.foldl_toList]
    simpa using e2
  have c1 : (decide (v.cells.size ≠ n1) || decide (o1 + v.cells.size > cs.toArray.size)) = false := by rw [hv]; simp; omega
  have c2 : (decide (u.cells.size ≠ n2) || decide (o2 + u.cells.size > (over cs o1 vs).toArray.size)) = false := by rw [hu]; simp [over_len (cs := cs) (vs := vs) (o := o1) (by omega)]; omega
  unfold Instr.fill
  simp only [hi]
  rw [c1]
  simp only [Bool.false_eq_true, if_false]
  rw [q1]
  unfold Instr.fill
  simp only [hj]
  rw [c2]
  simp only [Bool.false_eq_true, if_false]
  rw [q2]
  rfl
end Apo
