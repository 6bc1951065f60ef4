/- copy, clear and an append of zeros at own rows of elements of any size, as operations whose run is known. No Go text is named here. -/
import Derived.Test.YtlomnpeelpmhiaaApp
import Derived.Laws.CopyOwn
import Derived.Lib.Overlaps
namespace Apo
open Go Go.RowKit

theorem setRow_grew {w : World} {g : Nat} {cs : Array Value} : w.grownBy (w.setRow g cs) (some g) := ⟨rfl, rfl, rfl, by simp [World.setRow], fun k _ hk => setRow_other w g k cs (fun e => hk (by rw [e]))⟩
/-- copy: what goes over lies in the row behind it -/
theorem run_copy_ob {P : Program} {w : World} {dT sT ty e t : TypeId} {size : Nat} (hu : P.underlying dT = some (.slice e)) (hs : (P.info? e).map (·.size) = some size)
    (g o : Nat) (cur : List Value) (hg : Ob w g t cur) (dp sp : Option Addr) (dLen dCap sLen sCap : Nat) (cs : List Value) (hn : cs.length = Nat.min sLen dLen * size)
    (hpos : 0 < cs.length → dp = some ⟨g, o, none⟩ ∧ ∃ a, sp = some a ∧ ∀ j v, cs[j]? = some v → w.cell? (a.add j) = some v) (hsz : 0 < size) (hfit : o + cs.length ≤ cur.length) (h1 : ∀ v ∈ cs, v.oneCell' = true) :
    ∃ w', (Builtin.copy_ #[dT, sT] ty #[.slice dp dLen dCap, .slice sp sLen sCap]).run P w = .ok (goInt (Nat.min sLen dLen)) w' ∧ Ob w' g t (splice cur o cs) ∧ w.grownBy w' (some g) := by
  cases hq : P.info? e with
  | none => simp [hq] at hs
  | some i =>
    have hi : i.size = size := by simpa [hq] using hs
    by_cases h0 : cs.length = 0
    · obtain rfl : cs = [] := List.eq_nil_of_length_eq_zero h0
      have hm : Nat.min sLen dLen = 0 := by
        rcases Nat.eq_zero_or_pos (Nat.min sLen dLen) with h | h
        · exact h
        · have := Nat.mul_pos h hsz
          simp at hn
          omega
      refine ⟨w, ?_, by simpa [splice] using hg, grew_below _ (Below.refl _ _)⟩
      have hl : ∀ (x : Addr), (loadCells x 0).run P w = .ok #[] w := fun x => by simpa using run_loadCells_list (P := P) w x [] (by simp)
      cases dp <;> cases sp <;> simp [Builtin.copy_, run_underlying hu, Builtin.lenOf, Builtin.firstCells, Go.sizeOf, typeInfo, hq, hm, storeCells, hl]
    · obtain ⟨rfl, a, rfl, hsrc⟩ := hpos (by omega)
      have hl := run_loadCells_list (P := P) w a cs hsrc
      have hst := run_storeCells_at P g o t cs 0 cur.toArray w hg (by simpa using hfit) h1
      refine ⟨w.setRow g (splice cur o cs).toArray, ?_, setRow_heap w g _ _ t _ hg, setRow_grew⟩
      simp [Builtin.copy_, run_underlying hu, Builtin.lenOf, Builtin.firstCells, Go.sizeOf, typeInfo, hq, hi, ← hn, hl, hst, splice]
/-- clear: zeros, as many as there were -/
theorem run_clear_ob {P : Program} {w : World} {T ty e t : TypeId} {i : TypeInfo} {z : Value} {size : Nat} (hu : P.underlying T = some (.slice e)) (hi : P.info? e = some i) (hz : i.zero = some z) (hzs : z.cells.size = size) (hz1 : ∀ v ∈ z.cells, v.oneCell' = true)
    (g o : Nat) (cur : List Value) (hg : Ob w g t cur) (ap : Option Addr) (n c : Nat) (hpos : 0 < n → ap = some ⟨g, o, none⟩) (hfit : o + n * size ≤ cur.length) :
    ∃ w' zs, (Builtin.clear_ #[T] ty #[.slice ap n c]).run P w = .ok (.tuple #[]) w' ∧ zs.length = n * size ∧ Ob w' g t (splice cur o zs) ∧ w.grownBy w' (some g) := by
  cases n with
  | zero =>
    refine ⟨w, [], ?_, by simp, by simpa [splice] using hg, grew_below _ (Below.refl _ _)⟩
    cases ap <;> simp [Builtin.clear_, run_underlying hu]
  | succ m =>
    obtain rfl := hpos (by omega)
    have hzl : (Builtin.zeroCells z.cells (m + 1)).toList.length = (m + 1) * size := by simp [Builtin.zeroCells, hzs]
    have h1 : ∀ v ∈ (Builtin.zeroCells z.cells (m + 1)).toList, v.oneCell' = true := by
      intro v hv
      simp only [Builtin.zeroCells, Array.toList_map, List.mem_map] at hv
      obtain ⟨j, hj, rfl⟩ := hv
      by_cases hjz : j % z.cells.size < z.cells.size
      · rw [getElem!_pos z.cells (j % z.cells.size) hjz]
        exact hz1 _ (Array.getElem_mem hjz)
      · exfalso
        have : 0 < z.cells.size := by
          rcases Nat.eq_zero_or_pos z.cells.size with h | h
          · rw [h] at hj; simp at hj
          · exact h
        exact hjz (Nat.mod_lt _ this)
    have hst := run_storeCells_at P g o t _ 0 cur.toArray w hg (by rw [hzl]; simpa using hfit) h1
    refine ⟨w.setRow g (splice cur o (Builtin.zeroCells z.cells (m + 1)).toList).toArray, _, ?_, hzl, setRow_heap w g _ _ t _ hg, setRow_grew⟩
    have hzv : (zeroValue e).run P w = .ok z w := by simp [zeroValue, typeInfo, hi, hz]
    simp [Builtin.clear_, run_underlying hu, hzv, hst, splice, hzl]
/-- append(s[:n], make(T, m)..) where there is no room: what was there, then whatever -/
theorem run_append_zeros {P : Program} {w : World} {t tn ty e : TypeId} {i : TypeInfo} {z : Value} {size bytes : Nat} (ht : P.underlying t = some (.slice e)) (htn : P.underlying tn = some (.int .i64)) (hi : P.info? e = some i) (hz : i.zero = some z) (hsize : i.size = size) (hby : i.bytes = bytes) (hzs : z.cells.size = size) (hsz : 0 < size)
    (b : Addr) (n cap m : Nat) (xs : List Value) (hl : xs.length = n * size) (hxs : ∀ j v, xs[j]? = some v → w.cell? (b.add j) = some v) (hg : cap < n + m) (hn : n ≤ cap) (h63 : n + m ≤ maxLen) (hbytes : (n + m) * bytes ≤ 140737488355328) :
    ∃ c w' Z, (Builtin.append_ #[t, tn] ty #[.slice (some b) n cap, .int .i64 m]).run P w = .ok (.slice (some ⟨w.heap.size, 0, none⟩) (n + m) c) w' ∧ Ob w' w.heap.size e (xs ++ Z) ∧ Z.length + xs.length = c * size ∧ n + m ≤ c ∧ c ≤ maxLen ∧ Below w.heap.size w w' ∧ w'.heap.size = w.heap.size + 1 := by
  subst hsize
  subst hby
  have hsmall : n + m ≤ 9223372036854775807 := by simp only [maxLen] at h63; omega
  have hm : 0 < m := by omega
  have hm0 : m ≠ 0 := by omega
  have hw : IntKind.i64.wrap (m : Int) = m := by rw [IntKind.wrap_i64]; omega
  have hneg : ¬ ((m : Int) < 0) := by omega
  have hns : ¬ (m * i.size = 0) := Nat.mul_ne_zero hm0 (by omega)
  have h63' : ¬ (9223372036854775807 < ((n : Int) + (m : Int))) := by omega
  have h48 := growslice_fits (need := n + m) (old := cap) (by omega) hbytes
  have h48' : ¬ (281474976710656 < Builtin.nextslicecap (n + m) cap * i.bytes) := by omega
  have h48i : ¬ (281474976710656 < (m : Int) * (i.bytes : Int)) := by
    rw [← Int.natCast_mul]
    have : m * i.bytes ≤ (n + m) * i.bytes := Nat.mul_le_mul_right _ (by omega)
    omega
  have hnr : ¬ (n + m ≤ cap) := by omega
  have hfo := run_firstCells_some (P := P) w.drew i.size n b n cap xs hl (by simpa using hxs)
  have hr : (Builtin.append_ #[t, tn] ty #[.slice (some b) n cap, .int .i64 m]).run P w = .ok (.slice (some ⟨w.heap.size, 0, none⟩) (n + m) (grownCap w (n + m) cap e)) (w.drew.alloc (.cells (xs.toArray ++ Builtin.zeroCells z.cells m ++ Builtin.zeroCells z.cells (grownCap w (n + m) cap e - (n + m))) e)) := by
    simp [Builtin.append_, run_underlying ht, run_underlying htn, Go.sizeOf, typeInfo, zeroValue, hi, hz, asInt, asIntOf, hw, hneg, hns, hnr, h63', h48', h48i, Question.forced, hfo, newRow, grownCap]
  have hge := grownCap_ge w (n + m) cap e
  have hcm : grownCap w (n + m) cap e ≤ maxLen := grownCap_le_maxLen w (n + m) cap e h63
  refine ⟨_, _, (Builtin.zeroCells z.cells m ++ Builtin.zeroCells z.cells (grownCap w (n + m) cap e - (n + m))).toList, hr, ?_, ?_, hge, hcm, ?_, by simp⟩
  · have := heap_alloc_new w.drew (.cells (xs.toArray ++ Builtin.zeroCells z.cells m ++ Builtin.zeroCells z.cells (grownCap w (n + m) cap e - (n + m))) e)
    unfold Ob
    rw [show (xs ++ (Builtin.zeroCells z.cells m ++ Builtin.zeroCells z.cells (grownCap w (n + m) cap e - (n + m))).toList).toArray = xs.toArray ++ Builtin.zeroCells z.cells m ++ Builtin.zeroCells z.cells (grownCap w (n + m) cap e - (n + m)) by
      apply Array.ext'
      simp]
    exact this
  · simp only [Array.toList_append, List.length_append, Array.length_toList, size_zeroCells, hzs, hl, ← Nat.add_mul]
    congr 1
    omega
  · exact ((Below.refl _ w).drew).alloc (Nat.le_refl _) _

/-- append where there is room -/
theorem run_append_in {P : Program} {w : World} {t ty e tt : TypeId} {i : TypeInfo} {size : Nat} (ht : P.underlying t = some (.slice e)) (hi : P.info? e = some i) (hsize : i.size = size)
    (g n cap : Nat) (cur : List Value) (hg : Ob w g tt cur) (sp : Option Addr) (m mc : Nat) (cs : List Value) (hn : cs.length = m * size) (hpos : 0 < m → ∃ a, sp = some a ∧ ∀ j v, cs[j]? = some v → w.cell? (a.add j) = some v) (hroom : n + m ≤ cap) (hfit : n * size + cs.length ≤ cur.length) (h1 : ∀ v ∈ cs, v.oneCell' = true) :
    ∃ w', (Builtin.append_ #[t, t] ty #[.slice (some ⟨g, 0, none⟩) n cap, .slice sp m mc]).run P w = .ok (.slice (some ⟨g, 0, none⟩) (n + m) cap) w' ∧ Ob w' g tt (splice cur (n * size) cs) ∧ w.grownBy w' (some g) := by
  subst hsize
  have hadd : (⟨g, 0, none⟩ : Addr).add (n * i.size) = ⟨g, n * i.size, none⟩ := by unfold Addr.add; split <;> simp_all
  cases m with
  | zero =>
    obtain rfl : cs = [] := List.eq_nil_of_length_eq_zero (by simpa using hn)
    refine ⟨w, ?_, by simpa [splice] using hg, grew_below _ (Below.refl _ _)⟩
    have hl : ∀ (x : Addr), (loadCells x 0).run P w = .ok #[] w := fun x => by simpa using run_loadCells_list (P := P) w x [] (by simp)
    have hr' : n ≤ cap := hroom
    cases sp <;> simp [Builtin.append_, run_underlying ht, Go.sizeOf, typeInfo, hi, Builtin.lenOf, Builtin.firstCells, hl, hr', storeCells]
  | succ m =>
    obtain ⟨a, rfl, hsrc⟩ := hpos (by omega)
    have hl := run_loadCells_list (P := P) w a cs hsrc
    have hst := run_storeCells_at P g (n * i.size) tt cs 0 cur.toArray w hg (by simpa using hfit) h1
    refine ⟨w.setRow g (splice cur (n * i.size) cs).toArray, ?_, setRow_heap w g _ _ tt _ hg, setRow_grew⟩
    simp [Builtin.append_, run_underlying ht, Go.sizeOf, typeInfo, hi, Builtin.lenOf, Builtin.firstCells, ← hn, hl, hroom, hadd, hst, splice]

/-! the operations, ahead of any unfolding -/
def CpRuns (P : Program) (w : World) (ts : Array TypeId) (ty : TypeId) (xs : Array Value) : Prop := ∃ v' w', (Builtin.copy_ ts ty xs).run P w = .ok v' w'
noncomputable def cpVal (P : Program) (w : World) (ts : Array TypeId) (ty : TypeId) (xs : Array Value) : Value := match (Builtin.copy_ ts ty xs).run P w with
  | .ok v _ => v
  | _ => undef
noncomputable def cpWld (P : Program) (w : World) (ts : Array TypeId) (ty : TypeId) (xs : Array Value) : World := match (Builtin.copy_ ts ty xs).run P w with
  | .ok _ w' => w'
  | _ => w
theorem cp_runs {P : Program} {w w' : World} {ts : Array TypeId} {ty : TypeId} {xs : Array Value} {v' : Value} (h : (Builtin.copy_ ts ty xs).run P w = .ok v' w') : CpRuns P w ts ty xs ∧ cpVal P w ts ty xs = v' ∧ cpWld P w ts ty xs = w' :=
  ⟨⟨v', w', h⟩, by unfold cpVal; rw [h], by unfold cpWld; rw [h]⟩
theorem cp_run {P : Program} {w : World} {ts : Array TypeId} {ty : TypeId} {xs : Array Value} (h : CpRuns P w ts ty xs) : (Builtin.copy_ ts ty xs).run P w = .ok (cpVal P w ts ty xs) (cpWld P w ts ty xs) := by
  obtain ⟨v', w', h⟩ := h
  obtain ⟨_, h1, h2⟩ := cp_runs h
  rw [h1, h2]
  exact h
theorem cp_exec {P : Program} {w : World} {ρ : Operand → Value} {dst : Option Tmp} {xs : Array Operand} {ats : Array TypeId} {ty : TypeId} {pos : String} {after : Array Edge} {guard : Option (Nat × Bool)} (h : CpRuns P w ats ty (xs.map ρ)) :
    (execOp ρ { dst, op := .call { callee := .builtin .copy, args := xs, argTypes := ats }, type := ty, pos, after, guard }).run P w = .ok (.value (cpVal P w ats ty (xs.map ρ))) (cpWld P w ats ty (xs.map ρ)) := by
  rw [BigFrame.execOp_builtin]
  simp [builtin, cp_run h]
def ClRuns (P : Program) (w : World) (ts : Array TypeId) (ty : TypeId) (xs : Array Value) : Prop := ∃ v' w', (Builtin.clear_ ts ty xs).run P w = .ok v' w'
noncomputable def clVal (P : Program) (w : World) (ts : Array TypeId) (ty : TypeId) (xs : Array Value) : Value := match (Builtin.clear_ ts ty xs).run P w with
  | .ok v _ => v
  | _ => undef
noncomputable def clWld (P : Program) (w : World) (ts : Array TypeId) (ty : TypeId) (xs : Array Value) : World := match (Builtin.clear_ ts ty xs).run P w with
  | .ok _ w' => w'
  | _ => w
theorem cl_runs {P : Program} {w w' : World} {ts : Array TypeId} {ty : TypeId} {xs : Array Value} {v' : Value} (h : (Builtin.clear_ ts ty xs).run P w = .ok v' w') : ClRuns P w ts ty xs ∧ clVal P w ts ty xs = v' ∧ clWld P w ts ty xs = w' :=
  ⟨⟨v', w', h⟩, by unfold clVal; rw [h], by unfold clWld; rw [h]⟩
theorem cl_run {P : Program} {w : World} {ts : Array TypeId} {ty : TypeId} {xs : Array Value} (h : ClRuns P w ts ty xs) : (Builtin.clear_ ts ty xs).run P w = .ok (clVal P w ts ty xs) (clWld P w ts ty xs) := by
  obtain ⟨v', w', h⟩ := h
  obtain ⟨_, h1, h2⟩ := cl_runs h
  rw [h1, h2]
  exact h
theorem cl_exec {P : Program} {w : World} {ρ : Operand → Value} {dst : Option Tmp} {xs : Array Operand} {ats : Array TypeId} {ty : TypeId} {pos : String} {after : Array Edge} {guard : Option (Nat × Bool)} (h : ClRuns P w ats ty (xs.map ρ)) :
    (execOp ρ { dst, op := .call { callee := .builtin .clear, args := xs, argTypes := ats }, type := ty, pos, after, guard }).run P w = .ok (.value (clVal P w ats ty (xs.map ρ))) (clWld P w ats ty (xs.map ρ)) := by
  rw [BigFrame.execOp_builtin]
  simp [builtin, cl_run h]

/-! lists laid over one another -/
theorem splice_at {α : Type} (L cs : List α) (o : Nat) (h : o + cs.length ≤ L.length) (j : Nat) : (splice L o cs)[j]? = if j < o then L[j]? else if j < o + cs.length then cs[j - o]? else L[j]? := by
  unfold splice
  by_cases h1 : j < o
  · rw [if_pos h1, List.getElem?_append_left (by simp; omega), List.getElem?_take_of_lt h1]
  · rw [if_neg h1, List.getElem?_append_right (by simp; omega), List.length_take, Nat.min_eq_left (by omega)]
    by_cases h2 : j < o + cs.length
    · rw [if_pos h2, List.getElem?_append_left (by omega)]
    · rw [if_neg h2, List.getElem?_append_right (by omega), List.getElem?_drop]
      congr 1
      omega
theorem place_xb {α : Type} {L A X B : List α} {a b c : Nat} (hb : B.length = b) (hx : X.length = c) (hA : L.take a = A) (hl : a + c + b ≤ L.length) : (splice (splice L a X) (a + c) B).take (a + c + b) = A ++ (X ++ B) := by
  have ha : A.length = a := by rw [← hA, List.length_take]; omega
  apply List.ext_getElem?
  intro j
  by_cases h : j < a + c + b
  · rw [List.getElem?_take_of_lt h, splice_at _ _ _ (by rw [length_splice _ _ _ (by omega)]; omega), splice_at _ _ _ (by omega)]
    by_cases h1 : j < a
    · rw [if_pos (by omega), if_pos h1, List.getElem?_append_left (by omega), ← hA, List.getElem?_take_of_lt h1]
    · rw [List.getElem?_append_right (l₁ := A) (by omega), ha]
      by_cases h2 : j < a + c
      · rw [if_pos h2, if_neg h1, if_pos (by omega), List.getElem?_append_left (by omega)]
      · rw [if_neg h2, if_pos (by omega), List.getElem?_append_right (by omega)]
        congr 1
        omega
  · rw [List.getElem?_eq_none (by simp; omega), List.getElem?_eq_none (by simp; omega)]
theorem place_bx {α : Type} {L A X B : List α} {a b c : Nat} (hb : B.length = b) (hx : X.length = c) (hA : L.take a = A) (hl : a + c + b ≤ L.length) : (splice (splice L (a + c) B) a X).take (a + c + b) = A ++ (X ++ B) := by
  have ha : A.length = a := by rw [← hA, List.length_take]; omega
  apply List.ext_getElem?
  intro j
  by_cases h : j < a + c + b
  · rw [List.getElem?_take_of_lt h, splice_at _ _ _ (by rw [length_splice _ _ _ (by omega)]; omega), splice_at _ _ _ (by omega)]
    by_cases h1 : j < a
    · rw [if_pos h1, if_pos (by omega), List.getElem?_append_left (by omega), ← hA, List.getElem?_take_of_lt h1]
    · rw [if_neg h1, List.getElem?_append_right (by omega), ha]
      by_cases h2 : j < a + X.length
      · rw [if_pos h2, List.getElem?_append_left (by omega)]
      · rw [if_neg h2, if_neg (by omega), if_pos (by omega), List.getElem?_append_right (by omega)]
        congr 1
        omega
  · rw [List.getElem?_eq_none (by simp; omega), List.getElem?_eq_none (by simp; omega)]
theorem splice_take {α : Type} (L cs : List α) (o k : Nat) (hk : k ≤ o) (ho : o ≤ L.length) : (splice L o cs).take k = L.take k := by
  unfold splice
  rw [List.take_append_of_le_length (by simp; omega), List.take_take, Nat.min_eq_left hk]
end Apo
