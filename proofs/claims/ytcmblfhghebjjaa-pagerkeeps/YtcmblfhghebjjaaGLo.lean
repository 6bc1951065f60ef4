/- The document's Free in memory, and what its functions do, over the translation. The rows that the document's Free tells, over the translation. Rows that are read, and whether two are alike, over the translation. The rows that any iterator tells which tells as the document's Free does, gathered by the law's own function. Over the translation. -/
import Derived.BigQuiet
import Derived.Deep.RegionHeld3
import Derived.BigRegion
import Derived.Handy
import Derived.Laws.StructEq
import Derived.RangeFuncNested
import Derived.RangeFuncBound
import Derived.RangeFuncCalls
import Derived.RangeFuncLeaves
import Derived.RangeFuncBox
import Derived.Shelf.Abstract
import Derived.Shelf.RegionOpen
import Derived.OwnWalkIn
import Derived.TacticsInMore
import Derived.LoopNIn
import Derived.LoopIn
import Derived.BigRegionIn
import Derived.Test.YtcmblfhghebjjaaRows
import Derived.Test.YtcmblfhghebjjaaGBa
import Derived.Test.YtcmblfhghebjjaaGPu
namespace Go.Proofs.Ytcmblfhghebjjaa
open Go.RowKit Apo

def Spn.val (s : Spn) : Value := .agg #[.int .i64 s.a, .int .i64 s.k]
structure Spn.Ok (s : Spn) : Prop where
  a0 : -9223372036854775808 ≤ s.a
  a1 : s.a ≤ 9223372036854775807
  k0 : -9223372036854775808 ≤ s.k
  k1 : s.k ≤ 9223372036854775807

end Go.Proofs.Ytcmblfhghebjjaa
namespace Go.Proofs.Ytcmblfhghebjjaa
open Go.RowKit Apo
attribute [local go_sem ↓] Apo.app_exec

/-- rows as cells -/
def rcells : List (Nat × Nat) → List Value
  | [] => []
  | x :: R => .int .i64 x.1 :: .int .i64 x.2 :: rcells R
theorem rcells_len : ∀ R, (rcells R).length = R.length * 2
  | [] => rfl
  | x :: R => by simp [rcells, rcells_len R]; omega
theorem rcells_app : ∀ R S, rcells (R ++ S) = rcells R ++ rcells S
  | [], _ => rfl
  | x :: R, S => by simp [rcells, rcells_app R S]
theorem rcells_at : ∀ {R : List (Nat × Nat)} {i : Nat} {x : Nat × Nat}, R[i]? = some x → (rcells R)[i * 2]? = some (.int .i64 x.1) ∧ (rcells R)[i * 2 + 1]? = some (.int .i64 x.2)
  | [], i, x, h => by simp at h
  | y :: R, 0, x, h => by
    simp at h
    subst h
    simp [rcells]
  | y :: R, i + 1, x, h => by
    simp at h
    obtain ⟨h1, h2⟩ := rcells_at h
    rw [show (i + 1) * 2 = i * 2 + 1 + 1 by omega]
    simp only [rcells, List.getElem?_cons_succ]
    exact ⟨h1, h2⟩
theorem rcells_bump (R : List (Nat × Nat)) (a k : Nat) : (rcells (R ++ [(a, k)])).set (R.length * 2 + 1) (.int .i64 ((k : Int) + 1)) = rcells (R ++ [(a, k + 1)]) := by
  rw [rcells_app, rcells_app, List.set_append_right _ _ (by rw [rcells_len]; omega), rcells_len, show R.length * 2 + 1 - R.length * 2 = 1 by omega]
  simp [rcells]
theorem bump_len : ∀ R, (bump R).length = R.length
  | [] => rfl
  | [x] => rfl
  | x :: y :: l => by simp only [bump, List.length_cons, bump_len (y :: l)]
theorem spans_len (L : List Bool) : ∀ n, (spansTo L n).length ≤ n
  | 0 => by simp [spansTo]
  | n + 1 => by
    have := spans_len L n
    rw [spansTo]
    split
    · omega
    · split
      · rw [bump_len]; omega
      · simp; omega
theorem spans_skip {L : List Bool} {I : Nat} (h : L.getD I false = false) : spansTo L (I + 1) = spansTo L I := by rw [spansTo, if_pos h]
theorem spans_app {L : List Bool} {I : Nat} (h : L.getD I false = true) (hn : ¬ (0 < I ∧ L.getD (I - 1) false = true)) : spansTo L (I + 1) = spansTo L I ++ [(I, 1)] := by
  rw [spansTo, if_neg (by rw [h]; decide), if_neg hn]
theorem spans_more {L : List Bool} {I : Nat} (h : L.getD I false = true) (hn : 0 < I ∧ L.getD (I - 1) false = true) : ∃ R a k, spansTo L I = R ++ [(a, k)] ∧ a + k = I ∧ spansTo L (I + 1) = R ++ [(a, k + 1)] := by
  obtain ⟨R, a, k, h1, h2⟩ := (spans_all L I).2.2.2.1 hn.1 hn.2
  refine ⟨R, a, k, h1, h2, ?_⟩
  rw [spansTo, if_neg (by rw [h]; decide), if_pos hn, h1, bump_snoc]
theorem own_len2 {w : World} {base e : Nat} {v : Value} {n size : Nat} {xs : List Value} (h : w.ownsRow base e size v n xs) : ∃ a cap, v = .slice a n cap := by
  rcases h.2 with ⟨rfl, hz⟩ | ⟨g, cap, cur, rfl, _⟩
  · exact ⟨none, 0, by rw [hz]⟩
  · exact ⟨_, cap, rfl⟩
theorem lit2_news (w : World) (t : TypeId) (x y : Int) : ∀ j u, [Value.int .i64 x, .int .i64 y][j]? = some u → (w.alloc (.cells #[.int .i64 x, .int .i64 y] t)).cell? ((⟨w.heap.size, 0, none⟩ : Addr).add j) = some u := by
  intro j u hu
  have k := Ob.new w [Value.int .i64 x, .int .i64 y] t
  have e : (⟨w.heap.size, 0, none⟩ : Addr).add j = ⟨w.heap.size, 0 + j, none⟩ := by unfold Addr.add; split <;> simp_all
  rw [e, Nat.zero_add]
  exact (k.cell j).trans hu
theorem info_span : (Try.prog.info? 39).map (fun i => (i.zero, i.size, i.bytes)) = some (some (.agg #[.int .i64 0, .int .i64 0]), 2, 16) := by kernel_rfl

end Go.Proofs.Ytcmblfhghebjjaa
namespace Go.Proofs.Ytcmblfhghebjjaa
open Go.RowKit Apo

/-- the slice's cells, from its address on, hold the rows R -/
def RdP (w : World) (a : Option Addr) (R : List (Nat × Nat)) : Prop :=
  ∀ i x, R[i]? = some x → ∃ b off, a = some ⟨b, off, none⟩ ∧ w.cell? ⟨b, off + i * 2, none⟩ = some (.int .i64 x.1) ∧ w.cell? ⟨b, off + i * 2 + 1, none⟩ = some (.int .i64 x.2)
theorem RdP.below {w w' : World} {a : Option Addr} {R : List (Nat × Nat)} (h : RdP w a R) (hb : Below w.heap.size w w') : RdP w' a R := by
  intro i x hi
  obtain ⟨b, off, ha, c0, c1⟩ := h i x hi
  have hlt := World.block_lt_of_cell? w _ c0
  exact ⟨b, off, ha, (hb.cell (by exact hlt)).trans c0, (hb.cell (by exact hlt)).trans c1⟩
theorem RdP.own {w : World} {base e : Nat} {a : Option Addr} {n cap : Nat} {R : List (Nat × Nat)} (h : w.ownsRow base e 2 (.slice a n cap) R.length (rcells R)) : RdP w a R ∧ n = R.length := by
  rcases h.2 with ⟨hv, hz⟩ | ⟨g, c, cur, hv, _⟩
  · cases hv
    have : R = [] := List.eq_nil_of_length_eq_zero hz
    subst this
    exact ⟨fun i x hi => by simp at hi, rfl⟩
  · cases hv
    refine ⟨fun i x hi => ⟨g, 0, rfl, ?_⟩, rfl⟩
    have hl := (List.getElem?_eq_some_iff.1 hi).1
    obtain ⟨h1, h2⟩ := rcells_at hi
    rw [Nat.zero_add, h.cellAt (i * 2) (by omega), h.cellAt (i * 2 + 1) (by omega)]
    exact ⟨h1, h2⟩
theorem neP (x y : Nat × Nat) (w : World) : (binOp .neq 39 (.agg #[.int .i64 x.1, .int .i64 x.2]) (.agg #[.int .i64 y.1, .int .i64 y.2])).run Try.prog w = .ok (.bool (!decide (x = y))) w := by
  have u3 := Try.underlying3
  have hS : Try.prog.underlying 39 = some (.struct (Try.prog.fieldsOf 39)) := by kernel_rfl
  have hp : Try.prog.stoodInHeld 39 = false := by kernel_rfl
  rw [run_neq_struct, show (10000 : Nat) = 9999 + 1 from rfl, run_equalIn_agg w 9999 39 _ _ hS hp]
  simp only [Program.fieldsOf, Try.underlying39]
  go_simp
  obtain ⟨x1, x2⟩ := x
  obtain ⟨y1, y2⟩ := y
  by_cases h1 : x1 = y1
  · by_cases h2 : x2 = y2
    · subst h1 h2; simp
    · have h2' : ¬ (x2 : Int) = y2 := by omega
      simp [h1, h2, h2']
  · have h1' : ¬ (x1 : Int) = y1 := by omega
    simp [h1, h1']

end Go.Proofs.Ytcmblfhghebjjaa
namespace Go.Proofs.Ytcmblfhghebjjaa
open Go.RowKit Go.Shelf Apo
attribute [local go_sem] Oper.semAt_some
theorem app_sem {ro : Option Nat} {P : Program} {w : World} {ρ : Operand → Value} {dst : Option Tmp} {xs : Array Operand} {ats : Array TypeId} {ty : TypeId} {pos : String} {after : Array Edge} {guard : Option (Nat × Bool)} (h : AppRuns P w ats ty (xs.map ρ)) :
    (Oper.semAt ro ρ { dst, op := .call { callee := .builtin .append, args := xs, argTypes := ats }, type := ty, pos, after, guard }).run P w = .ok (.value (appVal P w ats ty (xs.map ρ))) (appWld P w ats ty (xs.map ρ)) := by
  rw [Oper.semAt_eq _ _ _ (by simp)]
  exact app_exec h
attribute [local go_sem ↓] app_sem

/-- the blocks of O lie as they lay -/
def KeepO (O : Nat → Prop) (W W' : World) : Prop := W.heap.size ≤ W'.heap.size ∧ ∀ i, O i → W'.heap[i]? = W.heap[i]?
theorem keepO_t {O : Nat → Prop} {A B C : World} (h : KeepO O A B) (k : KeepO O B C) : KeepO O A C := ⟨Nat.le_trans h.1 k.1, fun i hi => (k.2 i hi).trans (h.2 i hi)⟩
theorem keepO_b {O : Nat → Prop} {w : World} (hO : ∀ i, O i → i < w.heap.size) (W : World) (l : Nat) (o o' : Obj) (hl : w.heap.size ≤ l) (_ : W.heap[l]? = some o) (_ : o.isCells = false) (_ : o.isWalk = false) : KeepO O W (W.putObj l o') :=
  ⟨by simp, fun i hi => World.putObj_heap_other (fun e => by have := hO i hi; omega)⟩

/-- Spans of the object v, called at W1, hands out what tells the rows R, as long as the object's blocks O and its own new ones are left alone -/
def SpTold (O : Nat → Prop) (W1 : World) (v : Value) (R : List (Nat × Nat)) : Prop :=
  ∀ n, CallsIn Fence.wide n Try.prog 42 #[v] W1 fun e w' => Below W1.heap.size W1 w' ∧ ∃ gf lb U, e = .returned (.func (.func gf) #[] lb) ∧ (∀ args w, (callFunc gf args).run Try.prog w = .ok (.enter gf args) w) ∧ (∀ i, U i → (O i ∨ W1.heap.size ≤ i) ∧ i < w'.heap.size) ∧
    SeqStopsK Fence.wide 2 Try.prog gf lb (fun x : Nat × Nat => #[Value.agg #[.int .i64 x.1, .int .i64 x.2]]) (KeepO U) (fun ys => ys = R) (fun pre => ∃ k, k ≤ R.length ∧ pre = R.take k) R.length w'

theorem keepsFrom_cells {B : Nat} {W W' : World} {row : Option Nat} (hg : W.grownBy W' row) (hr : ∀ j, row = some j → ∃ c e f, W.heap[j]? = some (.cells c e f)) : KeepsFrom B W W' :=
  ⟨hg.size, fun k o _ hk ho => (hg.block k (Array.getElem?_eq_some_iff.1 hk).1 (fun e => by obtain ⟨c, e', f, q⟩ := hr k e.symm; rw [hk] at q; cases q; cases ho)).trans hk⟩
theorem own_cells {w : World} {base e size n : Nat} {v : Value} {xs : List Value} (h : w.ownsRow base e size v n xs) : ∀ j, v.ownBlock = some j → ∃ c e' f, w.heap[j]? = some (.cells c e' f) := by
  intro j hj
  rcases h.2 with ⟨rfl, _⟩ | ⟨g, cap, cur, rfl, _, hh, _⟩
  · simp [Value.ownBlock] at hj
  · simp only [Value.ownBlock, Option.some.injEq] at hj
    subst hj
    exact ⟨_, _, _, hh⟩

/-- what has been gathered -/
def Gath (w W0 : World) (pre : List (Nat × Nat)) (W : World) : Prop := ∃ u, Ob W w.heap.size 37 [u] ∧ W.ownsRow W0.heap.size 39 2 u pre.length (rcells pre) ∧ Below w.heap.size w W ∧ W0.heap.size ≤ W.heap.size
theorem gath_own (w W0 : World) (hw : w.heap.size < W0.heap.size) : OwnFrom W0.heap.size (Gath w W0) := by
  rintro s W W' row ⟨u, h1, h2, h3, h4⟩ hg hr
  refine ⟨u, h1.kept hg (fun e => by have := (hr _ e).1; omega), h2.kept hg ?_, h3.grown hg h3.size (fun k e => by have := (hr k e).1; omega), Nat.le_trans h4 hg.size⟩
  cases hq : u.ownBlock with
  | none => exact .inl rfl
  | some g =>
    right
    intro e
    obtain ⟨_, o, ho, hc⟩ := hr g e.symm
    obtain ⟨c, e', f, q⟩ := own_cells h2 g hq
    rw [ho] at q
    cases q
    cases hc

end Go.Proofs.Ytcmblfhghebjjaa
