/- The document's Free in memory, and what its functions do, over the translation. The rows that the document's Free tells, over the translation. Rows that are read, and whether two are alike, over the translation. The rows that any iterator tells which tells as the document's Free does, gathered by the law's own function. Over the translation. -/
import Derived.BigQuiet
import Derived.Deep.RegionHeld3
import Derived.BigRegion
import Derived.Handy
import Derived.Laws.StructEq
import Derived.RangeFuncNested
import Derived.RangeFuncBound
import Derived.RangeFuncCalls
import Derived.RangeFuncLeaves
import Derived.RangeFuncBox
import Derived.Shelf.Abstract
import Derived.Shelf.RegionOpen
import Derived.OwnWalkIn
import Derived.TacticsInMore
import Derived.LoopNIn
import Derived.LoopIn
import Derived.BigRegionIn
import Derived.Test.YtegadgncggbeoaaGreatRows
import Derived.Test.YtegadgncggbeoaaGreatQGBa
import Derived.Test.YtegadgncggbeoaaGreatQGPu
namespace Go.Proofs.YtegadgncggbeoaaGreat
open Go.RowKit Apo

structure Spn.Ok (s : Spn) : Prop where
  a0 : -9223372036854775808 ≤ s.a
  a1 : s.a ≤ 9223372036854775807
  k0 : -9223372036854775808 ≤ s.k
  k1 : s.k ≤ 9223372036854775807

end Go.Proofs.YtegadgncggbeoaaGreat
namespace Go.Proofs.YtegadgncggbeoaaGreat
open Go.RowKit Apo
attribute [local go_sem ↓] Apo.app_exec

/-- rows as cells -/
def rcells : List (Nat × Nat) → List Value
  | [] => []
  | x :: R => .int .i64 x.1 :: .int .i64 x.2 :: rcells R
theorem rcells_len : ∀ R, (rcells R).length = R.length * 2
  | [] => rfl
  | x :: R => by simp [rcells, rcells_len R]; omega
theorem rcells_app : ∀ R S, rcells (R ++ S) = rcells R ++ rcells S
  | [], _ => rfl
  | x :: R, S => by simp [rcells, rcells_app R S]
theorem rcells_at : ∀ {R : List (Nat × Nat)} {i : Nat} {x : Nat × Nat}, R[i]? = some x → (rcells R)[i * 2]? = some (.int .i64 x.1) ∧ (rcells R)[i * 2 + 1]? = some (.int .i64 x.2)
  | [], i, x, h => by simp at h
  | y :: R, 0, x, h => by
    simp at h
    subst h
    simp [rcells]
  | y :: R, i + 1, x, h => by
    simp at h
    obtain ⟨h1, h2⟩ := rcells_at h
    rw [show (i + 1) * 2 = i * 2 + 1 + 1 by omega]
    simp only [rcells, List.getElem?_cons_succ]
    exact ⟨h1, h2⟩
theorem bump_len : ∀ R, (bump R).length = R.length
  | [] => rfl
  | [x] => rfl
  | x :: y :: l => by simp only [bump, List.length_cons, bump_len (y :: l)]
theorem spans_len (L : List Bool) : ∀ n, (spansTo L n).length ≤ n
  | 0 => by simp [spansTo]
  | n + 1 => by
    have := spans_len L n
    rw [spansTo]
    split
    · omega
    · split
      · rw [bump_len]; omega
      · simp; omega
theorem own_len2 {w : World} {base e : Nat} {v : Value} {n size : Nat} {xs : List Value} (h : w.ownsRow base e size v n xs) : ∃ a cap, v = .slice a n cap := by
  rcases h.2 with ⟨rfl, hz⟩ | ⟨g, cap, cur, rfl, _⟩
  · exact ⟨none, 0, by rw [hz]⟩
  · exact ⟨_, cap, rfl⟩
theorem lit2_news (w : World) (t : TypeId) (x y : Int) : ∀ j u, [Value.int .i64 x, .int .i64 y][j]? = some u → (w.alloc (.cells #[.int .i64 x, .int .i64 y] t)).cell? ((⟨w.heap.size, 0, none⟩ : Addr).add j) = some u := by
  intro j u hu
  have k := Ob.new w [Value.int .i64 x, .int .i64 y] t
  have e : (⟨w.heap.size, 0, none⟩ : Addr).add j = ⟨w.heap.size, 0 + j, none⟩ := by unfold Addr.add; split <;> simp_all
  rw [e, Nat.zero_add]
  exact (k.cell j).trans hu
theorem info_span : (Tryz.prog.info? 84).map (fun i => (i.zero, i.size, i.bytes)) = some (some (.agg #[.int .i64 0, .int .i64 0]), 2, 16) := by kernel_rfl

end Go.Proofs.YtegadgncggbeoaaGreat
namespace Go.Proofs.YtegadgncggbeoaaGreat
open Go.RowKit Apo

end Go.Proofs.YtegadgncggbeoaaGreat
namespace Go.Proofs.YtegadgncggbeoaaGreat
open Go.RowKit Go.Shelf Apo
attribute [local go_sem] Oper.semAt_some
theorem app_sem {ro : Option Nat} {P : Program} {w : World} {ρ : Operand → Value} {dst : Option Tmp} {xs : Array Operand} {ats : Array TypeId} {ty : TypeId} {pos : String} {after : Array Edge} {guard : Option (Nat × Bool)} (h : AppRuns P w ats ty (xs.map ρ)) :
    (Oper.semAt ro ρ { dst, op := .call { callee := .builtin .append, args := xs, argTypes := ats }, type := ty, pos, after, guard }).run P w = .ok (.value (appVal P w ats ty (xs.map ρ))) (appWld P w ats ty (xs.map ρ)) := by
  rw [Oper.semAt_eq _ _ _ (by simp)]
  exact app_exec h
attribute [local go_sem ↓] app_sem

/-- the blocks of O lie as they lay -/
def KeepO (O : Nat → Prop) (W W' : World) : Prop := W.heap.size ≤ W'.heap.size ∧ ∀ i, O i → W'.heap[i]? = W.heap[i]?
theorem keepO_t {O : Nat → Prop} {A B C : World} (h : KeepO O A B) (k : KeepO O B C) : KeepO O A C := ⟨Nat.le_trans h.1 k.1, fun i hi => (k.2 i hi).trans (h.2 i hi)⟩
theorem keepO_b {O : Nat → Prop} {w : World} (hO : ∀ i, O i → i < w.heap.size) (W : World) (l : Nat) (o o' : Obj) (hl : w.heap.size ≤ l) (_ : W.heap[l]? = some o) (_ : o.isCells = false) (_ : o.isWalk = false) : KeepO O W (W.putObj l o') :=
  ⟨by simp, fun i hi => World.putObj_heap_other (fun e => by have := hO i hi; omega)⟩

theorem keepsFrom_cells {B : Nat} {W W' : World} {row : Option Nat} (hg : W.grownBy W' row) (hr : ∀ j, row = some j → ∃ c e f, W.heap[j]? = some (.cells c e f)) : KeepsFrom B W W' :=
  ⟨hg.size, fun k o _ hk ho => (hg.block k (Array.getElem?_eq_some_iff.1 hk).1 (fun e => by obtain ⟨c, e', f, q⟩ := hr k e.symm; rw [hk] at q; cases q; cases ho)).trans hk⟩
theorem own_cells {w : World} {base e size n : Nat} {v : Value} {xs : List Value} (h : w.ownsRow base e size v n xs) : ∀ j, v.ownBlock = some j → ∃ c e' f, w.heap[j]? = some (.cells c e' f) := by
  intro j hj
  rcases h.2 with ⟨rfl, _⟩ | ⟨g, cap, cur, rfl, _, hh, _⟩
  · simp [Value.ownBlock] at hj
  · simp only [Value.ownBlock, Option.some.injEq] at hj
    subst hj
    exact ⟨_, _, _, hh⟩

end Go.Proofs.YtegadgncggbeoaaGreat
