/- The document's device in memory, and what its has, act, Arm and Fault do, over the translation. What the document's Read of a device does, over the translation. The document's numbers as bytes, over the translation. What the document's numbers and supers do, over the translation. What the document's Write to a device does, over the translation. What the document's Flush of a device does, over the translation. What the document's Save of a super does, over the translation. What the document's SuperOf does, over the translation. What the document's Load of a super does, over the translation. -/
import Derived.WalkKit
import Derived.WalkSpells
import Derived.WalkLawsBesides
import Derived.Handy
import Derived.BigRegion
import Derived.Maps.AppendAt
import Derived.Lib.AppendStr
import Derived.Deep.RegionHeld3
import Derived.Deep.RegionLaw
import Derived.BigQuiet
import Derived.Deep.CutRange
import Derived.Deep.DeepCutAuto
import Derived.Test.YtegadgncggbeoaaGreatRows
import Derived.Test.YtegadgncggbeoaaGreatQGBa
import Derived.Test.YtegadgncggbeoaaGreatQGPu
namespace Apo
open Go Go.RowKit

end Apo
namespace Go.Proofs.YtegadgncggbeoaaGreat
open Go.RowKit Apo

end Go.Proofs.YtegadgncggbeoaaGreat
namespace Go.Proofs.YtegadgncggbeoaaGreat
open Go.RowKit Apo

def flK (st : Sd) (k : Nat) : Sd := ⟨putAll (st.C.take k) st.S, st.C, st.bad, st.acted.left, st.acted.dead⟩
theorem flK_zero (st : Sd) : flK st 0 = st.acted := by
  unfold flK
  have e1 := acted_S st
  have e2 := acted_C st
  have e3 := acted_bad st
  cases h : st.acted
  rw [h] at e1 e2 e3
  simp only at e1 e2 e3
  subst e1 e2 e3
  rfl
theorem flK_end {st : Sd} {k : Nat} (hk : st.C.length ≤ k) : ({ flK st k with C := [] } : Sd) = { st.acted with S := putAll st.C st.S, C := [] } := by
  unfold flK
  rw [List.take_of_length_le hk]
  have e3 := acted_bad st
  rw [← e3]
theorem flK_set {st : Sd} {k : Nat} {x : Nat × List Int} (hx : st.C[k]? = some x) : ({ flK st k with S := (flK st k).S.set x.1 x.2 } : Sd) = flK st (k + 1) := by
  unfold flK
  simp only
  rw [putAll_snoc hx]

theorem info_u8 : (Tryz.prog.info? 5).map (fun i => (i.zero, i.size, i.bytes)) = some (some (.int .u8 0), 1, 1) := by kernel_rfl

/-- what Read hands out: a row of its own, or nothing -/
def Told (w : World) (B : Nat) (v : Value) (l : List Int) : Prop := w.ownsRow B 5 1 v l.length (l.map (Value.int .u8))

end Go.Proofs.YtegadgncggbeoaaGreat
namespace Go.Proofs.YtegadgncggbeoaaGreat
open Go.RowKit Apo
attribute [local go_sem ↓] Apo.app_exec

theorem be_at : ∀ {k j : Nat} (n : Nat), j < k → (be k n)[j]? = some ((n / 256 ^ (k - 1 - j) % 256 : Nat) : Int)
  | 0, _, _, h => by omega
  | k + 1, 0, n, _ => by simp [be]
  | k + 1, j + 1, n, h => by
    simp only [be, List.getElem?_cons_succ]
    rw [be_at n (by omega), show k + 1 - 1 - (j + 1) = k - 1 - j by omega]

end Go.Proofs.YtegadgncggbeoaaGreat
namespace Go.Proofs.YtegadgncggbeoaaGreat
open Go.RowKit Apo
attribute [local go_sem ↓] Apo.app_exec

end Go.Proofs.YtegadgncggbeoaaGreat
namespace Go.Proofs.YtegadgncggbeoaaGreat
open Go.RowKit Apo
attribute [local go_sem ↓] Go.wp_at_zero Go.wp_at_succ Apo.app_exec

theorem own_shape2 {w : World} {base e size : Nat} {v : Value} {n : Nat} {xs : List Value} (h : w.ownsRow base e size v n xs) (hp : 0 < n) :
    ∃ g cap, v = .slice (some ⟨g, 0, none⟩) n cap ∧ base ≤ g ∧ g < w.heap.size ∧ n ≤ cap ∧ cap ≤ maxLen := by
  have h' := h
  rcases h.2 with ⟨_, hz⟩ | ⟨g, cap, cur, rfl, hb, _, hnc, hcm, _⟩
  · omega
  · exact ⟨g, cap, rfl, hb, (h'.lt g rfl).2, hnc, hcm⟩

end Go.Proofs.YtegadgncggbeoaaGreat
namespace Go.Proofs.YtegadgncggbeoaaGreat
open Go.RowKit Apo

end Go.Proofs.YtegadgncggbeoaaGreat
namespace Go.Proofs.YtegadgncggbeoaaGreat
open Go.RowKit Apo

theorem rdown {w : World} {B : Nat} {a : Option Addr} {c : Nat} {l : List Int} {n : Nat} (h : w.ownsRow B 5 1 (.slice a n c) n (l.map (Value.int .u8))) : Rd .u8 w a l ∧ n = l.length ∧ (a = none → c = 0) ∧ (∀ x, a = some x → B ≤ x.block) := by
  obtain ⟨h1, h2, _⟩ := Rd.own h
  refine ⟨h1, h2, ?_, ?_⟩
  · intro hn
    rcases h.2 with ⟨e, _⟩ | ⟨g, c', cur, e, _⟩
    · cases e; rfl
    · cases e; cases hn
  · intro x hx
    rcases h.2 with ⟨e, _⟩ | ⟨g, c', cur, e, hb, _⟩
    · cases e; cases hx
    · cases e; cases hx; exact hb

end Go.Proofs.YtegadgncggbeoaaGreat
namespace Go.Proofs.YtegadgncggbeoaaGreat
open Go.RowKit Apo
attribute [local go_sem ↓] Go.wp_at_zero Go.wp_at_succ

theorem str_inj {x y : List Int} (hx : ∀ z ∈ x, 0 ≤ z ∧ z ≤ 255) (hy : ∀ z ∈ y, 0 ≤ z ∧ z ≤ 255) (h : (strOfNums x).toList = (strOfNums y).toList) : x = y := by
  have e : strOfNums x = strOfNums y := by
    rw [ByteArray.toList_eq, ByteArray.toList_eq] at h
    exact ByteArray.ext (Array.ext' h)
  rw [← nums_strOfNums hx, ← nums_strOfNums hy, e]

theorem size_sup : (Tryz.prog.info? 119).map (·.size) = some 4 := by kernel_rfl
end Go.Proofs.YtegadgncggbeoaaGreat
namespace Go.Proofs.YtegadgncggbeoaaGreat
open Go.RowKit Apo

theorem ob_four {W : World} {g : Nat} {t : TypeId} {cs : List Value} (k : Ob W g t cs) (hl : cs.length = 4) (s : Sup) : Ob ((((W.setCell ⟨g, 0, none⟩ (.int .u64 s.e)).setCell ⟨g, 1, none⟩ (.int .u32 s.st)).setCell ⟨g, 2, none⟩ (.int .u32 s.pg)).setCell ⟨g, 3, none⟩ (.int .u32 s.sz)) g t s.cells := by
  have h := (((k.set 0 (.int .u64 s.e)).set 1 (.int .u32 s.st)).set 2 (.int .u32 s.pg)).set 3 (.int .u32 s.sz)
  match cs, hl with
  | [a, b, c, d], _ => exact h
theorem below_four {W w : World} {g : Nat} (b : Below g w W) (s : Sup) : Below g w ((((W.setCell ⟨g, 0, none⟩ (.int .u64 s.e)).setCell ⟨g, 1, none⟩ (.int .u32 s.st)).setCell ⟨g, 2, none⟩ (.int .u32 s.pg)).setCell ⟨g, 3, none⟩ (.int .u32 s.sz)) :=
  (((b.setCell (p := ⟨g, 0, none⟩) (Nat.le_refl _) _).setCell (p := ⟨g, 1, none⟩) (Nat.le_refl _) _).setCell (p := ⟨g, 2, none⟩) (Nat.le_refl _) _).setCell (p := ⟨g, 3, none⟩) (Nat.le_refl _) _

end Go.Proofs.YtegadgncggbeoaaGreat
