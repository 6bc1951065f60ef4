/- The document's device in memory, and what its has, act, Arm and Fault do, over the translation. What the document's Read of a device does, over the translation. The document's numbers as bytes, over the translation. What the document's numbers and supers do, over the translation. What the document's Write to a device does, over the translation. What the document's Flush of a device does, over the translation. What the document's Save of a super does, over the translation. What the document's SuperOf does, over the translation. What the document's Load of a super does, over the translation. -/
import Derived.WalkKit
import Derived.WalkSpells
import Derived.WalkLawsBesides
import Derived.Handy
import Derived.BigRegion
import Derived.Maps.AppendAt
import Derived.Lib.AppendStr
import Derived.Deep.RegionHeld3
import Derived.Deep.RegionLaw
import Derived.BigQuiet
import Derived.Deep.CutRange
import Derived.Deep.DeepCutAuto
import Derived.Test.YtcmblfhghebjjaaRows
import Derived.Test.YtcmblfhghebjjaaGBa
import Derived.Test.YtcmblfhghebjjaaGPu
namespace Apo
open Go Go.RowKit

/-- cells of cached writes: a place, then the bytes' slice -/
def ccells : List (Nat × List Int) → List Value → List Value
  | x :: c, v :: vs => .int .i64 x.1 :: v :: ccells c vs
  | _, _ => []
theorem ccells_len : ∀ {c : List (Nat × List Int)} {vs : List Value}, vs.length = c.length → (ccells c vs).length = c.length * 2
  | [], [], _ => rfl
  | [], _ :: _, h => by simp at h
  | _ :: _, [], h => by simp at h
  | x :: c, v :: vs, h => by
    simp only [ccells, List.length_cons]
    rw [ccells_len (by simpa using h)]
    omega
theorem ccells_at : ∀ {c : List (Nat × List Int)} {vs : List Value} {i : Nat} {x : Nat × List Int} {v : Value}, c[i]? = some x → vs[i]? = some v → (ccells c vs)[i * 2]? = some (.int .i64 x.1) ∧ (ccells c vs)[i * 2 + 1]? = some v
  | [], _, _, _, _, h, _ => by simp at h
  | _ :: _, [], _, _, _, _, h => by simp at h
  | y :: c, u :: vs, 0, x, v, h, k => by
    simp at h k
    subst h k
    exact ⟨rfl, rfl⟩
  | y :: c, u :: vs, i + 1, x, v, h, k => by
    have := ccells_at (c := c) (vs := vs) (i := i) (by simpa using h) (by simpa using k)
    have e : (i + 1) * 2 = i * 2 + 1 + 1 := by omega
    rw [e]
    simp only [ccells, List.getElem?_cons_succ]
    exact this
theorem ccells_snoc : ∀ {c : List (Nat × List Int)} {vs : List Value} (x : Nat × List Int) (v : Value), vs.length = c.length → ccells (c ++ [x]) (vs ++ [v]) = ccells c vs ++ [.int .i64 x.1, v]
  | [], [], _, _, _ => rfl
  | [], _ :: _, _, _, h => by simp at h
  | _ :: _, [], _, _, h => by simp at h
  | y :: c, u :: vs, x, v, h => by
    simp only [List.cons_append, ccells]
    rw [ccells_snoc x v (by simpa using h)]

/-- a sector's bytes -/
def Byt (O : Nat → Prop) (e : TypeId) (w : World) (v : Value) (r : List Int) : Prop := Row O w e 1 v 32 (r.map (Value.int .u8))
def Byts (O : Nat → Prop) (e : TypeId) (w : World) (vs : List Value) (rs : List (List Int)) : Prop := vs.length = rs.length ∧ ∀ (i : Nat) (v : Value) (r : List Int), vs[i]? = some v → rs[i]? = some r → Byt O e w v r
theorem Byts.nil (O : Nat → Prop) (e : TypeId) (w : World) : Byts O e w [] [] := ⟨rfl, by simp⟩
theorem Byts.set {O : Nat → Prop} {e : TypeId} {w : World} {vs : List Value} {rs : List (List Int)} (h : Byts O e w vs rs) {v : Value} {r : List Int} (k : Byt O e w v r) (i : Nat) : Byts O e w (vs.set i v) (rs.set i r) := by
  refine ⟨by simp [h.1], ?_⟩
  intro j u q hu hq
  rw [List.getElem?_set] at hu hq
  have hl := h.1
  split at hu
  · next hij =>
    rw [if_pos hij] at hq
    split at hu
    · rw [if_pos (by omega)] at hq
      cases hu
      cases hq
      exact k
    · cases hu
  · next hij =>
    rw [if_neg hij] at hq
    exact h.2 j u q hu hq
theorem Byts.snoc {O : Nat → Prop} {e : TypeId} {w : World} {vs : List Value} {rs : List (List Int)} (h : Byts O e w vs rs) {v : Value} {r : List Int} (k : Byt O e w v r) : Byts O e w (vs ++ [v]) (rs ++ [r]) := by
  have hl := h.1
  refine ⟨by simp [hl], ?_⟩
  intro j u q hu hq
  rw [List.getElem?_append] at hu hq
  split at hu
  · rw [if_pos (by omega)] at hq
    exact h.2 j u q hu hq
  · rw [if_neg (by omega)] at hq
    have e1 : j - vs.length = 0 := by
      rcases Nat.eq_zero_or_pos (j - vs.length) with e | e
      · exact e
      · rw [List.getElem?_eq_none (by simp; omega)] at hu; cases hu
    have e2 : j - rs.length = 0 := by omega
    rw [e1] at hu
    rw [e2] at hq
    simp at hu hq
    subst hu hq
    exact k
theorem Byts.onl {O F : Nat → Prop} {e : TypeId} {w w' : World} {vs : List Value} {rs : List (List Int)} (h : Byts O e w vs rs) (ho : Onl F w w') (hF : ∀ v r g, Byt O e w v r → v.ownBlock = some g → ¬ F g) : Byts O e w' vs rs :=
  ⟨h.1, fun i v r hv hr => (h.2 i v r hv hr).onl ho (fun g hg => hF v r g (h.2 i v r hv hr) hg)⟩
theorem Byts.mono {O O' : Nat → Prop} {e : TypeId} {w : World} {vs : List Value} {rs : List (List Int)} (h : Byts O e w vs rs) (hO : ∀ i, O i → O' i) : Byts O' e w vs rs := ⟨h.1, fun i v r hv hr => (h.2 i v r hv hr).mono hO⟩
end Apo
namespace Go.Proofs.Ytcmblfhghebjjaa
open Go.RowKit Apo

end Go.Proofs.Ytcmblfhghebjjaa
namespace Go.Proofs.Ytcmblfhghebjjaa
open Go.RowKit Apo

def flK (st : Sd) (k : Nat) : Sd := ⟨putAll (st.C.take k) st.S, st.C, st.bad, st.acted.left, st.acted.dead⟩
theorem flK_zero (st : Sd) : flK st 0 = st.acted := by
  unfold flK
  have e1 := acted_S st
  have e2 := acted_C st
  have e3 := acted_bad st
  cases h : st.acted
  rw [h] at e1 e2 e3
  simp only at e1 e2 e3
  subst e1 e2 e3
  rfl
theorem flK_end {st : Sd} {k : Nat} (hk : st.C.length ≤ k) : ({ flK st k with C := [] } : Sd) = { st.acted with S := putAll st.C st.S, C := [] } := by
  unfold flK
  rw [List.take_of_length_le hk]
  have e3 := acted_bad st
  rw [← e3]
theorem flK_set {st : Sd} {k : Nat} {x : Nat × List Int} (hx : st.C[k]? = some x) : ({ flK st k with S := (flK st k).S.set x.1 x.2 } : Sd) = flK st (k + 1) := by
  unfold flK
  simp only
  rw [putAll_snoc hx]

theorem info_u8 : (Try.prog.info? 5).map (fun i => (i.zero, i.size, i.bytes)) = some (some (.int .u8 0), 1, 1) := by kernel_rfl

/-- what Read hands out: a row of its own, or nothing -/
def Told (w : World) (B : Nat) (v : Value) (l : List Int) : Prop := w.ownsRow B 5 1 v l.length (l.map (Value.int .u8))

end Go.Proofs.Ytcmblfhghebjjaa
namespace Go.Proofs.Ytcmblfhghebjjaa
open Go.RowKit Apo
attribute [local go_sem ↓] Apo.app_exec

theorem be_at : ∀ {k j : Nat} (n : Nat), j < k → (be k n)[j]? = some ((n / 256 ^ (k - 1 - j) % 256 : Nat) : Int)
  | 0, _, _, h => by omega
  | k + 1, 0, n, _ => by simp [be]
  | k + 1, j + 1, n, h => by
    simp only [be, List.getElem?_cons_succ]
    rw [be_at n (by omega), show k + 1 - 1 - (j + 1) = k - 1 - j by omega]

end Go.Proofs.Ytcmblfhghebjjaa
namespace Go.Proofs.Ytcmblfhghebjjaa
open Go.RowKit Apo
attribute [local go_sem ↓] Apo.app_exec

theorem apog_cells : Lib.strCells ⟨#[97, 112, 111, 103]⟩ = apog.map (Value.int .u8) := by rfl

end Go.Proofs.Ytcmblfhghebjjaa
namespace Go.Proofs.Ytcmblfhghebjjaa
open Go.RowKit Apo
attribute [local go_sem ↓] Go.wp_at_zero Go.wp_at_succ Apo.app_exec

theorem own_shape2 {w : World} {base e size : Nat} {v : Value} {n : Nat} {xs : List Value} (h : w.ownsRow base e size v n xs) (hp : 0 < n) :
    ∃ g cap, v = .slice (some ⟨g, 0, none⟩) n cap ∧ base ≤ g ∧ g < w.heap.size ∧ n ≤ cap ∧ cap ≤ maxLen := by
  have h' := h
  rcases h.2 with ⟨_, hz⟩ | ⟨g, cap, cur, rfl, hb, _, hnc, hcm, _⟩
  · omega
  · exact ⟨g, cap, rfl, hb, (h'.lt g rfl).2, hnc, hcm⟩

end Go.Proofs.Ytcmblfhghebjjaa
namespace Go.Proofs.Ytcmblfhghebjjaa
open Go.RowKit Apo

end Go.Proofs.Ytcmblfhghebjjaa
namespace Go.Proofs.Ytcmblfhghebjjaa
open Go.RowKit Apo

theorem rdown {w : World} {B : Nat} {a : Option Addr} {c : Nat} {l : List Int} {n : Nat} (h : w.ownsRow B 5 1 (.slice a n c) n (l.map (Value.int .u8))) : Rd .u8 w a l ∧ n = l.length ∧ (a = none → c = 0) ∧ (∀ x, a = some x → B ≤ x.block) := by
  obtain ⟨h1, h2, _⟩ := Rd.own h
  refine ⟨h1, h2, ?_, ?_⟩
  · intro hn
    rcases h.2 with ⟨e, _⟩ | ⟨g, c', cur, e, _⟩
    · cases e; rfl
    · cases e; cases hn
  · intro x hx
    rcases h.2 with ⟨e, _⟩ | ⟨g, c', cur, e, hb, _⟩
    · cases e; cases hx
    · cases e; cases hx; exact hb

end Go.Proofs.Ytcmblfhghebjjaa
namespace Go.Proofs.Ytcmblfhghebjjaa
open Go.RowKit Apo
attribute [local go_sem ↓] Go.wp_at_zero Go.wp_at_succ

theorem str_inj {x y : List Int} (hx : ∀ z ∈ x, 0 ≤ z ∧ z ≤ 255) (hy : ∀ z ∈ y, 0 ≤ z ∧ z ≤ 255) (h : (strOfNums x).toList = (strOfNums y).toList) : x = y := by
  have e : strOfNums x = strOfNums y := by
    rw [ByteArray.toList_eq, ByteArray.toList_eq] at h
    exact ByteArray.ext (Array.ext' h)
  rw [← nums_strOfNums hx, ← nums_strOfNums hy, e]

theorem size_sup : (Try.prog.info? 66).map (·.size) = some 4 := by kernel_rfl
end Go.Proofs.Ytcmblfhghebjjaa
namespace Go.Proofs.Ytcmblfhghebjjaa
open Go.RowKit Apo

theorem ob_four {W : World} {g : Nat} {t : TypeId} {cs : List Value} (k : Ob W g t cs) (hl : cs.length = 4) (s : Sup) : Ob ((((W.setCell ⟨g, 0, none⟩ (.int .u64 s.e)).setCell ⟨g, 1, none⟩ (.int .u32 s.st)).setCell ⟨g, 2, none⟩ (.int .u32 s.pg)).setCell ⟨g, 3, none⟩ (.int .u32 s.sz)) g t s.cells := by
  have h := (((k.set 0 (.int .u64 s.e)).set 1 (.int .u32 s.st)).set 2 (.int .u32 s.pg)).set 3 (.int .u32 s.sz)
  match cs, hl with
  | [a, b, c, d], _ => exact h
theorem below_four {W w : World} {g : Nat} (b : Below g w W) (s : Sup) : Below g w ((((W.setCell ⟨g, 0, none⟩ (.int .u64 s.e)).setCell ⟨g, 1, none⟩ (.int .u32 s.st)).setCell ⟨g, 2, none⟩ (.int .u32 s.pg)).setCell ⟨g, 3, none⟩ (.int .u32 s.sz)) :=
  (((b.setCell (p := ⟨g, 0, none⟩) (Nat.le_refl _) _).setCell (p := ⟨g, 1, none⟩) (Nat.le_refl _) _).setCell (p := ⟨g, 2, none⟩) (Nat.le_refl _) _).setCell (p := ⟨g, 3, none⟩) (Nat.le_refl _) _

end Go.Proofs.Ytcmblfhghebjjaa
