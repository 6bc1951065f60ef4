/- An edit as it comes in. -/
import Derived.Test.YtnblmdmlollmaaaGreatRows
import Derived.Test.YtnblmdmlollmaaaGreatQM47
import Derived.Deep.Slices
import Derived.ProofKit
import Derived.OpenShut
namespace Go.Proofs.YtnblmdmlollmaaaGreat
open Go.ChangeShapes Go.WideShapes Go.RowKit Apo
section
variable {H : Type} {enc : TypeId × Value → H} {w : World} {base : Nat} {spare : Nat → Bool} {held : Bool}
set_option maxRecDepth 100000 in
theorem open_edit {fuel : Nat} {cs : List Value} {x : DataW H × List MemPlace} (hc : cs.length = 3) (h : DataW.trod enc Tryz.prog w base spare held fuel 63 cs = some x) :
    ∃ s : Ed, cs = [.string s.k, .string s.v, .bool s.g] ∧ s.k.size ≤ maxLen ∧ s.v.size ≤ maxLen := by
  obtain ⟨xs, k, hk, hxy, _, hxl, hf⟩ := DataW.trod_struct Tryz.underlying63 h
  match xs, hxl, cs, hc with
  | [y0, y1, y2], _, [v0, v1, v2], _ =>
    have c4 : Tryz.prog.cellsOf 4 = 1 := by kernel_rfl
    have c9 : Tryz.prog.cellsOf 9 = 1 := by kernel_rfl
    have g0 := hf 0 _ rfl
    have g1 := hf 1 _ rfl
    have g2 := hf 2 _ rfl
    simp [c4, c9] at g0 g1 g2
    obtain ⟨a, e0, _, w0⟩ := DataW.trod_string Tryz.underlying9 g0
    obtain ⟨b, e1, _, w1⟩ := DataW.trod_string Tryz.underlying9 g1
    obtain ⟨s, e2, _⟩ := DataW.trod_bool Tryz.underlying4 g2
    simp only [List.cons.injEq, and_true] at e0 e1 e2
    subst e0 e1 e2
    exact ⟨⟨a, b, s⟩, rfl, w0, w1⟩
set_option maxRecDepth 100000 in
theorem edit_in {r : Reach} {b0 : Nat} {v : Value} {d : DataW H} {ps : List MemPlace} (hval : Value.okWide Tryz.prog w r b0 63 v) (h : DataW.Trod enc Tryz.prog w base spare held 63 v d ps) :
    ∃ s : Ed, v = .agg #[.string s.k, .string s.v, .bool s.g] ∧ (s.k.size ≤ maxLen ∧ s.v.size ≤ maxLen) := by
  obtain ⟨cs, rfl, hc⟩ := okWide_struct Tryz.underlying63 hval
  obtain ⟨fuel, hf⟩ := h
  have c32 : Tryz.prog.cellsOf 63 = 3 := by kernel_rfl
  rw [c32] at hc
  obtain ⟨f, e, ok⟩ := open_edit (cs := cs.toList) (by simpa using hc) hf
  refine ⟨f, ?_, ok⟩
  cases cs
  simp only at e
  rw [e]
end
end Go.Proofs.YtnblmdmlollmaaaGreat
