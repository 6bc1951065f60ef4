/- Sides as they come in. -/
import Derived.Deep.Slices
import Derived.ProofKit
import Derived.OpenShut
import Derived.Test.YtgjhmpmjbedjoaaRows
import Derived.Test.YtgjhmpmjbedjoaaQA4
namespace Go.Proofs.Ytgjhmpmjbedjoaa
open Go.ChangeShapes Go.WideShapes Go.RowKit Apo
section
variable {H : Type} {enc : TypeId × Value → H} {w : World} {base : Nat} {spare : Nat → Bool} {held : Bool}
set_option maxRecDepth 100000 in
theorem open_side {fuel : Nat} {cs : List Value} {x : DataW H × List MemPlace} (hc : cs.length = 2) (h : DataW.trod enc Try.prog w base spare held fuel 73 cs = some x) :
    ∃ s : Si, cs = [.bool s.b, .string s.v] := by
  obtain ⟨xs, k, hk, hxy, _, hxl, hf⟩ := DataW.trod_struct Try.underlying73 h
  match xs, hxl, cs, hc with
  | [y0, y1], _, [v0, v1], _ =>
    have c4 : Try.prog.cellsOf 4 = 1 := by kernel_rfl
    have c9 : Try.prog.cellsOf 9 = 1 := by kernel_rfl
    have g0 := hf 0 _ rfl
    have g1 := hf 1 _ rfl
    simp [c4, c9] at g0 g1
    obtain ⟨b, e0, _⟩ := DataW.trod_bool Try.underlying4 g0
    obtain ⟨s, e1, _⟩ := DataW.trod_string Try.underlying9 g1
    simp only [List.cons.injEq, and_true] at e0 e1
    subst e0 e1
    exact ⟨⟨b, s⟩, rfl⟩
set_option maxRecDepth 100000 in
theorem side_in {r : Reach} {b0 : Nat} {v : Value} {d : DataW H} {ps : List MemPlace} (hval : Value.okWide Try.prog w r b0 73 v) (h : DataW.Trod enc Try.prog w base spare held 73 v d ps) :
    ∃ s : Si, v = .agg #[.bool s.b, .string s.v] ∧ True := by
  obtain ⟨cs, rfl, hc⟩ := okWide_struct Try.underlying73 hval
  obtain ⟨fuel, hf⟩ := h
  have c32 : Try.prog.cellsOf 73 = 2 := by kernel_rfl
  rw [c32] at hc
  obtain ⟨f, e⟩ := open_side (cs := cs.toList) (by simpa using hc) hf
  refine ⟨f, ?_, trivial⟩
  cases cs
  simp only at e
  rw [e]
end
end Go.Proofs.Ytgjhmpmjbedjoaa
