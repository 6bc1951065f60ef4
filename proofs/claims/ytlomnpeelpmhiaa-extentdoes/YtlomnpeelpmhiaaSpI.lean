/- Spans, and slices of layer 6's deeds, as they came in. -/
import Derived.Test.YtlomnpeelpmhiaaXDs
import Derived.Test.YtlomnpeelpmhiaaIsr
import Derived.Deep.Slices
import Derived.ProofKit
import Derived.OpenShut
import Derived.Handy
namespace Go.Proofs.Ytlomnpeelpmhiaa
open Go.RowKit Apo Go.ChangeShapes Go.WideShapes Go.Deep

instance : Inhabited De := ⟨⟨0, ⟨0, 0⟩⟩⟩
theorem RdE.nil (w : World) (a : Option Addr) : RdE w a [] := fun i d h => by simp at h
section
variable {H : Type} {enc : TypeId × Value → H} {w : World} {base : Nat} {spare : Nat → Bool} {held : Bool}

theorem open_span {fuel : Nat} {cs : List Value} {x : DataW H × List MemPlace} (hc : cs.length = 2) (h : DataW.trod enc Try.prog w base spare held fuel 29 cs = some x) :
    ∃ s : Spn, cs = [.int .i64 s.a, .int .i64 s.k] ∧ Spn.Ok s := by
  obtain ⟨xs, k, hk, hxy, _, hxl, hf⟩ := DataW.trod_struct Try.underlying29 h
  match xs, hxl, cs, hc with
  | [y0, y1], _, [v0, v1], _ =>
    have c3 : Try.prog.cellsOf 3 = 1 := by kernel_rfl
    have g0 := hf 0 _ rfl
    have g1 := hf 1 _ rfl
    simp [c3] at g0 g1
    obtain ⟨a, e0, _, w0⟩ := DataW.trod_int Try.underlying3 g0
    obtain ⟨b, e1, _, w1⟩ := DataW.trod_int Try.underlying3 g1
    simp only [List.cons.injEq, and_true] at e0 e1
    subst e0 e1
    have b0 := bounds_i64 w0
    have b1 := bounds_i64 w1
    exact ⟨⟨a, b⟩, rfl, ⟨by simp only; omega, by simp only; omega, by simp only; omega, by simp only; omega⟩⟩
theorem span_in {r : Reach} {b0 : Nat} {v : Value} {d : DataW H} {ps : List MemPlace} (hval : Value.okWide Try.prog w r b0 29 v) (h : DataW.Trod enc Try.prog w base spare held 29 v d ps) :
    ∃ s : Spn, v = .agg #[.int .i64 s.a, .int .i64 s.k] ∧ Spn.Ok s := by
  obtain ⟨cs, rfl, hc⟩ := okWide_struct Try.underlying29 hval
  obtain ⟨fuel, hf⟩ := h
  have c32 : Try.prog.cellsOf 29 = 2 := by kernel_rfl
  rw [c32] at hc
  obtain ⟨f, e, ok⟩ := open_span (cs := cs.toList) (by simpa using hc) hf
  refine ⟨f, ?_, ok⟩
  have : cs = #[.int .i64 f.a, .int .i64 f.k] := by
    apply Array.ext'
    simpa using e
  rw [this]
theorem open_deed {fuel : Nat} {cs : List Value} {x : DataW H × List MemPlace} (hc : cs.length = 3) (h : DataW.trod enc Try.prog w base spare held fuel 31 cs = some x) :
    ∃ d : De, cs = d.cells ∧ Spn.Ok d.s := by
  obtain ⟨xs, k, hk, hxy, _, hxl, hf⟩ := DataW.trod_struct Try.underlying31 h
  match xs, hxl, cs, hc with
  | [y0, y1], _, [v0, v1, v2], _ =>
    have c3 : Try.prog.cellsOf 3 = 1 := by kernel_rfl
    have c29 : Try.prog.cellsOf 29 = 2 := by kernel_rfl
    have g0 := hf 0 _ rfl
    have g1 := hf 1 _ rfl
    simp [c3, c29] at g0 g1
    obtain ⟨a, e0, _, w0⟩ := DataW.trod_int Try.underlying3 g0
    obtain ⟨s, e1, ok⟩ := open_span rfl g1
    simp only [List.cons.injEq, and_true] at e0 e1
    obtain ⟨rfl, rfl⟩ := e1
    subst e0
    exact ⟨⟨a, s⟩, rfl, ok⟩
theorem open_xdeeds {fuel : Nat} {a : Option Addr} {len cap : Nat} {x : DataW H × List MemPlace} (h : DataW.trod enc Try.prog w base spare held fuel 22 [.slice a len cap] = some x) :
    ∃ fs : List De, fs.length = len ∧ RdE w a fs ∧ len ≤ maxLen := by
  rcases open_slice Try.underlying22 h with ⟨hcs, _⟩ | ⟨ad, len', cap', m, n, D, Pl, hcs, hb, hl, hm, hmm, _, hx⟩
  · simp only [List.cons.injEq, Value.slice.injEq, and_true] at hcs
    obtain ⟨rfl, rfl, rfl⟩ := hcs
    exact ⟨[], rfl, RdE.nil _ _, by omega⟩
  · simp only [List.cons.injEq, Value.slice.injEq, and_true] at hcs
    obtain ⟨rfl, rfl, rfl⟩ := hcs
    have hlm : len ≤ m := by rw [hmm]; split <;> omega
    have ce : Try.prog.cellsOf 31 = 3 := by kernel_rfl
    have each : ∀ i, i < len → ∃ d : De, w.cell? (ad.add (i * 3)) = some (.int .i64 d.k) ∧ w.cell? (ad.add (i * 3 + 1)) = some (.int .i64 d.s.a) ∧ w.cell? (ad.add (i * 3 + 2)) = some (.int .i64 d.s.k) ∧ Spn.Ok d.s := by
      intro i hi
      obtain ⟨cs', h1, h2⟩ := hx i (by omega)
      rw [ce] at h1
      obtain ⟨_, hlen, hcell⟩ := World.cells?_some h1
      obtain ⟨d, rfl, ok⟩ := open_deed hlen h2
      have q0 := hcell 0 (by omega)
      have q1 := hcell 1 (by omega)
      have q2 := hcell 2 (by omega)
      rw [add_add] at q0 q1 q2
      exact ⟨d, by simpa [De.cells] using q0, by simpa [De.cells] using q1, by simpa [De.cells] using q2, ok⟩
    obtain ⟨F, hF⟩ := choose_lt each
    refine ⟨(List.range len).map F, by simp, ?_, by omega⟩
    intro i f hi
    obtain ⟨hlt, hv⟩ := List.getElem?_eq_some_iff.1 hi
    have hil : i < len := by simpa using hlt
    have hfi : F i = f := by simpa using hv
    obtain ⟨p0, p1, p2, ok⟩ := hF i hil
    have z0 := (hF 0 (by omega)).1
    obtain ⟨b, off, spot⟩ := ad
    have hspot : spot = none := by simpa [Addr.add] using World.cell?_spot z0
    subst hspot
    rw [hfi] at p0 p1 p2 ok
    rw [add_plain] at p0 p1 p2
    exact ⟨ok, b, off, rfl, p0, by simpa [Nat.add_assoc] using p1, by simpa [Nat.add_assoc] using p2⟩
end
end Go.Proofs.Ytlomnpeelpmhiaa
