/- Picked out of other texts of mine. -/
import Derived.Test.YtoneedobhopkkaaRows
import Derived.Test.YtoneedobhopkkaaDGe
import Derived.Deep.Slices
import Derived.ProofKit
import Derived.OpenShut
namespace Go.Proofs.Ytoneedobhopkkaa
open Go.RowKit Apo Go.ChangeShapes Go.WideShapes Go.Deep
/-- entries, children in a slice that came in -/
structure EsA where
  a : Option Addr
  c : Nat
  l : List En
structure OkEs (w : World) (x : EsA) : Prop where
  rd : RdEn w x.a x.l
  sz : ∀ e ∈ x.l, e.k.size ≤ maxLen ∧ e.v.size ≤ maxLen
  len : x.l.length ≤ x.c
  big : x.c ≤ maxLen
  nil : x.a = none → x.c = 0
set_option maxRecDepth 100000 in
theorem OkEs.below {w w' : World} {x : EsA} (h : OkEs w x) (b : Below w.heap.size w w') : OkEs w' x := { h with rd := h.rd.below b }
section
variable {H : Type} {enc : TypeId × Value → H} {w : World} {base : Nat} {spare : Nat → Bool} {held : Bool}

set_option maxRecDepth 100000 in
theorem open_ens {fuel : Nat} {v : Value} {x : DataW H × List MemPlace} (h : DataW.trod enc Try.prog w base spare held fuel 28 [v] = some x) :
    ∃ (a : Option Addr) (cap : Nat) (fs : List En), v = .slice a fs.length cap ∧ RdEn w a fs ∧ (∀ f ∈ fs, f.k.size ≤ maxLen ∧ f.v.size ≤ maxLen) ∧ fs.length ≤ cap ∧ cap ≤ maxLen ∧ (a = none → cap = 0) := by
  rcases open_slice Try.underlying28 h with ⟨hcs, _⟩ | ⟨ad, len, cap, m, n, D, Pl, hcs, hb, hl, hm, hmm, _, hx⟩
  · simp only [List.cons.injEq, and_true] at hcs
    exact ⟨none, 0, [], hcs, (fun i e hi => by simp at hi), by simp, by simp, by omega, fun _ => rfl⟩
  · simp only [List.cons.injEq, and_true] at hcs
    have hlm : len ≤ m := by rw [hmm]; split <;> omega
    have ce : Try.prog.cellsOf 47 = 2 := by kernel_rfl
    have each : ∀ i, i < len → ∃ f : En, w.cell? (ad.add (i * 2)) = some (.string f.k) ∧ w.cell? (ad.add (i * 2 + 1)) = some (.string f.v) ∧ (f.k.size ≤ maxLen ∧ f.v.size ≤ maxLen) := by
      intro i hi
      obtain ⟨cs', h1, h2⟩ := hx i (by omega)
      rw [ce] at h1
      obtain ⟨_, hlen, hcell⟩ := World.cells?_some h1
      obtain ⟨xs, k, hk, hxy, _, hxl, hf⟩ := DataW.trod_struct Try.underlying47 h2
      match xs, hxl, cs', hlen with
      | [y0, y1], _, [v0, v1], _ =>
        have c9 : Try.prog.cellsOf 9 = 1 := by kernel_rfl
        have g0 := hf 0 _ rfl
        have g1 := hf 1 _ rfl
        simp [c9] at g0 g1
        obtain ⟨kk, e0, _, w0⟩ := DataW.trod_string Try.underlying9 g0
        obtain ⟨vv, e1, _, w1⟩ := DataW.trod_string Try.underlying9 g1
        have q0 := hcell 0 (by omega)
        have q1 := hcell 1 (by omega)
        rw [add_add] at q0 q1
        simp only [List.cons.injEq, and_true] at e0 e1
        subst e0 e1
        exact ⟨⟨kk, vv⟩, by simpa using q0, by simpa using q1, w0, w1⟩
    obtain ⟨F, hF⟩ := choose_lt each
    refine ⟨some ad, cap, (List.range len).map F, by simpa using hcs, ?_, ?_, by simp; omega, by omega, fun e => by cases e⟩
    · intro i f hi
      obtain ⟨hlt, hv⟩ := List.getElem?_eq_some_iff.1 hi
      have hil : i < len := by simpa using hlt
      have hfi : F i = f := by simpa using hv
      obtain ⟨p0, p1, _⟩ := hF i hil
      have z0 := (hF 0 (by omega)).1
      obtain ⟨b, off, spot⟩ := ad
      have hspot : spot = none := by simpa [Addr.add] using World.cell?_spot z0
      subst hspot
      rw [hfi] at p0 p1
      rw [add_plain] at p0 p1
      exact ⟨b, off, rfl, p0, by simpa [Nat.add_assoc] using p1⟩
    · intro f hf
      simp only [List.mem_map, List.mem_range] at hf
      obtain ⟨i, hi, rfl⟩ := hf
      exact (hF i hi).2.2
set_option maxRecDepth 100000 in
theorem ens_in {r : Reach} {b0 : Nat} {v : Value} {d : DataW H} {ps : List MemPlace} (hval : Value.okWide Try.prog w r b0 28 v) (h : DataW.Trod enc Try.prog w base spare held 28 v d ps) : ∃ t : EsA, v = .slice t.a t.l.length t.c ∧ OkEs w t := by
  obtain ⟨a, l, c, rfl⟩ := okWide_slice Try.underlying28 hval
  obtain ⟨fuel, hf⟩ := h
  obtain ⟨a', c', fs, e, h1, h2, h3, h4, h5⟩ := open_ens hf
  exact ⟨⟨a', c', fs⟩, e, ⟨h1, h2, h3, h4, h5⟩⟩
end
end Go.Proofs.Ytoneedobhopkkaa
