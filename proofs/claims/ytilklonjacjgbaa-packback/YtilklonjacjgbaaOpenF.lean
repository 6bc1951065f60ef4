/- A slice of fields that came in, as the walks read it. -/
import Derived.Test.YtilklonjacjgbaaRows
import Derived.Test.YtilklonjacjgbaaFld
import Derived.Deep.Slices
import Derived.ProofKit
import Derived.OpenShut
namespace Go.Proofs.Ytilklonjacjgbaa
open Go.RowKit Apo Go.ChangeShapes Go.WideShapes Go.Deep

section
variable {H : Type} {enc : TypeId × Value → H} {w : World} {base : Nat} {spare : Nat → Bool} {held : Bool}

instance : Inhabited Fld := ⟨⟨0, 0, ⟨#[]⟩, false⟩⟩

theorem open_flds {fuel : Nat} {a : Option Addr} {len cap : Nat} {x : DataW H × List MemPlace} (h : DataW.trod enc Try.prog w base spare held fuel 22 [.slice a len cap] = some x) :
    ∃ fs : List Fld, fs.length = len ∧ RdF w a fs ∧ (∀ f ∈ fs, OkF f ∧ f.s.size ≤ maxLen) ∧ len ≤ maxLen := by
  rcases open_slice Try.underlying22 h with ⟨hcs, _⟩ | ⟨ad, len', cap', m, n, D, Pl, hcs, hb, hl, hm, hmm, _, hx⟩
  · simp only [List.cons.injEq, Value.slice.injEq, and_true] at hcs
    obtain ⟨rfl, rfl, rfl⟩ := hcs
    exact ⟨[], rfl, RdF.nil _ _, by simp, by omega⟩
  · simp only [List.cons.injEq, Value.slice.injEq, and_true] at hcs
    obtain ⟨rfl, rfl, rfl⟩ := hcs
    have hlm : len ≤ m := by rw [hmm]; split <;> omega
    have ce : Try.prog.cellsOf 38 = 4 := by kernel_rfl
    have each : ∀ i, i < len → ∃ f : Fld, w.cell? (ad.add (i * 4)) = some (.int .i64 f.k) ∧ w.cell? (ad.add (i * 4 + 1)) = some (.int .u64 f.n) ∧ w.cell? (ad.add (i * 4 + 2)) = some (.string f.s) ∧ w.cell? (ad.add (i * 4 + 3)) = some (.bool f.b) ∧ OkF f ∧ f.s.size ≤ maxLen := by
      intro i hi
      obtain ⟨cs', h1, h2⟩ := hx i (by omega)
      rw [ce] at h1
      obtain ⟨_, hlen, hcell⟩ := World.cells?_some h1
      obtain ⟨xs, k, hk, hxy, _, hxl, hf⟩ := DataW.trod_struct Try.underlying38 h2
      match xs, hxl, cs', hlen with
      | [y0, y1, y2, y3], _, [v0, v1, v2, v3], _ =>
        have c3 : Try.prog.cellsOf 3 = 1 := by kernel_rfl
        have c36 : Try.prog.cellsOf 36 = 1 := by kernel_rfl
        have c9 : Try.prog.cellsOf 9 = 1 := by kernel_rfl
        have c4 : Try.prog.cellsOf 4 = 1 := by kernel_rfl
        have g0 := hf 0 _ rfl
        have g1 := hf 1 _ rfl
        have g2 := hf 2 _ rfl
        have g3 := hf 3 _ rfl
        simp [c3, c36, c9, c4] at g0 g1 g2 g3
        obtain ⟨kk, e0, _, w0⟩ := DataW.trod_int Try.underlying3 g0
        obtain ⟨nn, e1, _, w1⟩ := DataW.trod_int Try.underlying36 g1
        obtain ⟨ss, e2, _, w2⟩ := DataW.trod_string Try.underlying9 g2
        obtain ⟨bb, e3, _⟩ := DataW.trod_bool Try.underlying4 g3
        have q0 := hcell 0 (by omega)
        have q1 := hcell 1 (by omega)
        have q2 := hcell 2 (by omega)
        have q3 := hcell 3 (by omega)
        rw [add_add] at q0 q1 q2 q3
        simp only [List.cons.injEq, and_true] at e0 e1 e2 e3
        subst e0 e1 e2 e3
        have b0 := bounds_i64 w0
        have b1 := bounds_u64 w1
        exact ⟨⟨kk, nn, ss, bb⟩, by simpa using q0, by simpa using q1, by simpa using q2, by simpa using q3, ⟨b0.1, b0.2, b1.1, b1.2⟩, w2⟩
    obtain ⟨F, hF⟩ := choose_lt each
    refine ⟨(List.range len).map F, by simp, ?_, ?_, by omega⟩
    · intro i f hi
      obtain ⟨hlt, hv⟩ := List.getElem?_eq_some_iff.1 hi
      have hil : i < len := by simpa using hlt
      have hfi : F i = f := by simpa using hv
      obtain ⟨p0, p1, p2, p3, _⟩ := hF i hil
      have z0 := (hF 0 (by omega)).1
      obtain ⟨b, off, spot⟩ := ad
      have hspot : spot = none := by simpa [Addr.add] using World.cell?_spot z0
      subst hspot
      rw [hfi] at p0 p1 p2 p3
      rw [add_plain] at p0 p1 p2 p3
      exact ⟨b, off, rfl, p0, by simpa [Nat.add_assoc] using p1, by simpa [Nat.add_assoc] using p2, by simpa [Nat.add_assoc] using p3⟩
    · intro f hf
      simp only [List.mem_map, List.mem_range] at hf
      obtain ⟨i, hi, rfl⟩ := hf
      exact (hF i hi).2.2.2.2
end
end Go.Proofs.Ytilklonjacjgbaa
