/- Supers, and slices of them, as they came in. -/
import Derived.Test.YtdpbkmbegjcgjaaRows
import Derived.Test.YtdpbkmbegjcgjaaIsr
import Derived.Test.YtdpbkmbegjcgjaaSupM
import Derived.Deep.Slices
import Derived.ProofKit
import Derived.OpenShut
import Derived.Handy
namespace Go.Proofs.Ytdpbkmbegjcgjaa
open Go.RowKit Apo Go.ChangeShapes Go.WideShapes Go.Deep

instance : Inhabited Sup := ⟨⟨0, 0, 0, 0⟩⟩
/-- the slice's cells, four a super, from its address on hold the supers 'l' -/
def RdS (w : World) (a : Option Addr) (l : List Sup) : Prop :=
  ∀ i s, l[i]? = some s → s.Ok ∧ ∃ b off, a = some ⟨b, off, none⟩ ∧ w.cell? ⟨b, off + i * 4, none⟩ = some (.int .u64 s.e) ∧ w.cell? ⟨b, off + i * 4 + 1, none⟩ = some (.int .u32 s.st) ∧ w.cell? ⟨b, off + i * 4 + 2, none⟩ = some (.int .u32 s.pg) ∧ w.cell? ⟨b, off + i * 4 + 3, none⟩ = some (.int .u32 s.sz)
theorem RdS.nil (w : World) (a : Option Addr) : RdS w a [] := fun i d h => by simp at h
theorem RdS.below {w w' : World} {a : Option Addr} {l : List Sup} (h : RdS w a l) (hb : Below w.heap.size w w') : RdS w' a l := by
  intro i d hi
  obtain ⟨ok, b, off, ha, c0, c1, c2, c3⟩ := h i d hi
  have hlt := World.block_lt_of_cell? w _ c0
  exact ⟨ok, b, off, ha, (hb.cell (by exact hlt)).trans c0, (hb.cell (by exact hlt)).trans c1, (hb.cell (by exact hlt)).trans c2, (hb.cell (by exact hlt)).trans c3⟩
section
variable {H : Type} {enc : TypeId × Value → H} {w : World} {base : Nat} {spare : Nat → Bool} {held : Bool}

theorem open_sup {fuel : Nat} {cs : List Value} {x : DataW H × List MemPlace} (hc : cs.length = 4) (h : DataW.trod enc Try.prog w base spare held fuel 25 cs = some x) :
    ∃ s : Sup, cs = s.cells ∧ s.Ok := by
  obtain ⟨xs, k, hk, hxy, _, hxl, hf⟩ := DataW.trod_struct Try.underlying25 h
  match xs, hxl, cs, hc with
  | [y0, y1, y2, y3], _, [v0, v1, v2, v3], _ =>
    have c22 : Try.prog.cellsOf 22 = 1 := by kernel_rfl
    have c23 : Try.prog.cellsOf 23 = 1 := by kernel_rfl
    have g0 := hf 0 _ rfl
    have g1 := hf 1 _ rfl
    have g2 := hf 2 _ rfl
    have g3 := hf 3 _ rfl
    simp [c22, c23] at g0 g1 g2 g3
    obtain ⟨e, e0, _, w0⟩ := DataW.trod_int Try.underlying22 g0
    obtain ⟨a, e1, _, w1⟩ := DataW.trod_int Try.underlying23 g1
    obtain ⟨b, e2, _, w2⟩ := DataW.trod_int Try.underlying23 g2
    obtain ⟨c, e3, _, w3⟩ := DataW.trod_int Try.underlying23 g3
    simp only [List.cons.injEq, and_true] at e0 e1 e2 e3
    subst e0 e1 e2 e3
    have b0 := bounds_u64 w0
    have b1 := bounds_u32 w1
    have b2 := bounds_u32 w2
    have b3 := bounds_u32 w3
    refine ⟨⟨e.toNat, a.toNat, b.toNat, c.toNat⟩, ?_, ⟨by simp only; omega, by simp only; omega, by simp only; omega, by simp only; omega⟩⟩
    simp only [Sup.cells, Int.toNat_of_nonneg b0.1, Int.toNat_of_nonneg b1.1, Int.toNat_of_nonneg b2.1, Int.toNat_of_nonneg b3.1]

theorem sup_in {r : Reach} {b0 : Nat} {v : Value} {d : DataW H} {ps : List MemPlace} (hval : Value.okWide Try.prog w r b0 25 v) (h : DataW.Trod enc Try.prog w base spare held 25 v d ps) :
    ∃ s : Sup, v = s.val ∧ s.Ok := by
  obtain ⟨cs, rfl, hc⟩ := okWide_struct Try.underlying25 hval
  obtain ⟨fuel, hf⟩ := h
  have c32 : Try.prog.cellsOf 25 = 4 := by kernel_rfl
  rw [c32] at hc
  obtain ⟨f, e, ok⟩ := open_sup (cs := cs.toList) (by simpa using hc) hf
  exact ⟨f, by rw [Sup.val, ← e], ok⟩

theorem open_sups {fuel : Nat} {a : Option Addr} {len cap : Nat} {x : DataW H × List MemPlace} (h : DataW.trod enc Try.prog w base spare held fuel 32 [.slice a len cap] = some x) :
    ∃ fs : List Sup, fs.length = len ∧ RdS w a fs ∧ len ≤ maxLen := by
  rcases open_slice Try.underlying32 h with ⟨hcs, _⟩ | ⟨ad, len', cap', m, n, D, Pl, hcs, hb, hl, hm, hmm, _, hx⟩
  · simp only [List.cons.injEq, Value.slice.injEq, and_true] at hcs
    obtain ⟨rfl, rfl, rfl⟩ := hcs
    exact ⟨[], rfl, RdS.nil _ _, by omega⟩
  · simp only [List.cons.injEq, Value.slice.injEq, and_true] at hcs
    obtain ⟨rfl, rfl, rfl⟩ := hcs
    have hlm : len ≤ m := by rw [hmm]; split <;> omega
    have ce : Try.prog.cellsOf 25 = 4 := by kernel_rfl
    have each : ∀ i, i < len → ∃ s : Sup, w.cell? (ad.add (i * 4)) = some (.int .u64 s.e) ∧ w.cell? (ad.add (i * 4 + 1)) = some (.int .u32 s.st) ∧ w.cell? (ad.add (i * 4 + 2)) = some (.int .u32 s.pg) ∧ w.cell? (ad.add (i * 4 + 3)) = some (.int .u32 s.sz) ∧ s.Ok := by
      intro i hi
      obtain ⟨cs', h1, h2⟩ := hx i (by omega)
      rw [ce] at h1
      obtain ⟨_, hlen, hcell⟩ := World.cells?_some h1
      obtain ⟨s, rfl, ok⟩ := open_sup hlen h2
      have q0 := hcell 0 (by omega)
      have q1 := hcell 1 (by omega)
      have q2 := hcell 2 (by omega)
      have q3 := hcell 3 (by omega)
      rw [add_add] at q0 q1 q2 q3
      exact ⟨s, by simpa [Sup.cells] using q0, by simpa [Sup.cells] using q1, by simpa [Sup.cells] using q2, by simpa [Sup.cells] using q3, ok⟩
    obtain ⟨F, hF⟩ := choose_lt each
    refine ⟨(List.range len).map F, by simp, ?_, by omega⟩
    intro i f hi
    obtain ⟨hlt, hv⟩ := List.getElem?_eq_some_iff.1 hi
    have hil : i < len := by simpa using hlt
    have hfi : F i = f := by simpa using hv
    obtain ⟨p0, p1, p2, p3, ok⟩ := hF i hil
    have z0 := (hF 0 (by omega)).1
    obtain ⟨b, off, spot⟩ := ad
    have hspot : spot = none := by simpa [Addr.add] using World.cell?_spot z0
    subst hspot
    rw [hfi] at p0 p1 p2 p3 ok
    rw [add_plain] at p0 p1 p2 p3
    exact ⟨ok, b, off, rfl, p0, by simpa [Nat.add_assoc] using p1, by simpa [Nat.add_assoc] using p2, by simpa [Nat.add_assoc] using p3⟩
end
end Go.Proofs.Ytdpbkmbegjcgjaa
