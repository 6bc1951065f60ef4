/- Deeds done with a device, as they came in: numbers, a slice of bytes, a slice of bools; slices of bools and of deeds that are read. -/
import Derived.Test.YtgkgbemliinajaaRows
import Derived.Test.YtgkgbemliinajaaLit
import Derived.Test.YtgkgbemliinajaaIsr
import Derived.Deep.Slices
import Derived.ProofKit
import Derived.OpenShut
import Derived.Handy
namespace Apo
open Go Go.RowKit

/-- the slice's cells, from its address on, hold the bools 'l' -/
def RdB (w : World) (a : Option Addr) (l : List Bool) : Prop :=
  ∀ i, i < l.length → ∃ b off, a = some ⟨b, off, none⟩ ∧ w.cell? ⟨b, off + i, none⟩ = some (.bool (l.getD i false))

theorem RdB.nil (w : World) (a : Option Addr) : RdB w a [] := fun i h => by simp at h
theorem RdB.below {w w' : World} {a : Option Addr} {l : List Bool} (h : RdB w a l) (hb : Below w.heap.size w w') : RdB w' a l := by
  intro i hi
  obtain ⟨b, off, ha, hc⟩ := h i hi
  have hlt := World.block_lt_of_cell? w _ hc
  exact ⟨b, off, ha, (hb.cell (by exact hlt)).trans hc⟩

/-- what a crash is told: which writes are kept, which is torn, behind how many bytes; where the bools lie -/
structure Fat where
  keep : List Bool
  ka : Option Addr
  kc : Nat
  torn : Int
  bytes : Int
def Fat.cells (f : Fat) : List Value := [.slice f.ka f.keep.length f.kc, .int .i64 f.torn, .int .i64 f.bytes]
def Fat.val (f : Fat) : Value := .agg f.cells.toArray
structure OkT (w : World) (f : Fat) : Prop where
  rd : RdB w f.ka f.keep
  nil : f.ka = none → f.kc = 0
  len : f.keep.length ≤ maxLen
  t0 : -9223372036854775808 ≤ f.torn
  t1 : f.torn ≤ 9223372036854775807
  b0 : -9223372036854775808 ≤ f.bytes
  b1 : f.bytes ≤ 9223372036854775807
theorem OkT.below {w w' : World} {f : Fat} (h : OkT w f) (hb : Below w.heap.size w w') : OkT w' f := { h with rd := h.rd.below hb }

/-- a deed -/
structure Dd where
  k : Int
  at' : Int
  b : List Int
  ba : Option Addr
  bc : Nat
  n : Int
  f : Fat
structure OkD (w : World) (d : Dd) : Prop where
  rd : Rd .u8 w d.ba d.b
  nil : d.ba = none → d.bc = 0
  len : d.b.length ≤ maxLen
  byt : ∀ z ∈ d.b, 0 ≤ z ∧ z ≤ 255
  k0 : -9223372036854775808 ≤ d.k
  k1 : d.k ≤ 9223372036854775807
  a0 : -9223372036854775808 ≤ d.at'
  a1 : d.at' ≤ 9223372036854775807
  n0 : -9223372036854775808 ≤ d.n
  n1 : d.n ≤ 9223372036854775807
  fat : OkT w d.f
theorem OkD.below {w w' : World} {d : Dd} (h : OkD w d) (hb : Below w.heap.size w w') : OkD w' d := { h with rd := h.rd.below hb, fat := h.fat.below hb }

/-- the slice's cells, seven a deed, from its address on hold the deeds 'l' -/
def RdD (w : World) (a : Option Addr) (l : List Dd) : Prop :=
  ∀ i d, l[i]? = some d → ∃ b off, a = some ⟨b, off, none⟩ ∧ w.cell? ⟨b, off + i * 7, none⟩ = some (.int .i64 d.k) ∧ w.cell? ⟨b, off + i * 7 + 1, none⟩ = some (.int .i64 d.at') ∧
    w.cell? ⟨b, off + i * 7 + 2, none⟩ = some (.slice d.ba d.b.length d.bc) ∧ w.cell? ⟨b, off + i * 7 + 3, none⟩ = some (.int .i64 d.n) ∧
    w.cell? ⟨b, off + i * 7 + 4, none⟩ = some (.slice d.f.ka d.f.keep.length d.f.kc) ∧ w.cell? ⟨b, off + i * 7 + 5, none⟩ = some (.int .i64 d.f.torn) ∧ w.cell? ⟨b, off + i * 7 + 6, none⟩ = some (.int .i64 d.f.bytes) ∧ OkD w d

theorem RdD.nil (w : World) (a : Option Addr) : RdD w a [] := fun i d h => by simp at h
theorem RdD.below {w w' : World} {a : Option Addr} {l : List Dd} (h : RdD w a l) (hb : Below w.heap.size w w') : RdD w' a l := by
  intro i d hi
  obtain ⟨b, off, ha, c0, c1, c2, c3, c4, c5, c6, ok⟩ := h i d hi
  have hlt := World.block_lt_of_cell? w _ c0
  exact ⟨b, off, ha, (hb.cell (by exact hlt)).trans c0, (hb.cell (by exact hlt)).trans c1, (hb.cell (by exact hlt)).trans c2, (hb.cell (by exact hlt)).trans c3, (hb.cell (by exact hlt)).trans c4, (hb.cell (by exact hlt)).trans c5, (hb.cell (by exact hlt)).trans c6, ok.below hb⟩
end Apo
namespace Go.Proofs.Ytgkgbemliinajaa
open Go.RowKit Apo Go.ChangeShapes Go.WideShapes Go.Deep

section
variable {H : Type} {enc : TypeId × Value → H} {w : World} {base : Nat} {spare : Nat → Bool} {held : Bool}

instance : Inhabited Fat := ⟨⟨[], none, 0, 0, 0⟩⟩
instance : Inhabited Dd := ⟨⟨0, 0, [], none, 0, 0, default⟩⟩

theorem open_bytes {fuel : Nat} {v : Value} {x : DataW H × List MemPlace} (h : DataW.trod enc Try.prog w base spare held fuel 29 [v] = some x) :
    ∃ (a : Option Addr) (cap : Nat) (l : List Int), v = .slice a l.length cap ∧ Rd .u8 w a l ∧ (a = none → cap = 0) ∧ l.length ≤ maxLen ∧ ∀ z ∈ l, 0 ≤ z ∧ z ≤ 255 := by
  rcases open_ints Try.underlying29 Try.underlying5 (by kernel_rfl) h with ⟨hcs, _⟩ | ⟨ad, len, c, zs, hcs, _, hl, hm, hz, _, hcell, hwz⟩
  · simp only [List.cons.injEq, and_true] at hcs
    subst hcs
    exact ⟨none, 0, [], rfl, Rd.nil _ _ _, fun _ => rfl, by simp, by simp⟩
  · simp only [List.cons.injEq, and_true] at hcs
    subst hcs
    have hz' : len ≤ zs.length := by
      have : zs.length = if spare ad.block = true then c else len := by simpa using hz
      rw [this]; split <;> omega
    refine ⟨some ad, c, zs.take len, by simp; omega, ?_, by simp, by simp; omega, inB_of_wf (fun z hz => hwz z (List.mem_of_mem_take hz))⟩
    intro i hi
    have hi' : i < len := by simp at hi; omega
    obtain ⟨b, off, rfl, hc⟩ := ints_at hcell (by omega)
    refine ⟨b, off, rfl, ?_⟩
    rw [hc i (by omega)]
    congr 2
    simp [List.getD, hi']

theorem open_bools {fuel : Nat} {v : Value} {x : DataW H × List MemPlace} (h : DataW.trod enc Try.prog w base spare held fuel 30 [v] = some x) :
    ∃ (a : Option Addr) (cap : Nat) (l : List Bool), v = .slice a l.length cap ∧ RdB w a l ∧ (a = none → cap = 0) ∧ l.length ≤ maxLen := by
  rcases open_slice1 Try.underlying30 (by kernel_rfl) h with ⟨hcs, _⟩ | ⟨ad, len, c, m, n, V, D, Pl, hcs, _, hl, hm, hmm, _, hx⟩
  · simp only [List.cons.injEq, and_true] at hcs
    subst hcs
    exact ⟨none, 0, [], rfl, RdB.nil _ _, fun _ => rfl, by simp⟩
  · simp only [List.cons.injEq, and_true] at hcs
    subst hcs
    have hlm : len ≤ m := by rw [hmm]; split <;> omega
    have each : ∀ i, i < len → ∃ b : Bool, w.cell? (ad.add i) = some (.bool b) := by
      intro i hi
      obtain ⟨h1, h2⟩ := hx i (by omega)
      obtain ⟨bb, e, _⟩ := DataW.trod_bool Try.underlying4 h2
      simp only [List.cons.injEq, and_true] at e
      exact ⟨bb, by rw [h1, e]⟩
    obtain ⟨F, hF⟩ := choose_lt each
    refine ⟨some ad, c, (List.range len).map F, by simp, ?_, by simp, by simp; omega⟩
    intro i hi
    have hil : i < len := by simpa using hi
    have z0 := hF i hil
    have z00 := hF 0 (by omega)
    obtain ⟨b, off, spot⟩ := ad
    have hspot : spot = none := by simpa [Addr.add] using World.cell?_spot z00
    subst hspot
    rw [add_plain] at z0
    exact ⟨b, off, rfl, by rw [z0]; simp [List.getD, hil]⟩

theorem open_fat {fuel : Nat} {cs : List Value} {x : DataW H × List MemPlace} (hc : cs.length = 3) (h : DataW.trod enc Try.prog w base spare held fuel 32 cs = some x) :
    ∃ f : Fat, cs = f.cells ∧ OkT w f := by
  obtain ⟨xs, k, hk, hxy, _, hxl, hf⟩ := DataW.trod_struct Try.underlying32 h
  match xs, hxl, cs, hc with
  | [y0, y1, y2], _, [v0, v1, v2], _ =>
    have c3 : Try.prog.cellsOf 3 = 1 := by kernel_rfl
    have c30 : Try.prog.cellsOf 30 = 1 := by kernel_rfl
    have g0 := hf 0 _ rfl
    have g1 := hf 1 _ rfl
    have g2 := hf 2 _ rfl
    simp [c3, c30] at g0 g1 g2
    obtain ⟨a, cap, l, rfl, r1, r2, r3⟩ := open_bools g0
    obtain ⟨t, e1, _, w1⟩ := DataW.trod_int Try.underlying3 g1
    obtain ⟨bb, e2, _, w2⟩ := DataW.trod_int Try.underlying3 g2
    simp only [List.cons.injEq, and_true] at e1 e2
    subst e1 e2
    have b1 := bounds_i64 w1
    have b2 := bounds_i64 w2
    exact ⟨⟨l, a, cap, t, bb⟩, rfl, ⟨r1, r2, r3, b1.1, b1.2, b2.1, b2.2⟩⟩

theorem fate_in {r : Reach} {b0 : Nat} {v : Value} {d : DataW H} {ps : List MemPlace} (hval : Value.okWide Try.prog w r b0 32 v) (h : DataW.Trod enc Try.prog w base spare held 32 v d ps) :
    ∃ f : Fat, v = f.val ∧ OkT w f := by
  obtain ⟨cs, rfl, hc⟩ := okWide_struct Try.underlying32 hval
  obtain ⟨fuel, hf⟩ := h
  have c32 : Try.prog.cellsOf 32 = 3 := by kernel_rfl
  rw [c32] at hc
  obtain ⟨f, e, ok⟩ := open_fat (cs := cs.toList) (by simpa using hc) hf
  exact ⟨f, by rw [Fat.val, ← e], ok⟩

theorem open_deeds {fuel : Nat} {a : Option Addr} {len cap : Nat} {x : DataW H × List MemPlace} (h : DataW.trod enc Try.prog w base spare held fuel 22 [.slice a len cap] = some x) :
    ∃ ds : List Dd, ds.length = len ∧ RdD w a ds ∧ len ≤ maxLen := by
  rcases open_slice Try.underlying22 h with ⟨hcs, _⟩ | ⟨ad, len', cap', m, n, D, Pl, hcs, hb, hl, hm, hmm, _, hx⟩
  · simp only [List.cons.injEq, Value.slice.injEq, and_true] at hcs
    obtain ⟨rfl, rfl, rfl⟩ := hcs
    exact ⟨[], rfl, RdD.nil _ _, by omega⟩
  · simp only [List.cons.injEq, Value.slice.injEq, and_true] at hcs
    obtain ⟨rfl, rfl, rfl⟩ := hcs
    have hlm : len ≤ m := by rw [hmm]; split <;> omega
    have ce : Try.prog.cellsOf 34 = 7 := by kernel_rfl
    have each : ∀ i, i < len → ∃ d : Dd, w.cell? (ad.add (i * 7)) = some (.int .i64 d.k) ∧ w.cell? (ad.add (i * 7 + 1)) = some (.int .i64 d.at') ∧ w.cell? (ad.add (i * 7 + 2)) = some (.slice d.ba d.b.length d.bc) ∧ w.cell? (ad.add (i * 7 + 3)) = some (.int .i64 d.n) ∧ w.cell? (ad.add (i * 7 + 4)) = some (.slice d.f.ka d.f.keep.length d.f.kc) ∧ w.cell? (ad.add (i * 7 + 5)) = some (.int .i64 d.f.torn) ∧ w.cell? (ad.add (i * 7 + 6)) = some (.int .i64 d.f.bytes) ∧ OkD w d := by
      intro i hi
      obtain ⟨cs', h1, h2⟩ := hx i (by omega)
      rw [ce] at h1
      obtain ⟨_, hlen, hcell⟩ := World.cells?_some h1
      obtain ⟨xs, k, hk, hxy, _, hxl, hf⟩ := DataW.trod_struct Try.underlying34 h2
      match xs, hxl, cs', hlen with
      | [y0, y1, y2, y3, y4], _, [v0, v1, v2, v3, v4, v5, v6], _ =>
        have c3 : Try.prog.cellsOf 3 = 1 := by kernel_rfl
        have c29 : Try.prog.cellsOf 29 = 1 := by kernel_rfl
        have c32 : Try.prog.cellsOf 32 = 3 := by kernel_rfl
        have g0 := hf 0 _ rfl
        have g1 := hf 1 _ rfl
        have g2 := hf 2 _ rfl
        have g3 := hf 3 _ rfl
        have g4 := hf 4 _ rfl
        simp [c3, c29, c32] at g0 g1 g2 g3 g4
        obtain ⟨kk, e0, _, w0⟩ := DataW.trod_int Try.underlying3 g0
        obtain ⟨aa, e1, _, w1⟩ := DataW.trod_int Try.underlying3 g1
        obtain ⟨ba, bc, bl, e2, r1, r2, r3, r4⟩ := open_bytes g2
        obtain ⟨nn, e3, _, w3⟩ := DataW.trod_int Try.underlying3 g3
        obtain ⟨ft, e4, hft⟩ := open_fat (by simp) g4
        have q0 := hcell 0 (by omega)
        have q1 := hcell 1 (by omega)
        have q2 := hcell 2 (by omega)
        have q3 := hcell 3 (by omega)
        have q4 := hcell 4 (by omega)
        have q5 := hcell 5 (by omega)
        have q6 := hcell 6 (by omega)
        rw [add_add] at q0 q1 q2 q3 q4 q5 q6
        simp only [List.cons.injEq, and_true, Fat.cells] at e0 e1 e2 e3 e4
        obtain ⟨e4, e5, e6⟩ := e4
        subst e0 e1 e2 e3 e4 e5 e6
        have b0 := bounds_i64 w0
        have b1 := bounds_i64 w1
        have b3 := bounds_i64 w3
        exact ⟨⟨kk, aa, bl, ba, bc, nn, ft⟩, by simpa using q0, by simpa using q1, by simpa using q2, by simpa using q3, by simpa using q4, by simpa using q5, by simpa using q6, ⟨r1, r2, r3, r4, b0.1, b0.2, b1.1, b1.2, b3.1, b3.2, hft⟩⟩
    obtain ⟨F, hF⟩ := choose_lt each
    refine ⟨(List.range len).map F, by simp, ?_, by omega⟩
    intro i f hi
    obtain ⟨hlt, hv⟩ := List.getElem?_eq_some_iff.1 hi
    have hil : i < len := by simpa using hlt
    have hfi : F i = f := by simpa using hv
    obtain ⟨p0, p1, p2, p3, p4, p5, p6, ok⟩ := hF i hil
    have z0 := (hF 0 (by omega)).1
    obtain ⟨b, off, spot⟩ := ad
    have hspot : spot = none := by simpa [Addr.add] using World.cell?_spot z0
    subst hspot
    rw [hfi] at p0 p1 p2 p3 p4 p5 p6 ok
    rw [add_plain] at p0 p1 p2 p3 p4 p5 p6
    exact ⟨b, off, rfl, p0, by simpa [Nat.add_assoc] using p1, by simpa [Nat.add_assoc] using p2, by simpa [Nat.add_assoc] using p3, by simpa [Nat.add_assoc] using p4, by simpa [Nat.add_assoc] using p5, by simpa [Nat.add_assoc] using p6, ok⟩
end
end Go.Proofs.Ytgkgbemliinajaa
