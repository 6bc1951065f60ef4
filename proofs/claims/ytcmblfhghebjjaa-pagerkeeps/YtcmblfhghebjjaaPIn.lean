/- Slices of bytes, of slices of bytes and of bools, spans and fates, as they came in. -/
import Derived.Test.YtcmblfhghebjjaaRows
import Derived.Test.YtcmblfhghebjjaaGBa
import Derived.Test.YtcmblfhghebjjaaGEf
import Derived.Deep.Slices
import Derived.ProofKit
import Derived.OpenShut
import Derived.Handy
namespace Go.Proofs.Ytcmblfhghebjjaa
open Go.RowKit Apo Go.ChangeShapes Go.WideShapes Go.Deep

section
variable {H : Type} {enc : TypeId × Value → H} {w : World} {base : Nat} {spare : Nat → Bool} {held : Bool}


set_option maxRecDepth 100000 in
theorem open_bytes {fuel : Nat} {v : Value} {x : DataW H × List MemPlace} (h : DataW.trod enc Try.prog w base spare held fuel 23 [v] = some x) :
    ∃ (a : Option Addr) (cap : Nat) (l : List Int), v = .slice a l.length cap ∧ Rd .u8 w a l ∧ (a = none → cap = 0) ∧ l.length ≤ maxLen ∧ ∀ z ∈ l, 0 ≤ z ∧ z ≤ 255 := by
  rcases open_ints Try.underlying23 Try.underlying5 (by kernel_rfl) h with ⟨hcs, _⟩ | ⟨ad, len, c, zs, hcs, _, hl, hm, hz, _, hcell, hwz⟩
  · simp only [List.cons.injEq, and_true] at hcs
    subst hcs
    exact ⟨none, 0, [], rfl, Rd.nil _ _ _, fun _ => rfl, by simp, by simp⟩
  · simp only [List.cons.injEq, and_true] at hcs
    subst hcs
    have hz' : len ≤ zs.length := by
      have : zs.length = if spare ad.block = true then c else len := by simpa using hz
      rw [this]; split <;> omega
    refine ⟨some ad, c, zs.take len, by simp; omega, ?_, by simp, by simp; omega, inB_of_wf (fun z hz => hwz z (List.mem_of_mem_take hz))⟩
    intro i hi
    have hi' : i < len := by simp at hi; omega
    obtain ⟨b, off, rfl, hc⟩ := ints_at hcell (by omega)
    refine ⟨b, off, rfl, ?_⟩
    rw [hc i (by omega)]
    congr 2
    simp [List.getD, hi']

set_option maxRecDepth 100000 in
theorem open_bools {fuel : Nat} {v : Value} {x : DataW H × List MemPlace} (h : DataW.trod enc Try.prog w base spare held fuel 24 [v] = some x) :
    ∃ (a : Option Addr) (cap : Nat) (l : List Bool), v = .slice a l.length cap ∧ RdB w a l ∧ (a = none → cap = 0) ∧ l.length ≤ maxLen := by
  rcases open_slice1 Try.underlying24 (by kernel_rfl) h with ⟨hcs, _⟩ | ⟨ad, len, c, m, n, V, D, Pl, hcs, _, hl, hm, hmm, _, hx⟩
  · simp only [List.cons.injEq, and_true] at hcs
    subst hcs
    exact ⟨none, 0, [], rfl, RdB.nil _ _, fun _ => rfl, by simp⟩
  · simp only [List.cons.injEq, and_true] at hcs
    subst hcs
    have hlm : len ≤ m := by rw [hmm]; split <;> omega
    have each : ∀ i, i < len → ∃ b : Bool, w.cell? (ad.add i) = some (.bool b) := by
      intro i hi
      obtain ⟨h1, h2⟩ := hx i (by omega)
      obtain ⟨bb, e, _⟩ := DataW.trod_bool Try.underlying4 h2
      simp only [List.cons.injEq, and_true] at e
      exact ⟨bb, by rw [h1, e]⟩
    obtain ⟨F, hF⟩ := choose_lt each
    refine ⟨some ad, c, (List.range len).map F, by simp, ?_, by simp, by simp; omega⟩
    intro i hi
    have hil : i < len := by simpa using hi
    have z0 := hF i hil
    have z00 := hF 0 (by omega)
    obtain ⟨b, off, spot⟩ := ad
    have hspot : spot = none := by simpa [Addr.add] using World.cell?_spot z00
    subst hspot
    rw [add_plain] at z0
    exact ⟨b, off, rfl, by rw [z0]; simp [List.getD, hil]⟩

set_option maxRecDepth 100000 in
theorem open_fat {fuel : Nat} {cs : List Value} {x : DataW H × List MemPlace} (hc : cs.length = 3) (h : DataW.trod enc Try.prog w base spare held fuel 26 cs = some x) :
    ∃ f : Fat, cs = f.cells ∧ OkT w f := by
  obtain ⟨xs, k, hk, hxy, _, hxl, hf⟩ := DataW.trod_struct Try.underlying26 h
  match xs, hxl, cs, hc with
  | [y0, y1, y2], _, [v0, v1, v2], _ =>
    have c3 : Try.prog.cellsOf 3 = 1 := by kernel_rfl
    have c30 : Try.prog.cellsOf 24 = 1 := by kernel_rfl
    have g0 := hf 0 _ rfl
    have g1 := hf 1 _ rfl
    have g2 := hf 2 _ rfl
    simp [c3, c30] at g0 g1 g2
    obtain ⟨a, cap, l, rfl, r1, r2, r3⟩ := open_bools g0
    obtain ⟨t, e1, _, w1⟩ := DataW.trod_int Try.underlying3 g1
    obtain ⟨bb, e2, _, w2⟩ := DataW.trod_int Try.underlying3 g2
    simp only [List.cons.injEq, and_true] at e1 e2
    subst e1 e2
    have b1 := bounds_i64 w1
    have b2 := bounds_i64 w2
    exact ⟨⟨l, a, cap, t, bb⟩, rfl, ⟨r1, r2, r3, b1.1, b1.2, b2.1, b2.2⟩⟩

set_option maxRecDepth 100000 in
theorem fate_in {r : Reach} {b0 : Nat} {v : Value} {d : DataW H} {ps : List MemPlace} (hval : Value.okWide Try.prog w r b0 26 v) (h : DataW.Trod enc Try.prog w base spare held 26 v d ps) :
    ∃ f : Fat, v = f.val ∧ OkT w f := by
  obtain ⟨cs, rfl, hc⟩ := okWide_struct Try.underlying26 hval
  obtain ⟨fuel, hf⟩ := h
  have c32 : Try.prog.cellsOf 26 = 3 := by kernel_rfl
  rw [c32] at hc
  obtain ⟨f, e, ok⟩ := open_fat (cs := cs.toList) (by simpa using hc) hf
  exact ⟨f, by rw [Fat.val, ← e], ok⟩
set_option maxRecDepth 100000 in
theorem open_span {fuel : Nat} {cs : List Value} {x : DataW H × List MemPlace} (hc : cs.length = 2) (h : DataW.trod enc Try.prog w base spare held fuel 39 cs = some x) :
    ∃ s : Spn, cs = [.int .i64 s.a, .int .i64 s.k] ∧ Spn.Ok s := by
  obtain ⟨xs, k, hk, hxy, _, hxl, hf⟩ := DataW.trod_struct Try.underlying39 h
  match xs, hxl, cs, hc with
  | [y0, y1], _, [v0, v1], _ =>
    have c3 : Try.prog.cellsOf 3 = 1 := by kernel_rfl
    have g0 := hf 0 _ rfl
    have g1 := hf 1 _ rfl
    simp [c3] at g0 g1
    obtain ⟨a, e0, _, w0⟩ := DataW.trod_int Try.underlying3 g0
    obtain ⟨b, e1, _, w1⟩ := DataW.trod_int Try.underlying3 g1
    simp only [List.cons.injEq, and_true] at e0 e1
    subst e0 e1
    have b0 := bounds_i64 w0
    have b1 := bounds_i64 w1
    exact ⟨⟨a, b⟩, rfl, ⟨by simp only; omega, by simp only; omega, by simp only; omega, by simp only; omega⟩⟩
set_option maxRecDepth 100000 in
theorem span_in {r : Reach} {b0 : Nat} {v : Value} {d : DataW H} {ps : List MemPlace} (hval : Value.okWide Try.prog w r b0 39 v) (h : DataW.Trod enc Try.prog w base spare held 39 v d ps) :
    ∃ s : Spn, v = .agg #[.int .i64 s.a, .int .i64 s.k] ∧ Spn.Ok s := by
  obtain ⟨cs, rfl, hc⟩ := okWide_struct Try.underlying39 hval
  obtain ⟨fuel, hf⟩ := h
  have c32 : Try.prog.cellsOf 39 = 2 := by kernel_rfl
  rw [c32] at hc
  obtain ⟨f, e, ok⟩ := open_span (cs := cs.toList) (by simpa using hc) hf
  refine ⟨f, ?_, ok⟩
  have : cs = #[.int .i64 f.a, .int .i64 f.k] := by
    apply Array.ext'
    simpa using e
  rw [this]

/-- a text that came in -/
structure Tb where
  a : Option Addr
  c : Nat
  b : List Int
instance : Inhabited Tb := ⟨⟨none, 0, []⟩⟩
structure OkB (w : World) (x : Tb) : Prop where
  rd : Rd .u8 w x.a x.b
  nil : x.a = none → x.c = 0
  len : x.b.length ≤ x.c
  byt : ∀ z ∈ x.b, 0 ≤ z ∧ z ≤ 255
  big : x.b.length ≤ maxLen
set_option maxRecDepth 100000 in
theorem OkB.below {w w' : World} {x : Tb} (h : OkB w x) (hb : Below w.heap.size w w') : OkB w' x := { h with rd := h.rd.below hb }
/-- texts in a row -/
def RdBs (w : World) (a : Option Addr) (l : List Tb) : Prop := ∀ (i : Nat) (x : Tb), l[i]? = some x → ∃ b off, a = some ⟨b, off, none⟩ ∧ w.cell? ⟨b, off + i, none⟩ = some (.slice x.a x.b.length x.c) ∧ OkB w x
set_option maxRecDepth 100000 in
theorem RdBs.below {w w' : World} {a : Option Addr} {l : List Tb} (h : RdBs w a l) (hb : Below w.heap.size w w') : RdBs w' a l := by
  intro i x hx
  obtain ⟨b, off, h1, h2, h3⟩ := h i x hx
  exact ⟨b, off, h1, (hb.cell (p := ⟨b, off + i, none⟩) (World.block_lt_of_cell? w _ h2)).trans h2, h3.below hb⟩
set_option maxRecDepth 100000 in
theorem open_text {fuel : Nat} {v : Value} {x : DataW H × List MemPlace} (h : DataW.trod enc Try.prog w base spare held fuel 23 [v] = some x) : ∃ t : Tb, v = .slice t.a t.b.length t.c ∧ OkB w t := by
  rcases open_ints Try.underlying23 Try.underlying5 (by kernel_rfl) h with ⟨hcs, _⟩ | ⟨ad, len, c, zs, hcs, _, hl, hm, hz, _, hcell, hwz⟩
  · simp only [List.cons.injEq, and_true] at hcs
    subst hcs
    exact ⟨⟨none, 0, []⟩, rfl, Rd.nil _ _ _, fun _ => rfl, by simp, by simp, by simp⟩
  · simp only [List.cons.injEq, and_true] at hcs
    subst hcs
    have hz' : len ≤ zs.length := by
      have : zs.length = if spare ad.block = true then c else len := by simpa using hz
      rw [this]; split <;> omega
    refine ⟨⟨some ad, c, zs.take len⟩, by simp; omega, ?_, by simp, by simp; omega, inB_of_wf (fun z hz => hwz z (List.mem_of_mem_take hz)), by simp; omega⟩
    intro i hi
    have hi' : i < len := by simp at hi; omega
    obtain ⟨b, off, e, hc⟩ := ints_at hcell (by omega)
    refine ⟨b, off, by simpa using e, ?_⟩
    rw [hc i (by omega)]
    congr 2
    simp [List.getD, hi']
set_option maxRecDepth 100000 in
theorem open_texts {fuel : Nat} {a : Option Addr} {len cap : Nat} {x : DataW H × List MemPlace} (h : DataW.trod enc Try.prog w base spare held fuel 22 [.slice a len cap] = some x) :
    ∃ l : List Tb, l.length = len ∧ RdBs w a l ∧ len ≤ maxLen := by
  rcases open_slice1 Try.underlying22 (by kernel_rfl) h with ⟨hcs, _⟩ | ⟨ad, len', c, m, n, V, D, Pl, hcs, _, hl, hm, hmm, _, hx⟩
  · simp only [List.cons.injEq, Value.slice.injEq, and_true] at hcs
    obtain ⟨rfl, rfl, rfl⟩ := hcs
    exact ⟨[], rfl, fun i x hx => by simp at hx, by omega⟩
  · simp only [List.cons.injEq, Value.slice.injEq, and_true] at hcs
    obtain ⟨rfl, rfl, rfl⟩ := hcs
    have hlm : len ≤ m := by rw [hmm]; split <;> omega
    have each : ∀ i, i < len → ∃ t : Tb, w.cell? (ad.add i) = some (.slice t.a t.b.length t.c) ∧ OkB w t := by
      intro i hi
      obtain ⟨h1, h2⟩ := hx i (by omega)
      obtain ⟨t, e, ok⟩ := open_text h2
      exact ⟨t, by rw [h1, e], ok⟩
    obtain ⟨F, hF⟩ := choose_lt each
    refine ⟨(List.range len).map F, by simp, ?_, by omega⟩
    intro i t hi
    have hil : i < len := by have := (List.getElem?_eq_some_iff.1 hi).1; simpa using this
    have et : F i = t := by simpa [hil] using hi
    have z0 := hF i hil
    have z00 := (hF 0 (by omega)).1
    obtain ⟨b, off, spot⟩ := ad
    have hspot : spot = none := by simpa [Addr.add] using World.cell?_spot z00
    subst hspot
    rw [add_plain, et] at z0
    exact ⟨b, off, rfl, z0.1, z0.2⟩
set_option maxRecDepth 100000 in
theorem text_in {r : Reach} {b0 : Nat} {v : Value} {d : DataW H} {ps : List MemPlace} (hval : Value.okWide Try.prog w r b0 23 v) (h : DataW.Trod enc Try.prog w base spare held 23 v d ps) : ∃ t : Tb, v = .slice t.a t.b.length t.c ∧ OkB w t := by
  obtain ⟨a, l, c, rfl⟩ := okWide_slice Try.underlying23 hval
  obtain ⟨fuel, hf⟩ := h
  exact open_text hf
end
end Go.Proofs.Ytcmblfhghebjjaa
