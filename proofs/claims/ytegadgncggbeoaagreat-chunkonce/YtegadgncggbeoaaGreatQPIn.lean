/- Slices of bytes, of slices of bytes and of bools, spans and fates, as they came in. -/
import Derived.Deep.Slices
import Derived.ProofKit
import Derived.OpenShut
import Derived.Handy
import Derived.Test.YtegadgncggbeoaaGreatRows
import Derived.Test.YtegadgncggbeoaaGreatQGBa
import Derived.Test.YtegadgncggbeoaaGreatQGEf
namespace Go.Proofs.YtegadgncggbeoaaGreat
open Go.RowKit Apo Go.ChangeShapes Go.WideShapes Go.Deep

section
variable {H : Type} {enc : TypeId × Value → H} {w : World} {base : Nat} {spare : Nat → Bool} {held : Bool}


set_option maxRecDepth 100000 in
theorem open_bytes {fuel : Nat} {v : Value} {x : DataW H × List MemPlace} (h : DataW.trod enc Tryz.prog w base spare held fuel 34 [v] = some x) :
    ∃ (a : Option Addr) (cap : Nat) (l : List Int), v = .slice a l.length cap ∧ Rd .u8 w a l ∧ (a = none → cap = 0) ∧ l.length ≤ maxLen ∧ ∀ z ∈ l, 0 ≤ z ∧ z ≤ 255 := by
  rcases open_ints Tryz.underlying34 Tryz.underlying5 (by kernel_rfl) h with ⟨hcs, _⟩ | ⟨ad, len, c, zs, hcs, _, hl, hm, hz, _, hcell, hwz⟩
  · simp only [List.cons.injEq, and_true] at hcs
    subst hcs
    exact ⟨none, 0, [], rfl, Rd.nil _ _ _, fun _ => rfl, by simp, by simp⟩
  · simp only [List.cons.injEq, and_true] at hcs
    subst hcs
    have hz' : len ≤ zs.length := by
      have : zs.length = if spare ad.block = true then c else len := by simpa using hz
      rw [this]; split <;> omega
    refine ⟨some ad, c, zs.take len, by simp; omega, ?_, by simp, by simp; omega, inB_of_wf (fun z hz => hwz z (List.mem_of_mem_take hz))⟩
    intro i hi
    have hi' : i < len := by simp at hi; omega
    obtain ⟨b, off, rfl, hc⟩ := ints_at hcell (by omega)
    refine ⟨b, off, rfl, ?_⟩
    rw [hc i (by omega)]
    congr 2
    simp [List.getD, hi']

/-- a text that came in -/
structure Tb where
  a : Option Addr
  c : Nat
  b : List Int
instance : Inhabited Tb := ⟨⟨none, 0, []⟩⟩
structure OkB (w : World) (x : Tb) : Prop where
  rd : Rd .u8 w x.a x.b
  nil : x.a = none → x.c = 0
  len : x.b.length ≤ x.c
  byt : ∀ z ∈ x.b, 0 ≤ z ∧ z ≤ 255
  big : x.b.length ≤ maxLen
set_option maxRecDepth 100000 in
theorem OkB.below {w w' : World} {x : Tb} (h : OkB w x) (hb : Below w.heap.size w w') : OkB w' x := { h with rd := h.rd.below hb }
set_option maxRecDepth 100000 in
theorem open_text {fuel : Nat} {v : Value} {x : DataW H × List MemPlace} (h : DataW.trod enc Tryz.prog w base spare held fuel 34 [v] = some x) : ∃ t : Tb, v = .slice t.a t.b.length t.c ∧ OkB w t := by
  rcases open_ints Tryz.underlying34 Tryz.underlying5 (by kernel_rfl) h with ⟨hcs, _⟩ | ⟨ad, len, c, zs, hcs, _, hl, hm, hz, _, hcell, hwz⟩
  · simp only [List.cons.injEq, and_true] at hcs
    subst hcs
    exact ⟨⟨none, 0, []⟩, rfl, Rd.nil _ _ _, fun _ => rfl, by simp, by simp, by simp⟩
  · simp only [List.cons.injEq, and_true] at hcs
    subst hcs
    have hz' : len ≤ zs.length := by
      have : zs.length = if spare ad.block = true then c else len := by simpa using hz
      rw [this]; split <;> omega
    refine ⟨⟨some ad, c, zs.take len⟩, by simp; omega, ?_, by simp, by simp; omega, inB_of_wf (fun z hz => hwz z (List.mem_of_mem_take hz)), by simp; omega⟩
    intro i hi
    have hi' : i < len := by simp at hi; omega
    obtain ⟨b, off, e, hc⟩ := ints_at hcell (by omega)
    refine ⟨b, off, by simpa using e, ?_⟩
    rw [hc i (by omega)]
    congr 2
    simp [List.getD, hi']
set_option maxRecDepth 100000 in
theorem text_in {r : Reach} {b0 : Nat} {v : Value} {d : DataW H} {ps : List MemPlace} (hval : Value.okWide Tryz.prog w r b0 34 v) (h : DataW.Trod enc Tryz.prog w base spare held 34 v d ps) : ∃ t : Tb, v = .slice t.a t.b.length t.c ∧ OkB w t := by
  obtain ⟨a, l, c, rfl⟩ := okWide_slice Tryz.underlying34 hval
  obtain ⟨fuel, hf⟩ := h
  exact open_text hf
end
end Go.Proofs.YtegadgncggbeoaaGreat
