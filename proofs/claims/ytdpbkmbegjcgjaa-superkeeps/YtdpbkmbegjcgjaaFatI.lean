/- Slices of bytes and of bools, and fates, as they came in. -/
import Derived.Test.YtdpbkmbegjcgjaaRows
import Derived.Test.YtdpbkmbegjcgjaaFat
import Derived.Deep.Slices
import Derived.ProofKit
import Derived.OpenShut
import Derived.Handy
namespace Go.Proofs.Ytdpbkmbegjcgjaa
open Go.RowKit Apo Go.ChangeShapes Go.WideShapes Go.Deep

section
variable {H : Type} {enc : TypeId × Value → H} {w : World} {base : Nat} {spare : Nat → Bool} {held : Bool}


theorem open_bytes {fuel : Nat} {v : Value} {x : DataW H × List MemPlace} (h : DataW.trod enc Try.prog w base spare held fuel 26 [v] = some x) :
    ∃ (a : Option Addr) (cap : Nat) (l : List Int), v = .slice a l.length cap ∧ Rd .u8 w a l ∧ (a = none → cap = 0) ∧ l.length ≤ maxLen ∧ ∀ z ∈ l, 0 ≤ z ∧ z ≤ 255 := by
  rcases open_ints Try.underlying26 Try.underlying5 (by kernel_rfl) h with ⟨hcs, _⟩ | ⟨ad, len, c, zs, hcs, _, hl, hm, hz, _, hcell, hwz⟩
  · simp only [List.cons.injEq, and_true] at hcs
    subst hcs
    exact ⟨none, 0, [], rfl, Rd.nil _ _ _, fun _ => rfl, by simp, by simp⟩
  · simp only [List.cons.injEq, and_true] at hcs
    subst hcs
    have hz' : len ≤ zs.length := by
      have : zs.length = if spare ad.block = true then c else len := by simpa using hz
      rw [this]; split <;> omega
    refine ⟨some ad, c, zs.take len, by simp; omega, ?_, by simp, by simp; omega, inB_of_wf (fun z hz => hwz z (List.mem_of_mem_take hz))⟩
    intro i hi
    have hi' : i < len := by simp at hi; omega
    obtain ⟨b, off, rfl, hc⟩ := ints_at hcell (by omega)
    refine ⟨b, off, rfl, ?_⟩
    rw [hc i (by omega)]
    congr 2
    simp [List.getD, hi']

theorem open_bools {fuel : Nat} {v : Value} {x : DataW H × List MemPlace} (h : DataW.trod enc Try.prog w base spare held fuel 47 [v] = some x) :
    ∃ (a : Option Addr) (cap : Nat) (l : List Bool), v = .slice a l.length cap ∧ RdB w a l ∧ (a = none → cap = 0) ∧ l.length ≤ maxLen := by
  rcases open_slice1 Try.underlying47 (by kernel_rfl) h with ⟨hcs, _⟩ | ⟨ad, len, c, m, n, V, D, Pl, hcs, _, hl, hm, hmm, _, hx⟩
  · simp only [List.cons.injEq, and_true] at hcs
    subst hcs
    exact ⟨none, 0, [], rfl, RdB.nil _ _, fun _ => rfl, by simp⟩
  · simp only [List.cons.injEq, and_true] at hcs
    subst hcs
    have hlm : len ≤ m := by rw [hmm]; split <;> omega
    have each : ∀ i, i < len → ∃ b : Bool, w.cell? (ad.add i) = some (.bool b) := by
      intro i hi
      obtain ⟨h1, h2⟩ := hx i (by omega)
      obtain ⟨bb, e, _⟩ := DataW.trod_bool Try.underlying4 h2
      simp only [List.cons.injEq, and_true] at e
      exact ⟨bb, by rw [h1, e]⟩
    obtain ⟨F, hF⟩ := choose_lt each
    refine ⟨some ad, c, (List.range len).map F, by simp, ?_, by simp, by simp; omega⟩
    intro i hi
    have hil : i < len := by simpa using hi
    have z0 := hF i hil
    have z00 := hF 0 (by omega)
    obtain ⟨b, off, spot⟩ := ad
    have hspot : spot = none := by simpa [Addr.add] using World.cell?_spot z00
    subst hspot
    rw [add_plain] at z0
    exact ⟨b, off, rfl, by rw [z0]; simp [List.getD, hil]⟩

theorem open_fat {fuel : Nat} {cs : List Value} {x : DataW H × List MemPlace} (hc : cs.length = 3) (h : DataW.trod enc Try.prog w base spare held fuel 49 cs = some x) :
    ∃ f : Fat, cs = f.cells ∧ OkT w f := by
  obtain ⟨xs, k, hk, hxy, _, hxl, hf⟩ := DataW.trod_struct Try.underlying49 h
  match xs, hxl, cs, hc with
  | [y0, y1, y2], _, [v0, v1, v2], _ =>
    have c3 : Try.prog.cellsOf 3 = 1 := by kernel_rfl
    have c30 : Try.prog.cellsOf 47 = 1 := by kernel_rfl
    have g0 := hf 0 _ rfl
    have g1 := hf 1 _ rfl
    have g2 := hf 2 _ rfl
    simp [c3, c30] at g0 g1 g2
    obtain ⟨a, cap, l, rfl, r1, r2, r3⟩ := open_bools g0
    obtain ⟨t, e1, _, w1⟩ := DataW.trod_int Try.underlying3 g1
    obtain ⟨bb, e2, _, w2⟩ := DataW.trod_int Try.underlying3 g2
    simp only [List.cons.injEq, and_true] at e1 e2
    subst e1 e2
    have b1 := bounds_i64 w1
    have b2 := bounds_i64 w2
    exact ⟨⟨l, a, cap, t, bb⟩, rfl, ⟨r1, r2, r3, b1.1, b1.2, b2.1, b2.2⟩⟩

theorem fate_in {r : Reach} {b0 : Nat} {v : Value} {d : DataW H} {ps : List MemPlace} (hval : Value.okWide Try.prog w r b0 49 v) (h : DataW.Trod enc Try.prog w base spare held 49 v d ps) :
    ∃ f : Fat, v = f.val ∧ OkT w f := by
  obtain ⟨cs, rfl, hc⟩ := okWide_struct Try.underlying49 hval
  obtain ⟨fuel, hf⟩ := h
  have c32 : Try.prog.cellsOf 49 = 3 := by kernel_rfl
  rw [c32] at hc
  obtain ⟨f, e, ok⟩ := open_fat (cs := cs.toList) (by simpa using hc) hf
  exact ⟨f, by rw [Fat.val, ← e], ok⟩
end
end Go.Proofs.Ytdpbkmbegjcgjaa
