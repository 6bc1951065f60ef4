/- A commit as it comes in. -/
import Derived.Test.YtapomhpahdmekaaRows
import Derived.Test.YtapomhpahdmekaaOPu
import Derived.Deep.Slices
import Derived.ProofKit
import Derived.OpenShut
namespace Go.Proofs.Ytapomhpahdmekaa
open Go.ChangeShapes Go.WideShapes Go.RowKit Apo Go.Deep
theorem cap_of_row {k : IntKind} {w : World} {a : Option Addr} {len cap : Nat} {zs : List Int}
    (h : (a = none ∧ len = 0 ∧ cap = 0 ∧ zs = []) ∨
      ∃ x, a = some x ∧ len ≤ cap ∧ cap ≤ maxLen ∧ zs.length = cap ∧ (∀ i, i < zs.length → w.cell? (x.add i) = some (.int k (zs.getD i 0))) ∧ ∀ n ∈ zs, (Lit.int k n).wf = true) :
    len ≤ cap ∧ cap ≤ 9223372036854775807 := by
  rcases h with ⟨_, rfl, rfl, _⟩ | ⟨x, _, h1, h2, _⟩
  · exact ⟨Nat.le_refl _, by omega⟩
  · unfold maxLen at h2
    exact ⟨h1, by omega⟩
structure CmA where
  c : Cm
  a : Option Addr
  cap : Nat
section
variable {H : Type} {enc : TypeId × Value → H} {w : World} {base : Nat} {spare : Nat → Bool} {held : Bool}
set_option maxRecDepth 100000 in
theorem open_cm {fuel : Nat} {cs : List Value} {x : DataW H × List MemPlace} (hc : cs.length = 5) (h : DataW.trod enc Try.prog w base spare held fuel 25 cs = some x) :
    ∃ s : CmA, cs = [.int .u64 s.c.id, .slice s.a s.c.ps.length s.cap, .int .u64 s.c.gen, .int .u64 s.c.root, .string s.c.tx] ∧ CmR w s.c s.a s.cap := by
  obtain ⟨xs, k, hk, hxy, _, hxl, hf⟩ := DataW.trod_struct Try.underlying25 h
  match xs, hxl, cs, hc with
  | [y0, y1, y2, y3, y4], _, [v0, v1, v2, v3, v4], _ =>
    have c22 : Try.prog.cellsOf 22 = 1 := by kernel_rfl
    have c23 : Try.prog.cellsOf 23 = 1 := by kernel_rfl
    have c9 : Try.prog.cellsOf 9 = 1 := by kernel_rfl
    have g0 := hf 0 _ rfl
    have g1 := hf 1 _ rfl
    have g2 := hf 2 _ rfl
    have g3 := hf 3 _ rfl
    have g4 := hf 4 _ rfl
    simp [c22, c23, c9] at g0 g1 g2 g3 g4
    obtain ⟨id, e0, _, w0⟩ := DataW.trod_int Try.underlying22 g0
    obtain ⟨gen, e2, _, w2⟩ := DataW.trod_int Try.underlying22 g2
    obtain ⟨root, e3, _, w3⟩ := DataW.trod_int Try.underlying22 g3
    obtain ⟨tx, e4, _, w4⟩ := DataW.trod_string Try.underlying9 g4
    have b0 := bounds_u64 w0
    have b2 := bounds_u64 w2
    have b3 := bounds_u64 w3
    obtain ⟨a, cap, l, e1, hr, hl, hm, hu⟩ : ∃ (a : Option Addr) (cap : Nat) (l : List Int), v1 = .slice a l.length cap ∧ Rd .u64 w a l ∧ l.length ≤ cap ∧ cap ≤ maxLen ∧ InU l := by
      rcases open_ints Try.underlying23 Try.underlying22 (by kernel_rfl) g1 with ⟨hcs, _⟩ | ⟨ad, len, c, zs, hcs, _, hl, hm, hz, _, hcell, hwz⟩
      · simp only [List.cons.injEq, and_true] at hcs
        exact ⟨none, 0, [], hcs, Rd.nil _ _ _, by simp, by omega, by intro z hz; simp at hz⟩
      · simp only [List.cons.injEq, and_true] at hcs
        have hz' : len ≤ zs.length := by
          have : zs.length = if spare ad.block = true then c else len := by simpa using hz
          rw [this]; split <;> omega
        refine ⟨some ad, c, zs.take len, by simpa [Nat.min_eq_left hz'] using hcs, ?_, by simp; omega, hm, inU_of_wf (fun z hz => hwz z (List.mem_of_mem_take hz))⟩
        intro i hi
        have hi' : i < len := by simp at hi; omega
        obtain ⟨b, off, rfl, hc⟩ := ints_at hcell (by omega)
        refine ⟨b, off, rfl, ?_⟩
        rw [hc i (by omega)]
        congr 2
        simp [List.getD, hi']
    simp only [List.cons.injEq, and_true] at e0 e2 e3 e4
    subst e0 e1 e2 e3 e4
    unfold maxLen at hm w4
    have hsz : (⟨id, l, gen, root, tx⟩ : Cm).Sz := ⟨b0, hu, b2, b3⟩
    exact ⟨⟨⟨id, l, gen, root, tx⟩, a, cap⟩, rfl, hr, hl, by omega, by show tx.size ≤ _; omega, hsz⟩
set_option maxRecDepth 100000 in
theorem cm_in {r : Reach} {b0 : Nat} {v : Value} {d : DataW H} {ps : List MemPlace} (hval : Value.okWide Try.prog w r b0 25 v) (h : DataW.Trod enc Try.prog w base spare held 25 v d ps) :
    ∃ s : CmA, v = .agg #[.int .u64 s.c.id, .slice s.a s.c.ps.length s.cap, .int .u64 s.c.gen, .int .u64 s.c.root, .string s.c.tx] ∧ CmR w s.c s.a s.cap := by
  obtain ⟨cs, rfl, hc⟩ := okWide_struct Try.underlying25 hval
  obtain ⟨fuel, hf⟩ := h
  have c32 : Try.prog.cellsOf 25 = 5 := by kernel_rfl
  rw [c32] at hc
  obtain ⟨f, e, ok⟩ := open_cm (cs := cs.toList) (by simpa using hc) hf
  refine ⟨f, ?_, ok⟩
  cases cs
  simp only at e
  rw [e]
end
end Go.Proofs.Ytapomhpahdmekaa
