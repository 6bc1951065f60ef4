/- A state as it comes in. Over the translation. -/
import Derived.Test.YtgjhmpmjbedjoaaRows
import Derived.Test.YtgjhmpmjbedjoaaQA3
import Derived.Test.YtgjhmpmjbedjoaaQCIn
import Derived.Test.YtgjhmpmjbedjoaaQSDa
namespace Go.Proofs.Ytgjhmpmjbedjoaa
open Go.RowKit Apo Go.ChangeShapes Go.WideShapes Go.Deep
instance : Inhabited Mk := ⟨⟨0, 0⟩⟩
theorem u64_wf {n : Int} (h : (Lit.int .u64 n).wf = true) : u64B n := by
  have := bounds_u64 h
  unfold u64B
  omega
section
variable {H : Type} {enc : TypeId × Value → H} {w : World} {base : Nat} {spare : Nat → Bool} {held : Bool}
set_option maxRecDepth 100000 in
theorem open_refS {fuel : Nat} {cs : List Value} {x : DataW H × List MemPlace} (hc : cs.length = 3) (h : DataW.trod enc Try.prog w base spare held fuel 57 cs = some x) :
    ∃ s : Rf, cs = cRf s ∧ (s.n.size ≤ maxLen ∧ u64B s.i) := by
  obtain ⟨xs, k, hk, hxy, _, hxl, hf⟩ := DataW.trod_struct Try.underlying57 h
  match xs, hxl, cs, hc with
  | [y0, y1, y2], _, [v0, v1, v2], _ =>
    have c4 : Try.prog.cellsOf 4 = 1 := by kernel_rfl
    have c9 : Try.prog.cellsOf 9 = 1 := by kernel_rfl
    have c30 : Try.prog.cellsOf 22 = 1 := by kernel_rfl
    have g0 := hf 0 _ rfl
    have g1 := hf 1 _ rfl
    have g2 := hf 2 _ rfl
    simp [c4, c9, c30] at g0 g1 g2
    obtain ⟨a, e0, _, w0⟩ := DataW.trod_string Try.underlying9 g0
    obtain ⟨s, e1, _⟩ := DataW.trod_bool Try.underlying4 g1
    obtain ⟨i, e2, _, w2⟩ := DataW.trod_int Try.underlying22 g2
    simp only [List.cons.injEq, and_true] at e0 e1 e2
    subst e0 e1 e2
    exact ⟨⟨a, s, i⟩, rfl, w0, u64_wf w2⟩
set_option maxRecDepth 100000 in
theorem open_mkS {fuel : Nat} {cs : List Value} {x : DataW H × List MemPlace} (hc : cs.length = 2) (h : DataW.trod enc Try.prog w base spare held fuel 60 cs = some x) :
    ∃ s : Mk, cs = cMk s ∧ (u64B s.id ∧ u64B s.ch) := by
  obtain ⟨xs, k, hk, hxy, _, hxl, hf⟩ := DataW.trod_struct Try.underlying60 h
  match xs, hxl, cs, hc with
  | [y0, y1], _, [v0, v1], _ =>
    have c30 : Try.prog.cellsOf 22 = 1 := by kernel_rfl
    have g0 := hf 0 _ rfl
    have g1 := hf 1 _ rfl
    simp [c30] at g0 g1
    obtain ⟨a, e0, _, w0⟩ := DataW.trod_int Try.underlying22 g0
    obtain ⟨i, e1, _, w1⟩ := DataW.trod_int Try.underlying22 g1
    simp only [List.cons.injEq, and_true] at e0 e1
    subst e0 e1
    exact ⟨⟨a, i⟩, rfl, u64_wf w0, u64_wf w1⟩
set_option maxRecDepth 100000 in
theorem open_state {fuel : Nat} {cs : List Value} {x : DataW H × List MemPlace} (hc : cs.length = 7) (h : DataW.trod enc Try.prog w base spare held fuel 27 cs = some x) :
    ∃ s : SvA, cs = cSv s ∧ SvR w s := by
  obtain ⟨xs, k, hk, hxy, _, hxl, hf⟩ := DataW.trod_struct Try.underlying27 h
  match xs, hxl, cs, hc with
  | [y0, y1, y2, y3, y4, y5, y6], _, [v0, v1, v2, v3, v4, v5, v6], _ =>
    have c9 : Try.prog.cellsOf 9 = 1 := by kernel_rfl
    have c30 : Try.prog.cellsOf 22 = 1 := by kernel_rfl
    have c4 : Try.prog.cellsOf 23 = 1 := by kernel_rfl
    have c5 : Try.prog.cellsOf 24 = 1 := by kernel_rfl
    have c6 : Try.prog.cellsOf 25 = 1 := by kernel_rfl
    have g0 := hf 0 _ rfl
    have g1 := hf 1 _ rfl
    have g2 := hf 2 _ rfl
    have g3 := hf 3 _ rfl
    have g4 := hf 4 _ rfl
    have g5 := hf 5 _ rfl
    have g6 := hf 6 _ rfl
    simp [c9, c30, c4, c5, c6] at g0 g1 g2 g3 g4 g5 g6
    obtain ⟨hd, e0, _, w0⟩ := DataW.trod_string Try.underlying9 g0
    obtain ⟨wk, e1, _, w1⟩ := DataW.trod_int Try.underlying22 g1
    obtain ⟨nx, e2, _, w2⟩ := DataW.trod_int Try.underlying22 g2
    obtain ⟨pd, e3, _, w3⟩ := DataW.trod_int Try.underlying22 g3
    obtain ⟨ra, rc, rs, e4, r1, r2, r3, r4⟩ := open_rows cRf_len (by decide) (ok := fun s : Rf => s.n.size ≤ maxLen ∧ u64B s.i) Try.underlying23 (by kernel_rfl) (fun hc h => open_refS hc h) g4
    obtain ⟨ma, mc, ms, e5, m1, m2, m3, m4⟩ := open_rows cMk_len (by decide) (ok := fun s : Mk => u64B s.id ∧ u64B s.ch) Try.underlying24 (by kernel_rfl) (fun hc h => open_mkS hc h) g5
    obtain ⟨ca, cc, cl, e6, c1, c2, c3, c7, _⟩ := open_cls g6
    simp only [List.cons.injEq, and_true] at e0 e1 e2 e3
    subst e0 e1 e2 e3 e4 e5 e6
    exact ⟨⟨⟨hd, wk, nx, pd, rs, ms, cl⟩, ra, rc, ma, mc, ca, cc⟩, rfl, ⟨r1, m1, c1, w0, fun r hr => (r2 r hr).1, c2, ⟨u64_wf w1, u64_wf w2, u64_wf w3⟩, fun r hr => (r2 r hr).2, m2, ⟨r3, r4⟩, ⟨m3, m4⟩, ⟨c3, c7⟩⟩⟩
set_option maxRecDepth 100000 in
theorem state_in {r : Reach} {b0 : Nat} {v : Value} {d : DataW H} {ps : List MemPlace} (hval : Value.okWide Try.prog w r b0 27 v) (h : DataW.Trod enc Try.prog w base spare held 27 v d ps) :
    ∃ x : SvA, v = .agg #[.string x.s.hd, .int .u64 x.s.wk, .int .u64 x.s.nx, .int .u64 x.s.pd, .slice x.ra x.s.rf.length x.rc, .slice x.ma x.s.md.length x.mc, .slice x.ca x.s.cl.length x.cc] ∧ SvR w x := by
  obtain ⟨cs, rfl, hc⟩ := okWide_struct Try.underlying27 hval
  obtain ⟨fuel, hf⟩ := h
  have c32 : Try.prog.cellsOf 27 = 7 := by kernel_rfl
  rw [c32] at hc
  obtain ⟨f, e, ok⟩ := open_state (cs := cs.toList) (by simpa using hc) hf
  refine ⟨f, ?_, ok⟩
  cases cs
  simp only [cSv] at e
  rw [e]
end
end Go.Proofs.Ytgjhmpmjbedjoaa
