/- Clashes that came in, as the walks read them. -/
import Derived.Test.YtgjhmpmjbedjoaaQA4
import Derived.Test.YtgjhmpmjbedjoaaQMSd
namespace Go.Proofs.Ytgjhmpmjbedjoaa
open Go.RowKit Apo Go.ChangeShapes Go.WideShapes Go.Deep
theorem choose_ltC {α : Type} [Inhabited α] {n : Nat} {P : Nat → α → Prop} (h : ∀ i, i < n → ∃ x, P i x) : ∃ F : Nat → α, ∀ i, i < n → P i (F i) := by
  classical
  exact ⟨fun i => if q : i < n then Classical.choose (h i q) else default, fun i hi => by simp only [dif_pos hi]; exact Classical.choose_spec (h i hi)⟩
instance : Inhabited Cl := ⟨⟨ByteArray.empty, ⟨false, ByteArray.empty⟩, ⟨false, ByteArray.empty⟩, ⟨false, ByteArray.empty⟩⟩⟩
section
variable {H : Type} {enc : TypeId × Value → H} {w : World} {base : Nat} {spare : Nat → Bool} {held : Bool}
set_option maxRecDepth 100000 in
theorem open_sideS {fuel : Nat} {cs : List Value} {x : DataW H × List MemPlace} (hc : cs.length = 2) (h : DataW.trod enc Try.prog w base spare held fuel 73 cs = some x) :
    ∃ s : Si, cs = [.bool s.b, .string s.v] ∧ s.v.size ≤ maxLen := by
  obtain ⟨xs, k, hk, hxy, _, hxl, hf⟩ := DataW.trod_struct Try.underlying73 h
  match xs, hxl, cs, hc with
  | [y0, y1], _, [v0, v1], _ =>
    have c4 : Try.prog.cellsOf 4 = 1 := by kernel_rfl
    have c9 : Try.prog.cellsOf 9 = 1 := by kernel_rfl
    have g0 := hf 0 _ rfl
    have g1 := hf 1 _ rfl
    simp [c4, c9] at g0 g1
    obtain ⟨b, e0, _⟩ := DataW.trod_bool Try.underlying4 g0
    obtain ⟨s, e1, _, w1⟩ := DataW.trod_string Try.underlying9 g1
    simp only [List.cons.injEq, and_true] at e0 e1
    subst e0 e1
    exact ⟨⟨b, s⟩, rfl, w1⟩
set_option maxRecDepth 100000 in
theorem open_cls {fuel : Nat} {v : Value} {x : DataW H × List MemPlace} (h : DataW.trod enc Try.prog w base spare held fuel 25 [v] = some x) :
    ∃ (a : Option Addr) (cap : Nat) (fs : List Cl), v = .slice a fs.length cap ∧ RdG cCl 7 w a fs ∧ (∀ f ∈ fs, f.k.size ≤ maxLen ∧ f.a.v.size ≤ maxLen ∧ f.b.v.size ≤ maxLen ∧ f.c.v.size ≤ maxLen) ∧ fs.length ≤ cap ∧ cap ≤ maxLen ∧ (a = none → cap = 0) := by
  rcases open_slice Try.underlying25 h with ⟨hcs, _⟩ | ⟨ad, len, cap, m, n, D, Pl, hcs, hb, hl, hm, hmm, _, hx⟩
  · simp only [List.cons.injEq, and_true] at hcs
    exact ⟨none, 0, [], hcs, RdG.nil _ _, by simp, by simp, by omega, fun _ => rfl⟩
  · simp only [List.cons.injEq, and_true] at hcs
    have hlm : len ≤ m := by rw [hmm]; split <;> omega
    have ce : Try.prog.cellsOf 75 = 7 := by kernel_rfl
    have each : ∀ i, i < len → ∃ f : Cl, w.cell? (ad.add (i * 7)) = some (.string f.k) ∧ w.cell? (ad.add (i * 7 + 1)) = some (.bool f.a.b) ∧ w.cell? (ad.add (i * 7 + 2)) = some (.string f.a.v) ∧ w.cell? (ad.add (i * 7 + 3)) = some (.bool f.b.b) ∧ w.cell? (ad.add (i * 7 + 4)) = some (.string f.b.v) ∧ w.cell? (ad.add (i * 7 + 5)) = some (.bool f.c.b) ∧ w.cell? (ad.add (i * 7 + 6)) = some (.string f.c.v) ∧ (f.k.size ≤ maxLen ∧ f.a.v.size ≤ maxLen ∧ f.b.v.size ≤ maxLen ∧ f.c.v.size ≤ maxLen) := by
      intro i hi
      obtain ⟨cs', h1, h2⟩ := hx i (by omega)
      rw [ce] at h1
      obtain ⟨_, hlen, hcell⟩ := World.cells?_some h1
      obtain ⟨xs, k, hk, hxy, _, hxl, hf⟩ := DataW.trod_struct Try.underlying75 h2
      match xs, hxl, cs', hlen with
      | [y0, y1, y2, y3], _, [v0, v1, v2, v3, v4, v5, v6], _ =>
        have c9 : Try.prog.cellsOf 9 = 1 := by kernel_rfl
        have c43 : Try.prog.cellsOf 73 = 2 := by kernel_rfl
        have g0 := hf 0 _ rfl
        have g1 := hf 1 _ rfl
        have g2 := hf 2 _ rfl
        have g3 := hf 3 _ rfl
        simp [c9, c43] at g0 g1 g2 g3
        obtain ⟨u0, e0, _, w0⟩ := DataW.trod_string Try.underlying9 g0
        obtain ⟨u1, e1, w1⟩ := open_sideS rfl g1
        obtain ⟨u2, e2, w2⟩ := open_sideS rfl g2
        obtain ⟨u3, e3, w3⟩ := open_sideS rfl g3
        have q0 := hcell 0 (by omega)
        have q1 := hcell 1 (by omega)
        have q2 := hcell 2 (by omega)
        have q3 := hcell 3 (by omega)
        have q4 := hcell 4 (by omega)
        have q5 := hcell 5 (by omega)
        have q6 := hcell 6 (by omega)
        rw [add_add] at q0 q1 q2 q3 q4 q5 q6
        simp only [List.cons.injEq, and_true] at e0 e1 e2 e3
        obtain ⟨e11, e12⟩ := e1
        obtain ⟨e21, e22⟩ := e2
        obtain ⟨e31, e32⟩ := e3
        subst e0 e11 e12 e21 e22 e31 e32
        exact ⟨⟨u0, u1, u2, u3⟩, by simpa using q0, by simpa using q1, by simpa using q2, by simpa using q3, by simpa using q4, by simpa using q5, by simpa using q6, w0, w1, w2, w3⟩
    obtain ⟨F, hF⟩ := choose_ltC each
    refine ⟨some ad, cap, (List.range len).map F, by simpa using hcs, ?_, ?_, by simp; omega, by omega, fun e => by cases e⟩
    · intro i f hi
      obtain ⟨hlt, hv⟩ := List.getElem?_eq_some_iff.1 hi
      have hil : i < len := by simpa using hlt
      have hfi : F i = f := by simpa using hv
      obtain ⟨p0, p1, p2, p3, p4, p5, p6, _⟩ := hF i hil
      have z0 := (hF 0 (by omega)).1
      obtain ⟨b, off, spot⟩ := ad
      have hspot : spot = none := by simpa [Addr.add] using World.cell?_spot z0
      subst hspot
      rw [hfi] at p0 p1 p2 p3 p4 p5 p6
      rw [add_plain] at p0 p1 p2 p3 p4 p5 p6
      refine ⟨b, off, rfl, fun j u hu => ?_⟩
      match j with
      | 0 => simp [cCl] at hu; rw [← hu]; simpa [Nat.add_assoc] using p0
      | 1 => simp [cCl] at hu; rw [← hu]; simpa [Nat.add_assoc] using p1
      | 2 => simp [cCl] at hu; rw [← hu]; simpa [Nat.add_assoc] using p2
      | 3 => simp [cCl] at hu; rw [← hu]; simpa [Nat.add_assoc] using p3
      | 4 => simp [cCl] at hu; rw [← hu]; simpa [Nat.add_assoc] using p4
      | 5 => simp [cCl] at hu; rw [← hu]; simpa [Nat.add_assoc] using p5
      | 6 => simp [cCl] at hu; rw [← hu]; simpa [Nat.add_assoc] using p6
      | j + 7 => simp [cCl] at hu
    · intro f hf
      simp only [List.mem_map, List.mem_range] at hf
      obtain ⟨i, hi, rfl⟩ := hf
      exact (hF i hi).2.2.2.2.2.2.2
structure ClA where
  a : Option Addr
  c : Nat
  l : List Cl
structure OkClA (w : World) (x : ClA) : Prop where
  rd : RdG cCl 7 w x.a x.l
  sz : ∀ f ∈ x.l, f.k.size ≤ maxLen ∧ f.a.v.size ≤ maxLen ∧ f.b.v.size ≤ maxLen ∧ f.c.v.size ≤ maxLen
  len : x.l.length ≤ x.c
  big : x.c ≤ maxLen
  nil : x.a = none → x.c = 0
theorem OkClA.below {w w' : World} {x : ClA} (h : OkClA w x) (b : Below w.heap.size w w') : OkClA w' x := { h with rd := h.rd.below b }
set_option maxRecDepth 100000 in
theorem cls_in {r : Reach} {b0 : Nat} {v : Value} {d : DataW H} {ps : List MemPlace} (hval : Value.okWide Try.prog w r b0 25 v) (h : DataW.Trod enc Try.prog w base spare held 25 v d ps) : ∃ t : ClA, v = .slice t.a t.l.length t.c ∧ OkClA w t := by
  obtain ⟨a, l, c, rfl⟩ := okWide_slice Try.underlying25 hval
  obtain ⟨fuel, hf⟩ := h
  obtain ⟨a', c', fs, e, h1, h2, h3, h4, h5⟩ := open_cls hf
  exact ⟨⟨a', c', fs⟩, e, ⟨h1, h2, h3, h4, h5⟩⟩
end
end Go.Proofs.Ytgjhmpmjbedjoaa
