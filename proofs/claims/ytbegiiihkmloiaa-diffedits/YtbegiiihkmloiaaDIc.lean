/- Edits and changes that came in, as the walks read them. -/
import Derived.Test.YtbegiiihkmloiaaDIn
namespace Go.Proofs.Ytbegiiihkmloiaa
open Go.RowKit Apo Go.ChangeShapes Go.WideShapes Go.Deep
instance : Inhabited Ed := ⟨⟨ByteArray.empty, ByteArray.empty, false⟩⟩
instance : Inhabited Ch := ⟨⟨ByteArray.empty, false, ByteArray.empty, false, ByteArray.empty⟩⟩
section
variable {H : Type} {enc : TypeId × Value → H} {w : World} {base : Nat} {spare : Nat → Bool} {held : Bool}
set_option maxRecDepth 100000 in
theorem open_eds {fuel : Nat} {v : Value} {x : DataW H × List MemPlace} (h : DataW.trod enc Try.prog w base spare held fuel 30 [v] = some x) :
    ∃ (a : Option Addr) (cap : Nat) (fs : List Ed), v = .slice a fs.length cap ∧ RdG cEd 3 w a fs ∧ (∀ f ∈ fs, f.k.size ≤ maxLen ∧ f.v.size ≤ maxLen) ∧ fs.length ≤ cap ∧ cap ≤ maxLen ∧ (a = none → cap = 0) := by
  rcases open_slice Try.underlying30 h with ⟨hcs, _⟩ | ⟨ad, len, cap, m, n, D, Pl, hcs, hb, hl, hm, hmm, _, hx⟩
  · simp only [List.cons.injEq, and_true] at hcs
    exact ⟨none, 0, [], hcs, RdG.nil _ _, by simp, by simp, by omega, fun _ => rfl⟩
  · simp only [List.cons.injEq, and_true] at hcs
    have hlm : len ≤ m := by rw [hmm]; split <;> omega
    have ce : Try.prog.cellsOf 37 = 3 := by kernel_rfl
    have each : ∀ i, i < len → ∃ f : Ed, w.cell? (ad.add (i * 3)) = some (.string f.k) ∧ w.cell? (ad.add (i * 3 + 1)) = some (.string f.v) ∧ w.cell? (ad.add (i * 3 + 2)) = some (.bool f.g) ∧ (f.k.size ≤ maxLen ∧ f.v.size ≤ maxLen) := by
      intro i hi
      obtain ⟨cs', h1, h2⟩ := hx i (by omega)
      rw [ce] at h1
      obtain ⟨_, hlen, hcell⟩ := World.cells?_some h1
      obtain ⟨xs, k, hk, hxy, _, hxl, hf⟩ := DataW.trod_struct Try.underlying37 h2
      match xs, hxl, cs', hlen with
      | [y0, y1, y2], _, [v0, v1, v2], _ =>
        have c9 : Try.prog.cellsOf 9 = 1 := by kernel_rfl
        have c4 : Try.prog.cellsOf 4 = 1 := by kernel_rfl
        have g0 := hf 0 _ rfl
        have g1 := hf 1 _ rfl
        have g2 := hf 2 _ rfl
        simp [c9, c4] at g0 g1 g2
        obtain ⟨u0, e0, _, w0⟩ := DataW.trod_string Try.underlying9 g0
        obtain ⟨u1, e1, _, w1⟩ := DataW.trod_string Try.underlying9 g1
        obtain ⟨u2, e2, _⟩ := DataW.trod_bool Try.underlying4 g2
        have q0 := hcell 0 (by omega)
        have q1 := hcell 1 (by omega)
        have q2 := hcell 2 (by omega)
        rw [add_add] at q0 q1 q2
        simp only [List.cons.injEq, and_true] at e0 e1 e2
        subst e0 e1 e2
        exact ⟨⟨u0, u1, u2⟩, by simpa using q0, by simpa using q1, by simpa using q2, w0, w1⟩
    obtain ⟨F, hF⟩ := choose_lt each
    refine ⟨some ad, cap, (List.range len).map F, by simpa using hcs, ?_, ?_, by simp; omega, by omega, fun e => by cases e⟩
    · intro i f hi
      obtain ⟨hlt, hv⟩ := List.getElem?_eq_some_iff.1 hi
      have hil : i < len := by simpa using hlt
      have hfi : F i = f := by simpa using hv
      obtain ⟨p0, p1, p2, _⟩ := hF i hil
      have z0 := (hF 0 (by omega)).1
      obtain ⟨b, off, spot⟩ := ad
      have hspot : spot = none := by simpa [Addr.add] using World.cell?_spot z0
      subst hspot
      rw [hfi] at p0 p1 p2
      rw [add_plain] at p0 p1 p2
      refine ⟨b, off, rfl, fun j u hu => ?_⟩
      match j with
      | 0 => simp [cEd] at hu; rw [← hu]; simpa [Nat.add_assoc] using p0
      | 1 => simp [cEd] at hu; rw [← hu]; simpa [Nat.add_assoc] using p1
      | 2 => simp [cEd] at hu; rw [← hu]; simpa [Nat.add_assoc] using p2
      | j + 3 => simp [cEd] at hu
    · intro f hf
      simp only [List.mem_map, List.mem_range] at hf
      obtain ⟨i, hi, rfl⟩ := hf
      exact (hF i hi).2.2.2
structure EdA where
  a : Option Addr
  c : Nat
  l : List Ed
structure OkEdA (w : World) (x : EdA) : Prop where
  rd : RdG cEd 3 w x.a x.l
  sz : ∀ f ∈ x.l, f.k.size ≤ maxLen ∧ f.v.size ≤ maxLen
  len : x.l.length ≤ x.c
  big : x.c ≤ maxLen
  nil : x.a = none → x.c = 0
theorem OkEdA.below {w w' : World} {x : EdA} (h : OkEdA w x) (b : Below w.heap.size w w') : OkEdA w' x := { h with rd := h.rd.below b }
set_option maxRecDepth 100000 in
theorem eds_in {r : Reach} {b0 : Nat} {v : Value} {d : DataW H} {ps : List MemPlace} (hval : Value.okWide Try.prog w r b0 30 v) (h : DataW.Trod enc Try.prog w base spare held 30 v d ps) : ∃ t : EdA, v = .slice t.a t.l.length t.c ∧ OkEdA w t := by
  obtain ⟨a, l, c, rfl⟩ := okWide_slice Try.underlying30 hval
  obtain ⟨fuel, hf⟩ := h
  obtain ⟨a', c', fs, e, h1, h2, h3, h4, h5⟩ := open_eds hf
  exact ⟨⟨a', c', fs⟩, e, ⟨h1, h2, h3, h4, h5⟩⟩
set_option maxRecDepth 100000 in
theorem open_chs {fuel : Nat} {v : Value} {x : DataW H × List MemPlace} (h : DataW.trod enc Try.prog w base spare held fuel 26 [v] = some x) :
    ∃ (a : Option Addr) (cap : Nat) (fs : List Ch), v = .slice a fs.length cap ∧ RdG cCh 5 w a fs ∧ (∀ f ∈ fs, f.k.size ≤ maxLen ∧ f.was.size ≤ maxLen ∧ f.now.size ≤ maxLen) ∧ fs.length ≤ cap ∧ cap ≤ maxLen ∧ (a = none → cap = 0) := by
  rcases open_slice Try.underlying26 h with ⟨hcs, _⟩ | ⟨ad, len, cap, m, n, D, Pl, hcs, hb, hl, hm, hmm, _, hx⟩
  · simp only [List.cons.injEq, and_true] at hcs
    exact ⟨none, 0, [], hcs, RdG.nil _ _, by simp, by simp, by omega, fun _ => rfl⟩
  · simp only [List.cons.injEq, and_true] at hcs
    have hlm : len ≤ m := by rw [hmm]; split <;> omega
    have ce : Try.prog.cellsOf 35 = 5 := by kernel_rfl
    have each : ∀ i, i < len → ∃ f : Ch, w.cell? (ad.add (i * 5)) = some (.string f.k) ∧ w.cell? (ad.add (i * 5 + 1)) = some (.bool f.had) ∧ w.cell? (ad.add (i * 5 + 2)) = some (.string f.was) ∧ w.cell? (ad.add (i * 5 + 3)) = some (.bool f.has) ∧ w.cell? (ad.add (i * 5 + 4)) = some (.string f.now) ∧ (f.k.size ≤ maxLen ∧ f.was.size ≤ maxLen ∧ f.now.size ≤ maxLen) := by
      intro i hi
      obtain ⟨cs', h1, h2⟩ := hx i (by omega)
      rw [ce] at h1
      obtain ⟨_, hlen, hcell⟩ := World.cells?_some h1
      obtain ⟨xs, k, hk, hxy, _, hxl, hf⟩ := DataW.trod_struct Try.underlying35 h2
      match xs, hxl, cs', hlen with
      | [y0, y1, y2, y3, y4], _, [v0, v1, v2, v3, v4], _ =>
        have c9 : Try.prog.cellsOf 9 = 1 := by kernel_rfl
        have c4 : Try.prog.cellsOf 4 = 1 := by kernel_rfl
        have g0 := hf 0 _ rfl
        have g1 := hf 1 _ rfl
        have g2 := hf 2 _ rfl
        have g3 := hf 3 _ rfl
        have g4 := hf 4 _ rfl
        simp [c9, c4] at g0 g1 g2 g3 g4
        obtain ⟨u0, e0, _, w0⟩ := DataW.trod_string Try.underlying9 g0
        obtain ⟨u1, e1, _⟩ := DataW.trod_bool Try.underlying4 g1
        obtain ⟨u2, e2, _, w2⟩ := DataW.trod_string Try.underlying9 g2
        obtain ⟨u3, e3, _⟩ := DataW.trod_bool Try.underlying4 g3
        obtain ⟨u4, e4, _, w4⟩ := DataW.trod_string Try.underlying9 g4
        have q0 := hcell 0 (by omega)
        have q1 := hcell 1 (by omega)
        have q2 := hcell 2 (by omega)
        have q3 := hcell 3 (by omega)
        have q4 := hcell 4 (by omega)
        rw [add_add] at q0 q1 q2 q3 q4
        simp only [List.cons.injEq, and_true] at e0 e1 e2 e3 e4
        subst e0 e1 e2 e3 e4
        exact ⟨⟨u0, u1, u2, u3, u4⟩, by simpa using q0, by simpa using q1, by simpa using q2, by simpa using q3, by simpa using q4, w0, w2, w4⟩
    obtain ⟨F, hF⟩ := choose_lt each
    refine ⟨some ad, cap, (List.range len).map F, by simpa using hcs, ?_, ?_, by simp; omega, by omega, fun e => by cases e⟩
    · intro i f hi
      obtain ⟨hlt, hv⟩ := List.getElem?_eq_some_iff.1 hi
      have hil : i < len := by simpa using hlt
      have hfi : F i = f := by simpa using hv
      obtain ⟨p0, p1, p2, p3, p4, _⟩ := hF i hil
      have z0 := (hF 0 (by omega)).1
      obtain ⟨b, off, spot⟩ := ad
      have hspot : spot = none := by simpa [Addr.add] using World.cell?_spot z0
      subst hspot
      rw [hfi] at p0 p1 p2 p3 p4
      rw [add_plain] at p0 p1 p2 p3 p4
      refine ⟨b, off, rfl, fun j u hu => ?_⟩
      match j with
      | 0 => simp [cCh] at hu; rw [← hu]; simpa [Nat.add_assoc] using p0
      | 1 => simp [cCh] at hu; rw [← hu]; simpa [Nat.add_assoc] using p1
      | 2 => simp [cCh] at hu; rw [← hu]; simpa [Nat.add_assoc] using p2
      | 3 => simp [cCh] at hu; rw [← hu]; simpa [Nat.add_assoc] using p3
      | 4 => simp [cCh] at hu; rw [← hu]; simpa [Nat.add_assoc] using p4
      | j + 5 => simp [cCh] at hu
    · intro f hf
      simp only [List.mem_map, List.mem_range] at hf
      obtain ⟨i, hi, rfl⟩ := hf
      exact (hF i hi).2.2.2.2.2
structure ChA where
  a : Option Addr
  c : Nat
  l : List Ch
structure OkChA (w : World) (x : ChA) : Prop where
  rd : RdG cCh 5 w x.a x.l
  sz : ∀ f ∈ x.l, f.k.size ≤ maxLen ∧ f.was.size ≤ maxLen ∧ f.now.size ≤ maxLen
  len : x.l.length ≤ x.c
  big : x.c ≤ maxLen
  nil : x.a = none → x.c = 0
theorem OkChA.below {w w' : World} {x : ChA} (h : OkChA w x) (b : Below w.heap.size w w') : OkChA w' x := { h with rd := h.rd.below b }
set_option maxRecDepth 100000 in
theorem chs_in {r : Reach} {b0 : Nat} {v : Value} {d : DataW H} {ps : List MemPlace} (hval : Value.okWide Try.prog w r b0 26 v) (h : DataW.Trod enc Try.prog w base spare held 26 v d ps) : ∃ t : ChA, v = .slice t.a t.l.length t.c ∧ OkChA w t := by
  obtain ⟨a, l, c, rfl⟩ := okWide_slice Try.underlying26 hval
  obtain ⟨fuel, hf⟩ := h
  obtain ⟨a', c', fs, e, h1, h2, h3, h4, h5⟩ := open_chs hf
  exact ⟨⟨a', c', fs⟩, e, ⟨h1, h2, h3, h4, h5⟩⟩
end
end Go.Proofs.Ytbegiiihkmloiaa
