/- Refs and law 16's deeds as they come in. Over the translation. -/
import Derived.Test.YticofadpbpcejaaRows
import Derived.Test.YticofadpbpcejaaRDa
import Derived.Deep.Slices
import Derived.ProofKit
import Derived.OpenShut
namespace Go.Proofs.Yticofadpbpcejaa
open Go.RowKit Apo Go.ChangeShapes Go.WideShapes Go.Deep
theorem choose_ltR {α : Type} [Inhabited α] {n : Nat} {P : Nat → α → Prop} (h : ∀ i, i < n → ∃ x, P i x) : ∃ F : Nat → α, ∀ i, i < n → P i (F i) := by
  classical
  exact ⟨fun i => if q : i < n then Classical.choose (h i q) else default, fun i hi => by simp only [dif_pos hi]; exact Classical.choose_spec (h i hi)⟩
/-- a deed of law 16 -/
structure Dr where
  kd : Int
  r : Rf
  old : Int
def cDr (x : Dr) : List Value := [.int .i64 x.kd, .string x.r.n, .bool x.r.t, .int .u64 x.r.i, .int .u64 x.old]
theorem cDr_len (x : Dr) : (cDr x).length = 5 := rfl
instance : Inhabited Rf := ⟨⟨ByteArray.empty, false, 0⟩⟩
instance : Inhabited Dr := ⟨⟨0, ⟨ByteArray.empty, false, 0⟩, 0⟩⟩
theorem rd_dr {w : World} {a : Option Addr} {l : List Dr} (h : RdG cDr 5 w a l) {i : Nat} {x : Dr} (hi : l[i]? = some x) : ∃ g o, a = some ⟨g, o, none⟩ ∧ w.cell? ⟨g, o + i * 5, none⟩ = some (.int .i64 x.kd) ∧ w.cell? ⟨g, o + i * 5 + 1, none⟩ = some (.string x.r.n) ∧ w.cell? ⟨g, o + i * 5 + 2, none⟩ = some (.bool x.r.t) ∧ w.cell? ⟨g, o + i * 5 + 3, none⟩ = some (.int .u64 x.r.i) ∧ w.cell? ⟨g, o + i * 5 + 4, none⟩ = some (.int .u64 x.old) := by
  obtain ⟨g, o, h1, h2⟩ := h i x hi
  exact ⟨g, o, h1, h2 0 _ rfl, h2 1 _ rfl, h2 2 _ rfl, h2 3 _ rfl, h2 4 _ rfl⟩
section
variable {H : Type} {enc : TypeId × Value → H} {w : World} {base : Nat} {spare : Nat → Bool} {held : Bool}
set_option maxRecDepth 100000 in
theorem open_ref {fuel : Nat} {cs : List Value} {x : DataW H × List MemPlace} (hc : cs.length = 3) (h : DataW.trod enc Try.prog w base spare held fuel 32 cs = some x) :
    ∃ s : Rf, cs = cRf s ∧ s.n.size ≤ maxLen := by
  obtain ⟨xs, k, hk, hxy, _, hxl, hf⟩ := DataW.trod_struct Try.underlying32 h
  match xs, hxl, cs, hc with
  | [y0, y1, y2], _, [v0, v1, v2], _ =>
    have c4 : Try.prog.cellsOf 4 = 1 := by kernel_rfl
    have c9 : Try.prog.cellsOf 9 = 1 := by kernel_rfl
    have c30 : Try.prog.cellsOf 30 = 1 := by kernel_rfl
    have g0 := hf 0 _ rfl
    have g1 := hf 1 _ rfl
    have g2 := hf 2 _ rfl
    simp [c4, c9, c30] at g0 g1 g2
    obtain ⟨a, e0, _, w0⟩ := DataW.trod_string Try.underlying9 g0
    obtain ⟨s, e1, _⟩ := DataW.trod_bool Try.underlying4 g1
    obtain ⟨i, e2, _, _⟩ := DataW.trod_int Try.underlying30 g2
    simp only [List.cons.injEq, and_true] at e0 e1 e2
    subst e0 e1 e2
    exact ⟨⟨a, s, i⟩, rfl, w0⟩
set_option maxRecDepth 100000 in
theorem open_deed {fuel : Nat} {cs : List Value} {x : DataW H × List MemPlace} (hc : cs.length = 5) (h : DataW.trod enc Try.prog w base spare held fuel 34 cs = some x) :
    ∃ s : Dr, cs = cDr s ∧ s.r.n.size ≤ maxLen := by
  obtain ⟨xs, k, hk, hxy, _, hxl, hf⟩ := DataW.trod_struct Try.underlying34 h
  match xs, hxl, cs, hc with
  | [y0, y1, y2], _, [v0, v1, v2, v3, v4], _ =>
    have c3 : Try.prog.cellsOf 3 = 1 := by kernel_rfl
    have c32 : Try.prog.cellsOf 32 = 3 := by kernel_rfl
    have c30 : Try.prog.cellsOf 30 = 1 := by kernel_rfl
    have g0 := hf 0 _ rfl
    have g1 := hf 1 _ rfl
    have g2 := hf 2 _ rfl
    simp [c3, c32, c30] at g0 g1 g2
    obtain ⟨a, e0, _, _⟩ := DataW.trod_int Try.underlying3 g0
    obtain ⟨s, e1, w1⟩ := open_ref rfl g1
    obtain ⟨i, e2, _, _⟩ := DataW.trod_int Try.underlying30 g2
    simp only [cRf, List.cons.injEq, and_true] at e0 e1 e2
    obtain ⟨e11, e12, e13⟩ := e1
    subst e0 e11 e12 e13 e2
    exact ⟨⟨a, s, i⟩, rfl, w1⟩
/-- a slice of structs that came in -/
theorem open_rows {α : Type} [Inhabited α] {c : α → List Value} {K : Nat} (hK : ∀ x, (c x).length = K) (hK0 : 0 < K) {ok : α → Prop} {t e : TypeId} (ht : Try.prog.underlying t = some (.slice e)) (ce : Try.prog.cellsOf e = K)
    (ho : ∀ {fuel : Nat} {cs : List Value} {x : DataW H × List MemPlace}, cs.length = K → DataW.trod enc Try.prog w base spare held fuel e cs = some x → ∃ s : α, cs = c s ∧ ok s)
    {fuel : Nat} {v : Value} {x : DataW H × List MemPlace} (h : DataW.trod enc Try.prog w base spare held fuel t [v] = some x) :
    ∃ (a : Option Addr) (cap : Nat) (fs : List α), v = .slice a fs.length cap ∧ RdG c K w a fs ∧ (∀ f ∈ fs, ok f) ∧ fs.length ≤ cap ∧ cap ≤ maxLen := by
  rcases open_slice ht h with ⟨hcs, _⟩ | ⟨ad, len, cap, m, n, D, Pl, hcs, hb, hl, hm, hmm, _, hx⟩
  · simp only [List.cons.injEq, and_true] at hcs
    exact ⟨none, 0, [], hcs, RdG.nil _ _, by simp, by simp, by omega⟩
  · simp only [List.cons.injEq, and_true] at hcs
    have hlm : len ≤ m := by rw [hmm]; split <;> omega
    have each : ∀ i, i < len → ∃ f : α, (∀ j u, (c f)[j]? = some u → w.cell? (ad.add (i * K + j)) = some u) ∧ ok f := by
      intro i hi
      obtain ⟨cs', h1, h2⟩ := hx i (by omega)
      rw [ce] at h1
      obtain ⟨_, hlen, hcell⟩ := World.cells?_some h1
      obtain ⟨s, hs, hr⟩ := ho hlen h2
      refine ⟨s, fun j u hu => ?_, hr⟩
      have hj : j < K := by have := (List.getElem?_eq_some_iff.1 hu).1; rw [hK] at this; exact this
      have := hcell j hj
      rw [add_add] at this
      rw [this]
      subst hs
      exact hu
    obtain ⟨F, hF⟩ := choose_ltR each
    refine ⟨some ad, cap, (List.range len).map F, by simpa using hcs, ?_, ?_, by simp; omega, by omega⟩
    · intro i f hi
      obtain ⟨hlt, hv⟩ := List.getElem?_eq_some_iff.1 hi
      have hil : i < len := by simpa using hlt
      have hfi : F i = f := by simpa using hv
      have hF1 := (hF i hil).1
      rw [hfi] at hF1
      have z0 := (hF 0 (by omega)).1 0 _ (List.getElem?_eq_getElem (by rw [hK]; exact hK0))
      obtain ⟨b, off, spot⟩ := ad
      have hspot : spot = none := by simpa [Addr.add] using World.cell?_spot z0
      subst hspot
      refine ⟨b, off, rfl, fun j u hu => ?_⟩
      have := hF1 j u hu
      rw [add_plain] at this
      simpa [Nat.add_assoc] using this
    · intro f hf
      obtain ⟨i, hi, rfl⟩ := List.mem_map.1 hf
      exact (hF i (by simpa using hi)).2
structure RfA where
  a : Option Addr
  c : Nat
  l : List Rf
structure OkRfA (w : World) (x : RfA) : Prop where
  rd : RdG cRf 3 w x.a x.l
  sz : ∀ f ∈ x.l, f.n.size ≤ maxLen
  len : x.l.length ≤ x.c
  big : x.c ≤ maxLen
theorem OkRfA.below {w w' : World} {x : RfA} (h : OkRfA w x) (b : Below w.heap.size w w') : OkRfA w' x := { h with rd := h.rd.below b }
structure DrA where
  a : Option Addr
  c : Nat
  l : List Dr
structure OkDrA (w : World) (x : DrA) : Prop where
  rd : RdG cDr 5 w x.a x.l
  sz : ∀ f ∈ x.l, f.r.n.size ≤ maxLen
  len : x.l.length ≤ x.c
  big : x.c ≤ maxLen
theorem OkDrA.below {w w' : World} {x : DrA} (h : OkDrA w x) (b : Below w.heap.size w w') : OkDrA w' x := { h with rd := h.rd.below b }
set_option maxRecDepth 100000 in
theorem refs_in {r : Reach} {b0 : Nat} {v : Value} {d : DataW H} {ps : List MemPlace} (hval : Value.okWide Try.prog w r b0 22 v) (h : DataW.Trod enc Try.prog w base spare held 22 v d ps) : ∃ t : RfA, v = .slice t.a t.l.length t.c ∧ OkRfA w t := by
  obtain ⟨a, l, c, rfl⟩ := okWide_slice Try.underlying22 hval
  obtain ⟨fuel, hf⟩ := h
  obtain ⟨a', c', fs, e, h1, h2, h3, h4⟩ := open_rows cRf_len (by decide) (ok := fun s : Rf => s.n.size ≤ maxLen) Try.underlying22 (by kernel_rfl) (fun hc h => open_ref hc h) hf
  exact ⟨⟨a', c', fs⟩, e, ⟨h1, h2, h3, h4⟩⟩
set_option maxRecDepth 100000 in
theorem rdeeds_in {r : Reach} {b0 : Nat} {v : Value} {d : DataW H} {ps : List MemPlace} (hval : Value.okWide Try.prog w r b0 23 v) (h : DataW.Trod enc Try.prog w base spare held 23 v d ps) : ∃ t : DrA, v = .slice t.a t.l.length t.c ∧ OkDrA w t := by
  obtain ⟨a, l, c, rfl⟩ := okWide_slice Try.underlying23 hval
  obtain ⟨fuel, hf⟩ := h
  obtain ⟨a', c', fs, e, h1, h2, h3, h4⟩ := open_rows cDr_len (by decide) (ok := fun s : Dr => s.r.n.size ≤ maxLen) Try.underlying23 (by kernel_rfl) (fun hc h => open_deed hc h) hf
  exact ⟨⟨a', c', fs⟩, e, ⟨h1, h2, h3, h4⟩⟩
set_option maxRecDepth 100000 in
theorem ref_in {r : Reach} {b0 : Nat} {v : Value} {d : DataW H} {ps : List MemPlace} (hval : Value.okWide Try.prog w r b0 32 v) (h : DataW.Trod enc Try.prog w base spare held 32 v d ps) :
    ∃ s : Rf, v = .agg #[.string s.n, .bool s.t, .int .u64 s.i] ∧ s.n.size ≤ maxLen := by
  obtain ⟨cs, rfl, hc⟩ := okWide_struct Try.underlying32 hval
  obtain ⟨fuel, hf⟩ := h
  have c32 : Try.prog.cellsOf 32 = 3 := by kernel_rfl
  rw [c32] at hc
  obtain ⟨f, e, ok⟩ := open_ref (cs := cs.toList) (by simpa using hc) hf
  refine ⟨f, ?_, ok⟩
  cases cs
  simp only [cRf] at e
  rw [e]
set_option maxRecDepth 100000 in
theorem rdeed_in {r : Reach} {b0 : Nat} {v : Value} {d : DataW H} {ps : List MemPlace} (hval : Value.okWide Try.prog w r b0 34 v) (h : DataW.Trod enc Try.prog w base spare held 34 v d ps) :
    ∃ s : Dr, v = .agg #[.int .i64 s.kd, .string s.r.n, .bool s.r.t, .int .u64 s.r.i, .int .u64 s.old] ∧ s.r.n.size ≤ maxLen := by
  obtain ⟨cs, rfl, hc⟩ := okWide_struct Try.underlying34 hval
  obtain ⟨fuel, hf⟩ := h
  have c32 : Try.prog.cellsOf 34 = 5 := by kernel_rfl
  rw [c32] at hc
  obtain ⟨f, e, ok⟩ := open_deed (cs := cs.toList) (by simpa using hc) hf
  refine ⟨f, ?_, ok⟩
  cases cs
  simp only [cDr] at e
  rw [e]
end
end Go.Proofs.Yticofadpbpcejaa
