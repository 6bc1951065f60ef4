/- What StateOf keeps while it reads. Over the translation. -/
import Derived.Test.YtgjhmpmjbedjoaaQSOp
namespace Go.Proofs.Ytgjhmpmjbedjoaa
open Go.RowKit Apo
def zeroA17 : SvA := ⟨zeroSv, none, 0, none, 0, none, 0⟩
/-- the reader at p, its bytes at g; the state at q, its refs below rB, its Mades from rB up to mB; the answer's cell, still empty -/
structure SoI (w W : World) (p g q rB mB : Nat) (st : St) (x : SvA) : Prop where
  rr : Rr W p 83 g st
  ob : Ob W q 27 (cSv x)
  ro : Row (fun i => q < i ∧ i < rB) W 57 3 (.slice x.ra x.s.rf.length x.rc) x.s.rf.length (gcells cRf x.s.rf)
  mo : Row (fun i => rB ≤ i ∧ i < mB) W 60 2 (.slice x.ma x.s.md.length x.mc) x.s.md.length (gcells cMk x.s.md)
  zo : Ob W w.heap.size 27 (cSv zeroA17)
  bel : Below w.heap.size w W
  lt : w.heap.size < p ∧ p < q ∧ g < q ∧ g ≠ w.heap.size ∧ q < rB ∧ rB ≤ mB ∧ mB ≤ W.heap.size
section
variable {w W W' : World} {p g q rB mB : Nat} {st st' : St} {x : SvA}
theorem SoI.up {F : Nat → Prop} (h : SoI w W p g q rB mB st x) (o : Onl F W W') (hF : ∀ i, F i → mB ≤ i) : SoI w W' p g q rB mB st x := by
  obtain ⟨l1, l2, l3, l4, l5, l6, l7⟩ := h.lt
  exact ⟨h.rr.onl o (fun z => by have := hF _ z; omega) (fun z => by have := hF _ z; omega), h.ob.onl o (fun z => by have := hF _ z; omega), h.ro.onl o (fun i hi z => by have := hF _ z; have := (h.ro.2 i hi).2; omega), h.mo.onl o (fun i hi z => by have := hF _ z; have := (h.mo.2 i hi).2; omega), h.zo.onl o (fun z => by have := hF _ z; omega),
    Below.onl h.bel o (fun i z => by have := hF _ z; omega) (Nat.le_refl _), ⟨l1, l2, l3, l4, l5, l6, Nat.le_trans l7 o.size⟩⟩
theorem SoI.old (h : SoI w W p g q rB mB st x) (b : Below W.heap.size W W') : SoI w W' p g q rB mB st x := h.up (F := fun _ => False) (Onl.ofBelow b) (fun _ z => z.elim)
theorem SoI.read (h : SoI w W p g q rB mB st x) (r : Rr W' p 83 g st') (gr : W.grownBy W' (some p)) : SoI w W' p g q rB mB st' x := by
  obtain ⟨l1, l2, l3, l4, l5, l6, l7⟩ := h.lt
  have o := grown_onl gr
  exact ⟨r, h.ob.onl o (by omega), h.ro.onl o (fun i hi z => by have := (h.ro.2 i hi).1; omega), h.mo.onl o (fun i hi z => by have := (h.mo.2 i hi).1; omega), h.zo.onl o (by omega), Below.onl h.bel o (fun i z => by omega) (Nat.le_refl _), ⟨l1, l2, l3, l4, l5, l6, Nat.le_trans l7 o.size⟩⟩
theorem SoI.num (h : SoI w W p g q rB mB st x) (most : Int) :
    Calls Try.prog 45 #[.pointer (some ⟨p, 0, none⟩), .int .u64 most] W fun e w' => e = .returned (.int .u64 (rnum st most).1) ∧ SoI w w' p g q rB mB (rnum st most).2 x ∧ W.grownBy w' (some p) :=
  (xnum_any p g st most W h.rr).mono (by rintro e w' ⟨rfl, r, gr⟩; exact ⟨rfl, h.read r gr, gr⟩)
theorem SoI.text (h : SoI w W p g q rB mB st x) (most : Int) (hm : most ≤ 9223372036854775807) :
    Calls Try.prog 44 #[.pointer (some ⟨p, 0, none⟩), .int .i64 most] W fun e w' => e = .returned (.string (strOfNums (rtext st most).1)) ∧ SoI w w' p g q rB mB (rtext st most).2 x ∧ W.grownBy w' (some p) :=
  (xtext_any p g st most W h.rr hm).mono (by rintro e w' ⟨rfl, r, gr⟩; exact ⟨rfl, h.read r gr, gr⟩)
theorem SoI.flag (h : SoI w W p g q rB mB st x) :
    Calls Try.prog 46 #[.pointer (some ⟨p, 0, none⟩)] W fun e w' => e = .returned (.bool (rflag st).1) ∧ SoI w w' p g q rB mB (rflag st).2 x ∧ W.grownBy w' (some p) :=
  (xflag_any p g st W h.rr).mono (by rintro e w' ⟨rfl, r, gr⟩; exact ⟨rfl, h.read r gr, gr⟩)
/-- a part that is no row of refs or of Mades is stored -/
theorem SoI.set {y : SvA} (h : SoI w W p g q rB mB st x) (j : Nat) (v : Value) (hy : cSv y = (cSv x).set j v) (hr : y.ra = x.ra ∧ y.rc = x.rc ∧ y.s.rf = x.s.rf) (hm : y.ma = x.ma ∧ y.mc = x.mc ∧ y.s.md = x.s.md) : SoI w (W.setCell ⟨q, j, none⟩ v) p g q rB mB st y := by
  obtain ⟨l1, l2, l3, l4, l5, l6, l7⟩ := h.lt
  have o : Onl (fun i => i = q) W (W.setCell ⟨q, j, none⟩ v) := (Onl.refl (fun i => i = q) W).set (p := q) (.inl rfl) _
  have hob : Ob (W.setCell ⟨q, j, none⟩ v) q 27 (cSv y) := by rw [hy]; exact h.ob.set j v
  refine ⟨h.rr.onl o (by omega) (by omega), hob, ?_, ?_, h.zo.onl o (by omega), Below.onl h.bel o (fun i z => by omega) (Nat.le_refl _), ⟨l1, l2, l3, l4, l5, l6, Nat.le_trans l7 o.size⟩⟩
  · rw [hr.1, hr.2.1, hr.2.2]; exact h.ro.onl o (fun i hi z => by have := (h.ro.2 i hi).1; omega)
  · rw [hm.1, hm.2.1, hm.2.2]; exact h.mo.onl o (fun i hi z => by have := (h.mo.2 i hi).1; omega)
/-- one ref more -/
theorem SoI.addR (h : SoI w W p g q rB mB st x) (hm : x.s.md = [] ∧ x.ma = none ∧ x.mc = 0) (hl : x.s.rf.length ≤ 1000) (r : Rf) :
    ∃ va n vc W2, (Builtin.append_ #[23, 23] 23 #[.slice x.ra x.s.rf.length x.rc, .slice (some ⟨W.heap.size, 0, none⟩) 1 1]).run Try.prog (W.alloc (.cells #[.string r.n, .bool r.t, .int .u64 r.i] 57)) = .ok (.slice va n vc) W2 ∧
      (W2.cell? ⟨q, 4, none⟩ = some (.slice x.ra x.s.rf.length x.rc) ∧ W2.frozen? ⟨q, 4, none⟩ = false) ∧ ∃ y : SvA, y.s = { x.s with rf := x.s.rf ++ [r] } ∧ y.ma = x.ma ∧ y.mc = x.mc ∧ y.ca = x.ca ∧ y.cc = x.cc ∧ SoI w (W2.setCell ⟨q, 4, none⟩ (.slice va n vc)) p g q W2.heap.size W2.heap.size st y := by
  obtain ⟨l1, l2, l3, l4, l5, l6, l7⟩ := h.lt
  have bA : Below W.heap.size W (W.alloc (.cells #[.string r.n, .bool r.t, .int .u64 r.i] 57)) := (Below.refl _ _).alloc (Nat.le_refl _) _
  have hrA := h.ro.onl (F := fun _ => False) (Onl.ofBelow bA) (fun _ _ z => z)
  obtain ⟨v2, W2, R, r2, o2, ow⟩ := app_rf (cp := 1) (xs := [r]) hrA (by simp; omega) (rd_lit (c := cRf) (k := 3) 57 W r)
  obtain ⟨va, vc, hv, _⟩ := r2.form
  subst hv
  have hA := h.old bA
  have hs2 := o2.size
  rw [World.size_alloc] at hs2
  have hF : ∀ i, (Value.slice x.ra x.s.rf.length x.rc).ownBlock = some i → q < i ∧ i < rB := fun i hi => h.ro.2 i hi
  have ob2 := hA.ob.onl o2 (fun z => by have := (hF _ z).1; omega)
  have hlen : (x.s.rf ++ [r]).length = ({ x.s with rf := x.s.rf ++ [r] } : Sv).rf.length := rfl
  have o3 : Onl (fun i => i = q) W2 (W2.setCell ⟨q, 4, none⟩ (.slice va (x.s.rf ++ [r]).length vc)) := (Onl.refl (fun i => i = q) W2).set (p := q) (.inl rfl) _
  have b2 : Below w.heap.size w W2 := Below.onl hA.bel o2 (fun i z => by have := (hF _ z).1; omega) (Nat.le_refl _)
  have hown : ∀ g2, (Value.slice va (x.s.rf ++ [r]).length vc).ownBlock = some g2 → q < g2 ∧ g2 < W2.heap.size := fun g2 hg => by
    rcases ow g2 hg with z | z
    · have := hF _ z; omega
    · rw [z, World.size_alloc]
      have := r2.lt _ hg
      rw [z, World.size_alloc] at this
      omega
  refine ⟨va, _, vc, W2, R, ⟨ob2.cell 4, ob2.frozen 4⟩, ⟨{ x.s with rf := x.s.rf ++ [r] }, va, vc, x.ma, x.mc, x.ca, x.cc⟩, rfl, rfl, rfl, rfl, rfl, ?_⟩
  refine ⟨(hA.rr.onl o2 (fun z => by have := (hF _ z).1; omega) (fun z => by have := (hF _ z).1; omega)).onl o3 (by omega) (by omega), ?_, ?_, ?_, (hA.zo.onl o2 (fun z => by have := (hF _ z).1; omega)).onl o3 (by omega), Below.onl b2 o3 (fun i z => by omega) (Nat.le_refl _), ⟨l1, l2, l3, l4, by omega, Nat.le_refl _, o3.size⟩⟩
  · exact ob2.set 4 _
  · have h1 : Row (fun i => q < i ∧ i < W2.heap.size) W2 57 3 (.slice va (x.s.rf ++ [r]).length vc) (x.s.rf ++ [r]).length (gcells cRf (x.s.rf ++ [r])) := ⟨r2.1, hown⟩
    exact h1.onl o3 (fun i hi z => by have := (hown i hi).1; omega)
  · simp only
    rw [hm.1, hm.2.1, hm.2.2]
    exact Row.nil _ _ _ _
/-- one Made more -/
theorem SoI.addM (h : SoI w W p g q rB mB st x) (hl : x.s.md.length ≤ 1000) (m : Mk) :
    ∃ va n vc W2, (Builtin.append_ #[24, 24] 24 #[.slice x.ma x.s.md.length x.mc, .slice (some ⟨W.heap.size, 0, none⟩) 1 1]).run Try.prog (W.alloc (.cells #[.int .u64 m.id, .int .u64 m.ch] 60)) = .ok (.slice va n vc) W2 ∧
      (W2.cell? ⟨q, 5, none⟩ = some (.slice x.ma x.s.md.length x.mc) ∧ W2.frozen? ⟨q, 5, none⟩ = false) ∧ ∃ y : SvA, y.s = { x.s with md := x.s.md ++ [m] } ∧ y.ra = x.ra ∧ y.rc = x.rc ∧ y.ca = x.ca ∧ y.cc = x.cc ∧ SoI w (W2.setCell ⟨q, 5, none⟩ (.slice va n vc)) p g q rB W2.heap.size st y := by
  obtain ⟨l1, l2, l3, l4, l5, l6, l7⟩ := h.lt
  have bA : Below W.heap.size W (W.alloc (.cells #[.int .u64 m.id, .int .u64 m.ch] 60)) := (Below.refl _ _).alloc (Nat.le_refl _) _
  have hrA := h.mo.onl (F := fun _ => False) (Onl.ofBelow bA) (fun _ _ z => z)
  obtain ⟨v2, W2, R, r2, o2, ow⟩ := app_mk (cp := 1) (xs := [m]) hrA (by simp; omega) (rd_lit (c := cMk) (k := 2) 60 W m)
  obtain ⟨va, vc, hv, _⟩ := r2.form
  subst hv
  have hA := h.old bA
  have hs2 := o2.size
  rw [World.size_alloc] at hs2
  have hF : ∀ i, (Value.slice x.ma x.s.md.length x.mc).ownBlock = some i → rB ≤ i ∧ i < mB := fun i hi => h.mo.2 i hi
  have ob2 := hA.ob.onl o2 (fun z => by have := (hF _ z).1; omega)
  have o3 : Onl (fun i => i = q) W2 (W2.setCell ⟨q, 5, none⟩ (.slice va (x.s.md ++ [m]).length vc)) := (Onl.refl (fun i => i = q) W2).set (p := q) (.inl rfl) _
  have b2 : Below w.heap.size w W2 := Below.onl hA.bel o2 (fun i z => by have := (hF _ z).1; omega) (Nat.le_refl _)
  have hown : ∀ g2, (Value.slice va (x.s.md ++ [m]).length vc).ownBlock = some g2 → rB ≤ g2 ∧ g2 < W2.heap.size := fun g2 hg => by
    rcases ow g2 hg with z | z
    · have := hF _ z; omega
    · rw [z, World.size_alloc]
      have := r2.lt _ hg
      rw [z, World.size_alloc] at this
      omega
  refine ⟨va, _, vc, W2, R, ⟨ob2.cell 5, ob2.frozen 5⟩, ⟨{ x.s with md := x.s.md ++ [m] }, x.ra, x.rc, va, vc, x.ca, x.cc⟩, rfl, rfl, rfl, rfl, rfl, ?_⟩
  refine ⟨(hA.rr.onl o2 (fun z => by have := (hF _ z).1; omega) (fun z => by have := (hF _ z).1; omega)).onl o3 (by omega) (by omega), ?_, ?_, ?_, (hA.zo.onl o2 (fun z => by have := (hF _ z).1; omega)).onl o3 (by omega), Below.onl b2 o3 (fun i z => by omega) (Nat.le_refl _), ⟨l1, l2, l3, l4, l5, by omega, o3.size⟩⟩
  · exact ob2.set 5 _
  · exact (hA.ro.onl o2 (fun i hi z => by have := (hF _ z).1; have := (h.ro.2 i hi).2; omega)).onl o3 (fun i hi z => by have := (h.ro.2 i hi).1; omega)
  · have h1 : Row (fun i => rB ≤ i ∧ i < W2.heap.size) W2 60 2 (.slice va (x.s.md ++ [m]).length vc) (x.s.md ++ [m]).length (gcells cMk (x.s.md ++ [m])) := ⟨r2.1, hown⟩
    exact h1.onl o3 (fun i hi z => by have := (hown i hi).1; omega)
end
end Go.Proofs.Ytgjhmpmjbedjoaa
