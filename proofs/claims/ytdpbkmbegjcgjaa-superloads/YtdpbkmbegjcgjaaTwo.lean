/- The program's device and the document's, side by side. No function of Go is named here. -/
import Derived.Test.YtdpbkmbegjcgjaaCNew
import Derived.Test.YtdpbkmbegjcgjaaRNew
namespace Go.Proofs.Ytdpbkmbegjcgjaa
open Go.RowKit Apo Go.Maps

/-- what the document's device owns lies in memory -/
theorem row_cut {O : Nat → Prop} {w : World} {e : TypeId} {size : Nat} {v : Value} {n : Nat} {xs : List Value} (h : Row O w e size v n xs) : Row (fun i => O i ∧ i < w.heap.size) w e size v n xs := ⟨h.1, fun g hg => ⟨h.2 g hg, h.lt g hg⟩⟩
theorem byts_cut {O : Nat → Prop} {e : TypeId} {w : World} {vs : List Value} {rs : List (List Int)} (h : Byts O e w vs rs) : Byts (fun i => O i ∧ i < w.heap.size) e w vs rs := ⟨h.1, fun i v r hv hr => row_cut (h.2 i v r hv hr)⟩
theorem rdev_fresh {w w' : World} {p : Nat} {st : Sd} (h : RDev (fun i => w.heap.size ≤ i) w' p st) : RDev (Fresh w w') w' p st := by
  obtain ⟨vS, vC, vB, rv, cv, h⟩ := h
  exact ⟨vS, vC, vB, rv, cv, ⟨h.ob, ⟨h.own, h.ob.lt⟩, row_cut h.sS, byts_cut h.sR, row_cut h.sC, byts_cut h.sW, row_cut h.sB, h.ok⟩⟩

/-- the program's device and the document's, side by side -/
structure Two (w wr : World) (p q : Nat) (O U : Nat → Prop) (sc sr : Sd) : Prop where
  c : CDev O wr p sc
  r : RDev U wr q sr
  bel : Below w.heap.size w wr
  loO : ∀ i, O i → w.heap.size ≤ i
  loU : ∀ i, U i → w.heap.size ≤ i
  hiO : ∀ i, O i → i < wr.heap.size
  hiU : ∀ i, U i → i < wr.heap.size
  apart : ∀ i, U i → ¬ O i
section
variable {w wr wq : World} {p q p' q' : Nat} {O U : Nat → Prop} {sc sr s' : Sd}
theorem Two.turnC (h : Two w wr p q O U sc sr) (ho : Onl O wr wq) (hd : CDev (Gro O wr wq) wq p s') : Two w wq p q (Gro O wr wq) U s' sr :=
  ⟨hd, h.r.onl ho h.apart, Below.onl h.bel ho h.loO (Nat.le_refl _), Gro.base h.loO h.bel.size, h.loU, Gro.lt h.hiO ho.size, fun i hi => Nat.lt_of_lt_of_le (h.hiU i hi) ho.size, Gro.apart h.apart h.hiU⟩
theorem Two.turnR (h : Two w wr p q O U sc sr) (ho : Onl U wr wq) (hd : RDev (Gro U wr wq) wq q s') : Two w wq p q O (Gro U wr wq) sc s' :=
  ⟨h.c.onl ho (fun i hi hu => h.apart i hu hi), hd, Below.onl h.bel ho h.loU (Nat.le_refl _), h.loO, Gro.base h.loU h.bel.size, fun i hi => Nat.lt_of_lt_of_le (h.hiO i hi) ho.size, Gro.lt h.hiU ho.size, fun i hu hi => hu.elim (fun hu => h.apart i hu hi) (fun hu => absurd (h.hiO i hi) (Nat.not_lt.2 hu.1))⟩
theorem Two.turnC0 (h : Two w wr p q O U sc sr) (ho : Onl O wr wq) (hd : CDev O wq p s') : Two w wq p q O U s' sr :=
  ⟨hd, h.r.onl ho h.apart, Below.onl h.bel ho h.loO (Nat.le_refl _), h.loO, h.loU, fun i hi => Nat.lt_of_lt_of_le (h.hiO i hi) ho.size, fun i hi => Nat.lt_of_lt_of_le (h.hiU i hi) ho.size, h.apart⟩
theorem Two.turnR0 (h : Two w wr p q O U sc sr) (ho : Onl U wr wq) (hd : RDev U wq q s') : Two w wq p q O U sc s' :=
  ⟨h.c.onl ho (fun i hi hu => h.apart i hu hi), hd, Below.onl h.bel ho h.loU (Nat.le_refl _), h.loO, h.loU, fun i hi => Nat.lt_of_lt_of_le (h.hiO i hi) ho.size, fun i hi => Nat.lt_of_lt_of_le (h.hiU i hi) ho.size, h.apart⟩
theorem Two.below (h : Two w wr p q O U sc sr) (hb : Below wr.heap.size wr wq) : Two w wq p q O U sc sr :=
  ⟨h.c.onl (F := fun _ => False) (Onl.ofBelow hb) (fun _ _ q => q), h.r.onl (F := fun _ => False) (Onl.ofBelow hb) (fun _ _ q => q), h.bel.trans (hb.mono h.bel.size), h.loO, h.loU, fun i hi => Nat.lt_of_lt_of_le (h.hiO i hi) hb.size, fun i hi => Nat.lt_of_lt_of_le (h.hiU i hi) hb.size, h.apart⟩
theorem Two.drew (h : Two w wr p q O U sc sr) : Two w wr.drew p q O U sc sr := h.below ((Below.refl _ wr).drew)
theorem Two.drewN (h : Two w wr p q O U sc sr) (n : Nat) : Two w (wr.drewN n) p q O U sc sr := h.below ⟨rfl, rfl, rfl, Nat.le_refl _, fun _ _ => rfl⟩
theorem Two.copyC (h : Two w wr p q O U sc sr) (hb : Below wr.heap.size wr wq) (hd : CDev (Fresh wr wq) wq p' s') : Two w wq p' q (Fresh wr wq) U s' sr :=
  ⟨hd, (h.below hb).r, (h.below hb).bel, fun _ hi => Nat.le_trans h.bel.size hi.1, h.loU, fun _ hi => hi.2, (h.below hb).hiU, fun i hu hi => absurd (h.hiU i hu) (Nat.not_lt.2 hi.1)⟩
theorem Two.copyR (h : Two w wr p q O U sc sr) (hb : Below wr.heap.size wr wq) (hd : RDev (Gro U wr wq) wq q' s') : Two w wq p q' O (Gro U wr wq) sc s' :=
  ⟨(h.below hb).c, hd, (h.below hb).bel, h.loO, Gro.base h.loU h.bel.size, (h.below hb).hiO, Gro.lt h.hiU hb.size, fun i hu hi => hu.elim (fun hu => h.apart i hu hi) (fun hu => absurd (h.hiO i hi) (Nat.not_lt.2 hu.1))⟩
theorem Two.bytC (h : Two w wr p q O U sc sr) {k : IntKind} {a : Option Addr} {l : List Int} (hr : Rd k w a l) : ∀ x, a = some x → 0 < l.length → ¬ O x.block := fun x hx h0 q => by
  subst hx
  exact absurd (hr.lt h0) (Nat.not_lt.2 (h.loO _ q))
theorem Two.bytR (h : Two w wr p q O U sc sr) {k : IntKind} {a : Option Addr} {l : List Int} (hr : Rd k w a l) : ∀ x, a = some x → 0 < l.length → ¬ U x.block := fun x hx h0 q => by
  subst hx
  exact absurd (hr.lt h0) (Nat.not_lt.2 (h.loU _ q))
end
end Go.Proofs.Ytdpbkmbegjcgjaa
