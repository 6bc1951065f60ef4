/- What any extent must be shown to do, and what the laws then find: an object of the program's beside one of the document's. Over the translation. -/
import Derived.Test.YtlomnpeelpmhiaaXRo
import Derived.Test.YtlomnpeelpmhiaaRSt
import Derived.Test.YtlomnpeelpmhiaaRNf
namespace Go.Proofs.Ytlomnpeelpmhiaa
open Go.RowKit Apo

abbrev Cfr := (Nat → Prop) → World → Nat → Fr → Prop
/-- whatever is New: its objects, told by C, do what is meant -/
structure ExtDo (C : Cfr) : Prop where
  ok : ∀ {O w p f}, C O w p f → OkFr f
  onl : ∀ {O F : Nat → Prop} {w w' p f}, C O w p f → Onl F w w' → (∀ i, O i → ¬ F i) → C O w' p f
  new : ∀ (m n : Int) (w : World), m ≤ 9223372036854775807 → Calls Try.prog 7 #[.int .i64 m, .int .i64 n] w fun e w' => ∃ p, e = .returned (.pointer (some ⟨p, 0, none⟩)) ∧ C (fun i => w.heap.size ≤ i ∧ i < w'.heap.size) w' p (newFr m n) ∧ Below w.heap.size w w'
  take : ∀ {O w p f}, C O w p f → (∀ i, O i → i < w.heap.size) → ∀ n : Int, -9223372036854775808 ≤ n → n ≤ 9223372036854775807 → Calls Try.prog 9 #[.pointer (some ⟨p, 0, none⟩), .int .i64 n] w fun e w' => e = .returned (.tuple #[.int .i64 (f.take n).1.1, .bool (f.take n).1.2]) ∧ C (Gro O w w') w' p (f.take n).2 ∧ Onl O w w'
  claim : ∀ {O w p f}, C O w p f → (∀ i, O i → i < w.heap.size) → ∀ s : Spn, Spn.Ok s → Calls Try.prog 11 #[.pointer (some ⟨p, 0, none⟩), .agg #[.int .i64 s.a, .int .i64 s.k]] w fun e w' => e = .returned (.bool (f.claim s).1) ∧ C (Gro O w w') w' p (f.claim s).2 ∧ Onl O w w'
  give : ∀ {O w p f}, C O w p f → (∀ i, O i → i < w.heap.size) → ∀ s : Spn, Spn.Ok s → Calls Try.prog 13 #[.pointer (some ⟨p, 0, none⟩), .agg #[.int .i64 s.a, .int .i64 s.k]] w fun e w' => e = .returned (.bool (f.give s).1) ∧ C (Gro O w w') w' p (f.give s).2 ∧ Onl O w w'
  has : ∀ {O w p f}, C O w p f → (∀ i, O i → i < w.heap.size) → ∀ s : Spn, Spn.Ok s → Calls Try.prog 15 #[.pointer (some ⟨p, 0, none⟩), .agg #[.int .i64 s.a, .int .i64 s.k]] w fun e w' => e = .returned (.bool (f.all s true)) ∧ C (Gro O w w') w' p f ∧ Onl O w w'
  count : ∀ {O w p f}, C O w p f → (∀ i, O i → i < w.heap.size) → Calls Try.prog 22 #[.pointer (some ⟨p, 0, none⟩)] w fun e w' => e = .returned (.int .i64 (sumP f.rows)) ∧ C (Gro O w w') w' p f ∧ Onl O w w'
  largest : ∀ {O w p f}, C O w p f → (∀ i, O i → i < w.heap.size) → Calls Try.prog 23 #[.pointer (some ⟨p, 0, none⟩)] w fun e w' => e = .returned (.int .i64 (maxP f.rows)) ∧ C (Gro O w w') w' p f ∧ Onl O w w'
  copy : ∀ {O w p f}, C O w p f → (∀ i, O i → i < w.heap.size) → Calls Try.prog 17 #[.pointer (some ⟨p, 0, none⟩)] w fun e w' => ∃ q, e = .returned (.pointer (some ⟨q, 0, none⟩)) ∧ C (fun i => w.heap.size ≤ i ∧ i < w'.heap.size) w' q f ∧ Below w.heap.size w w'
  spans : ∀ {O w p f}, C O w p f → (∀ i, O i → i < w.heap.size) → SpTold O w (.pointer (some ⟨p, 0, none⟩)) f.rows

/-- an object of the program's, made since w -/
structure OnF (C : Cfr) (w wr : World) (p : Nat) (O : Nat → Prop) (f : Fr) : Prop where
  c : C O wr p f
  lo : ∀ i, O i → w.heap.size ≤ i
  hi : ∀ i, O i → i < wr.heap.size
  bel : Below w.heap.size w wr
/-- one of the program's and one of the document's -/
structure TwF (C : Cfr) (w wr : World) (p q : Nat) (O U : Nat → Prop) (f g : Fr) : Prop where
  c : C O wr p f
  r : RFr U wr q g
  bel : Below w.heap.size w wr
  loO : ∀ i, O i → w.heap.size ≤ i
  loU : ∀ i, U i → w.heap.size ≤ i
  hiO : ∀ i, O i → i < wr.heap.size
  hiU : ∀ i, U i → i < wr.heap.size
  apart : ∀ i, U i → ¬ O i
section
variable {C : Cfr} {w wr wq : World} {p q p' q' : Nat} {O U : Nat → Prop} {f g f' : Fr}
theorem OnF.turn (h : OnF C w wr p O f) (ho : Onl O wr wq) (hd : C (Gro O wr wq) wq p f') : OnF C w wq p (Gro O wr wq) f' :=
  ⟨hd, Gro.base h.lo h.bel.size, Gro.lt h.hi ho.size, Below.onl h.bel ho h.lo (Nat.le_refl _)⟩
theorem OnF.below (E : ExtDo C) (h : OnF C w wr p O f) (hb : Below wr.heap.size wr wq) : OnF C w wq p O f :=
  ⟨E.onl h.c (F := fun _ => False) (Onl.ofBelow hb) (fun _ _ q => q), h.lo, fun i hi => Nat.lt_of_lt_of_le (h.hi i hi) hb.size, h.bel.trans (hb.mono h.bel.size)⟩
theorem TwF.turnC (h : TwF C w wr p q O U f g) (ho : Onl O wr wq) (hd : C (Gro O wr wq) wq p f') : TwF C w wq p q (Gro O wr wq) U f' g :=
  ⟨hd, h.r.onl ho h.apart, Below.onl h.bel ho h.loO (Nat.le_refl _), Gro.base h.loO h.bel.size, h.loU, Gro.lt h.hiO ho.size, fun i hi => Nat.lt_of_lt_of_le (h.hiU i hi) ho.size, Gro.apart h.apart h.hiU⟩
theorem TwF.turnR (E : ExtDo C) (h : TwF C w wr p q O U f g) (ho : Onl U wr wq) (hd : RFr U wq q f') : TwF C w wq p q O U f f' :=
  ⟨E.onl h.c ho (fun i hi hu => h.apart i hu hi), hd, Below.onl h.bel ho h.loU (Nat.le_refl _), h.loO, h.loU, fun i hi => Nat.lt_of_lt_of_le (h.hiO i hi) ho.size, fun i hi => Nat.lt_of_lt_of_le (h.hiU i hi) ho.size, h.apart⟩
theorem TwF.below (E : ExtDo C) (h : TwF C w wr p q O U f g) (hb : Below wr.heap.size wr wq) : TwF C w wq p q O U f g :=
  ⟨E.onl h.c (F := fun _ => False) (Onl.ofBelow hb) (fun _ _ q => q), h.r.below hb, h.bel.trans (hb.mono h.bel.size), h.loO, h.loU, fun i hi => Nat.lt_of_lt_of_le (h.hiO i hi) hb.size, fun i hi => Nat.lt_of_lt_of_le (h.hiU i hi) hb.size, h.apart⟩
theorem TwF.drew (E : ExtDo C) (h : TwF C w wr p q O U f g) : TwF C w wr.drew p q O U f g := h.below E ((Below.refl _ wr).drew)
theorem TwF.copyC (h : TwF C w wr p q O U f g) (hb : Below wr.heap.size wr wq) (hd : C (fun i => wr.heap.size ≤ i ∧ i < wq.heap.size) wq p' f') : TwF C w wq p' q (fun i => wr.heap.size ≤ i ∧ i < wq.heap.size) U f' g :=
  ⟨hd, h.r.below hb, h.bel.trans (hb.mono h.bel.size), fun _ hi => Nat.le_trans h.bel.size hi.1, h.loU, fun _ hi => hi.2, fun i hi => Nat.lt_of_lt_of_le (h.hiU i hi) hb.size, fun i hu hi => absurd (h.hiU i hu) (Nat.not_lt.2 hi.1)⟩
theorem TwF.copyR (E : ExtDo C) (h : TwF C w wr p q O U f g) (hb : Below wr.heap.size wr wq) (hd : RFr (fun i => wr.heap.size ≤ i ∧ i < wq.heap.size) wq q' f') : TwF C w wq p q' O (fun i => wr.heap.size ≤ i ∧ i < wq.heap.size) f f' :=
  ⟨E.onl h.c (F := fun _ => False) (Onl.ofBelow hb) (fun _ _ q => q), hd, h.bel.trans (hb.mono h.bel.size), h.loO, fun _ hi => Nat.le_trans h.bel.size hi.1, fun i hi => Nat.lt_of_lt_of_le (h.hiO i hi) hb.size, fun _ hi => hi.2, fun i hu hi => absurd (h.hiO i hi) (Nat.not_lt.2 hu.1)⟩
end

/-! chapter 6's example -/
def fa : Fr := newFr 1 9
theorem fa1 : (fa.take 3).1 = (1, true) := by decide
theorem fa2 : ((fa.take 3).2.take 2).1 = (4, true) := by decide
def fb : Fr := ((fa.take 3).2.take 2).2
theorem fb1 : (fb.give ⟨1, 3⟩).1 = true := by decide
theorem fb2 : sumP (fb.give ⟨1, 3⟩).2.rows = 6 := by decide
theorem fb3 : maxP (fb.give ⟨1, 3⟩).2.rows = 3 := by decide

set_option maxRecDepth 100000 in
set_option maxHeartbeats 4000000 in
theorem xawake_any {C : Cfr} (E : ExtDo C) (w : World) : Calls Try.prog 6 #[] w fun e w' => e = .returned (.bool true) ∧ Below w.heap.size w w' := by
  have HE := hide E
  clear E
  go_enter Try.func6, Try.ntmps6
  go_wp2_with fail
  refine (HE.out.new 1 9 w (by decide)).mono ?_
  rintro e w1 ⟨p, rfl, d1, b1⟩
  have T1 : OnF C w w1 p _ fa := ⟨d1, fun i hi => hi.1, fun i hi => hi.2, b1⟩
  generalize (fun i => w.heap.size ≤ i ∧ i < w1.heap.size) = O1 at T1
  have HT1 := hide T1
  clear d1 b1 T1
  go_wp2_with fail
  refine (HE.out.take HT1.out.c HT1.out.hi 3 (by decide) (by decide)).mono ?_
  rintro e w2 ⟨rfl, d2, o2⟩
  have HT2 := hide (HT1.out.turn o2 d2)
  rw [fa1]
  clear d2 o2
  generalize Gro O1 w1 w2 = O2 at HT2
  go_wp2_with fail
  refine (HE.out.take HT2.out.c HT2.out.hi 2 (by decide) (by decide)).mono ?_
  rintro e w3 ⟨rfl, d3, o3⟩
  have HT3 : Hid (OnF C w w3 p (Gro O2 w2 w3) fb) := hide (HT2.out.turn o3 d3)
  rw [fa2]
  clear d3 o3
  generalize Gro O2 w2 w3 = O3 at HT3
  go_wp2_with fail
  refine (HE.out.give HT3.out.c HT3.out.hi ⟨1, 3⟩ ⟨by decide, by decide, by decide, by decide⟩).mono ?_
  rintro e w4 ⟨rfl, d4, o4⟩
  have HT4 := hide (HT3.out.turn o4 d4)
  rw [fb1]
  clear d4 o4
  generalize Gro O3 w3 w4 = O4 at HT4
  go_wp2_with fail
  refine (HE.out.count HT4.out.c HT4.out.hi).mono ?_
  rintro e w5 ⟨rfl, d5, o5⟩
  have HT5 := hide (HT4.out.turn o5 d5)
  rw [fb2]
  clear d5 o5
  generalize Gro O4 w4 w5 = O5 at HT5
  go_wp2_with fail
  refine (HE.out.largest HT5.out.c HT5.out.hi).mono ?_
  rintro e w6 ⟨rfl, d6, o6⟩
  have HT6 := hide (HT5.out.turn o6 d6)
  rw [fb3]
  clear d6 o6
  go_wp2
  go_ret
  exact ⟨rfl, HT6.out.bel⟩
end Go.Proofs.Ytlomnpeelpmhiaa
