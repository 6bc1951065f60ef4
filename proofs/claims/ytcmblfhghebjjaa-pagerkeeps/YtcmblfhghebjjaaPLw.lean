/- A device and a pager as a law meets them, and the chapter's example. Over the translation. -/
import Derived.Test.YtcmblfhghebjjaaPgT
import Derived.Test.YtcmblfhghebjjaaPMt
import Derived.Test.YtcmblfhghebjjaaPLd
import Derived.Test.YtcmblfhghebjjaaPFm
import Derived.Lib.SlBytesConst
namespace Apo
open Go Go.RowKit

theorem give_zero (f : Fr) : (f.give ⟨0, 0⟩).2 = f := by
  unfold Fr.give
  rw [if_neg (by intro q; have := (all_iff.1 q).1; simp at this)]
/-- what an opening of a device with a root finds -/
theorem open_is {st : Sd} {s : Sup} (h : Du st s) (hr : Rest st) (h1 : s.st ≠ 0) : st.load = (s, 0) ∧ st.rdText2 (firstP s.st) s.sz = (rootText st.S s, 0) ∧ s.pg = needP (rootText st.S s).length ∧ ((freeOf st).claim ⟨s.st, s.pg⟩).1 = true ∧ (rootText st.S s).length = s.sz := by
  have hsz := h.ok.size
  rcases h.root with ⟨r1, _⟩ | ⟨r1, r2, r3, r4, r5⟩
  · exact absurd r1 h1
  · have hne : ¬ (s.st = 0 ∧ s.pg = 0 ∧ s.sz = 0) := by omega
    have h0 : s.pg ≠ 0 := by
      rw [r2]
      unfold needP
      split
      · omega
      · split <;> omega
    have hroom := needP_room (size := (s.sz : Int)) (by rw [← r2]; exact h0)
    have hro := rdTo_rest hr r4 hsz
    have hlen := rdTo_len h.ok (s.st : Int) s.pg (by rw [hro]; exact r5)
    rw [hro] at hlen
    have eT : rootText st.S s = (rdTo (plainS st.S) s.st s.pg).1.take s.sz := by unfold rootText; rw [if_neg hne]
    have eL : (rootText st.S s).length = s.sz := by rw [eT, List.length_take, hlen]; rw [← r2] at hroom; omega
    refine ⟨h.load hr, ?_, by rw [eL]; exact r2, ?_, eL⟩
    · rw [rdText2_of h.ok (by omega) r2 h0 (by rw [hro]; exact r5), hro, eT]
    · unfold Fr.claim
      have hs := freeOf_suf st hsz
      rw [if_pos (all_iff.2 ⟨by simp only; omega, by simp only [hs.lo]; omega, by simp only [hs.len]; omega, fun i q1 q2 => (hs.at' i).2 (by simp only [Int.toNat_natCast] at q1 q2; omega)⟩)]
theorem alive_format {n : Int} (h8 : 8 ≤ lenOf n) : Alive (newSd n).format.2 := by
  have hlen : (newSd n).S.length = lenOf n := by simp [newSd]
  have a0 : Alive (newSd n) := ⟨rfl, rfl⟩
  have w0 := alive_wrote a0 (a := 0) (b := zeros) (by omega) (by simp [zeros])
  have w1 := alive_wrote w0.2.1 (a := 1) (b := zeros) (by rw [w0.2.2]; omega) (by simp [zeros])
  have w0a : ((newSd n).wrote 0 zeros).1 = 0 := w0.1
  have w1a : (((newSd n).wrote 0 zeros).2.wrote 1 zeros).1 = 0 := w1.1
  unfold Sd.format
  rw [if_neg (by rw [hlen]; omega), if_pos w0a, if_pos w1a]
  exact (alive_save w1.2.1 (by rw [w1.2.2, w0.2.2]; omega) _).2
/-- the first transaction of a device that was just formatted -/
theorem first_tx {n : Int} (h8 : 8 ≤ lenOf n) : Tx (newSd n).format.2 ⟨1, 0, 0, 0⟩ ⟨1, ⟨0, 0⟩, freeOf (newSd n).format.2, freeOf (newSd n).format.2, ((freeOf (newSd n).format.2).give ⟨0, 0⟩).2, false⟩ 1 (lenOf n / 4) [] := by
  obtain ⟨f1, f2, f3, f4⟩ := format_du h8
  have := freeOf_suf (newSd n).format.2 f2.ok.size
  rw [f4] at this
  exact ⟨f2, rfl, rfl, this, by rw [f4], by decide, by omega, by simp, List.Pairwise.nil⟩
/-- a device at rest behind a Commit that went well -/
theorem Tx.done {st : Sd} {s : Sup} {c : Cg} {m N : Nat} {xs : List (Spn × List Int)} {b : List Int} (h : Tx st s c m N xs) (hs : s.e ≤ 254) (ha : Alive st) (hb : ∀ z ∈ b, 0 ≤ z ∧ z ≤ 255) (hn : needP b.length ≠ 0) (hr : m + needP b.length ≤ N) :
    (c.commit st b).1 = 0 ∧ Du (c.commit st b).2.2 (nextS s m b) ∧ Rest (c.commit st b).2.2 ∧ Alive (c.commit st b).2.2 ∧ rootText (c.commit st b).2.2.S (nextS s m b) = b ∧ (c.commit st b).2.2.S.length = st.S.length ∧ (c.commit st b).2.1 = ⟨s.e + 1, ⟨m, needP b.length⟩, (c.n.claim ⟨m, needP b.length⟩).2, (c.n.claim ⟨m, needP b.length⟩).2, ((c.n.claim ⟨m, needP b.length⟩).2.give ⟨m, needP b.length⟩).2, false⟩ := by
  obtain ⟨a1, a2⟩ := h.commit_alive ha hb hn hr
  have hsz := h.du.ok.size
  have hN := h.hN
  rcases h.commit hs hb hn hr with ⟨c1, c2, c3, c4, c5, c6⟩ | ⟨c1, _⟩ | ⟨c1, _⟩
  · refine ⟨a1, c2, ⟨a2.1, c3, c2.bad⟩, a2, ?_, by rw [c4]; simp [putAll_len], c6⟩
    have hl : (putAll (c.put st b).2.2.C st.S).length = st.S.length := putAll_len _ _
    have hy := (c5 (⟨m, needP b.length⟩, b) (by simp)).kept (S' := (c.commit st b).2.2.S) (by rw [c4]; simp) (by rw [hl]; exact hsz) (by rw [hl, ← hN]; exact hr) (fun x hx _ => by rw [c4, List.getElem?_set_ne (by omega)])
    obtain ⟨A, k, h1, h2, h3, h4, h5, h6, h7, h8⟩ := hy
    simp only [Spn.mk.injEq] at h1
    have hA : (A : Int) = m := h1.1.symm
    have hk : (k : Int) = needP b.length := h1.2.symm
    have hk' : k = needP b.length := by omega
    unfold rootText
    rw [if_neg (by show ¬ (m = 0 ∧ _); omega)]
    show (rdTo (plainS _) (m : Int) (needP b.length)).1.take b.length = b
    rw [← hA, ← hk']
    exact h8
  · exact absurd a1 c1
  · exact absurd a1 c1
end Apo
namespace Go.Proofs.Ytcmblfhghebjjaa
open Go.RowKit Apo

/-- a device that was made since w -/
structure LwD (w W : World) (d : Nat) (st : Sd) (O : Nat → Prop) : Prop where
  c : CDev O W d st
  lo : ∀ i, O i → w.heap.size ≤ i
  hi : ∀ i, O i → i < W.heap.size
  bel : Below w.heap.size w W
/-- a pager on it -/
structure LwP (w W : World) (p d : Nat) (c : Cg) (st : Sd) (U : Nat → Prop) : Prop where
  c : CPx U W p d c st
  lo : ∀ i, U i → w.heap.size ≤ i
  hi : ∀ i, U i → i < W.heap.size
  bel : Below w.heap.size w W
section
variable {w W W' : World} {p d : Nat} {c c' : Cg} {st st' : Sd} {O U : Nat → Prop}
theorem LwD.below (h : LwD w W d st O) (b : Below W.heap.size W W') : LwD w W' d st O :=
  ⟨h.c.onl (F := fun _ => False) (Onl.ofBelow b) (fun _ _ q => q), h.lo, fun i q => Nat.lt_of_lt_of_le (h.hi i q) b.size, h.bel.trans (b.mono h.bel.size)⟩
theorem LwD.turn (h : LwD w W d st O) (k : CDev (Gro O W W') W' d st') (o : Onl O W W') : LwD w W' d st' (Gro O W W') :=
  ⟨k, Gro.base h.lo h.bel.size, Gro.lt h.hi o.size, Below.onl h.bel o h.lo (Nat.le_refl _)⟩
theorem LwD.turn' (h : LwD w W d st O) (k : CDev O W' d st') (o : Onl O W W') : LwD w W' d st' O :=
  ⟨k, h.lo, fun i q => Nat.lt_of_lt_of_le (h.hi i q) o.size, Below.onl h.bel o h.lo (Nat.le_refl _)⟩
theorem LwD.opened (h : LwD w W d st O) (k : CPx (Gro O W W') W' p d c st) (b : Below W.heap.size W W') : LwP w W' p d c st (Gro O W W') :=
  ⟨k, Gro.base h.lo h.bel.size, Gro.lt h.hi b.size, h.bel.trans (b.mono h.bel.size)⟩
theorem LwP.below (h : LwP w W p d c st U) (b : Below W.heap.size W W') : LwP w W' p d c st U :=
  ⟨h.c.below b, h.lo, fun i q => Nat.lt_of_lt_of_le (h.hi i q) b.size, h.bel.trans (b.mono h.bel.size)⟩
theorem LwP.turn (h : LwP w W p d c st U) (k : CPx (Gro U W W') W' p d c' st') (o : Onl U W W') : LwP w W' p d c' st' (Gro U W W') :=
  ⟨k, Gro.base h.lo h.bel.size, Gro.lt h.hi o.size, Below.onl h.bel o h.lo (Nat.le_refl _)⟩
/-- the device alone -/
theorem LwP.dev (h : LwP w W p d c st U) : ∃ Od, LwD w W d st Od ∧ ∀ W' st', CDev Od W' d st' → Onl Od W W' → LwP w W' p d c st' U := by
  obtain ⟨Od, h1, h2, h3⟩ := h.c.dev
  refine ⟨Od, ⟨h1, fun i q => h.lo i (h2 i q).1, fun i q => (h2 i q).2, h.bel⟩, fun W' st' k o => ⟨h3 W' st' k o, h.lo, fun i q => Nat.lt_of_lt_of_le (h.hi i q) o.size, Below.onl h.bel o (fun i q => h.lo i (h2 i q).1) (Nat.le_refl _)⟩⟩
end

theorem conv_tld {W : World} {B : Nat} {a : Option Addr} {l c : Nat} {b : List Int} (h : TldR W B (.slice a l c) b) : (convert 23 9 (.slice a l c)).run Try.prog W = .ok (.string (strOfNums b)) W := by
  obtain ⟨a', c', e, r, _⟩ := h
  cases e
  exact r.conv (P := Try.prog) 23 5 9 Try.underlying23 Try.underlying5 Try.underlying9 _
theorem TldR.form {W : World} {B : Nat} {v : Value} {b : List Int} (h : TldR W B v b) : ∃ a c, v = .slice a b.length c := by
  obtain ⟨a, c, e, _⟩ := h
  exact ⟨a, c, e⟩

/-! chapter 7's example -/
def sa1 : Sd := (newSd 40).format.2
def ca1 : Cg := ⟨1, ⟨0, 0⟩, freeOf sa1, freeOf sa1, ((freeOf sa1).give ⟨0, 0⟩).2, false⟩
theorem tx_a1 : Tx sa1 ⟨1, 0, 0, 0⟩ ca1 1 10 [] := first_tx (n := 40) (by decide)
theorem al_a1 : Alive sa1 := alive_format (n := 40) (by decide)
theorem need_a : needP (([97] : List Int).length : Int) = 1 := by decide

set_option maxRecDepth 100000 in
set_option maxHeartbeats 4000000 in
theorem awake_any (w : World) : Calls Try.prog 6 #[] w fun e w' => e = .returned (.bool true) ∧ Below w.heap.size w w' := by
  obtain ⟨f1, f2, f3, f4⟩ := format_du (n := 40) (by decide)
  have hC0 : (newSd 40).C.length = 0 := rfl
  have hC1 : sa1.C = [] := f3.2.1
  obtain ⟨d1, d2, d3, d4, d5, d6, d7⟩ := tx_a1.done (b := [97]) (by decide) al_a1 (by simp) (by rw [need_a]; decide) (by rw [need_a]; decide)
  have hld : sa1.load = (⟨1, 0, 0, 0⟩, 0) := f2.load f3
  obtain ⟨o1, o2, o3, o4, o5⟩ := open_is d2 d3 (by decide)
  rw [d5] at o2 o3
  have hnx : nextS ⟨1, 0, 0, 0⟩ 1 [97] = ⟨2, 1, 1, 1⟩ := by unfold nextS; rw [need_a]; rfl
  rw [hnx] at o1 o2 o3 o4 d2
  obtain ⟨sb, hsb⟩ : ∃ sb, sb = (ca1.commit sa1 [97]).2.2 := ⟨_, rfl⟩
  rw [← hsb] at o1 o2 o4 d2 d3
  have hCb : sb.C = [] := d3.2.1
  have HF1 := hide f1
  have HLD := hide hld
  have HC1 := hide hC1
  have HD1 := hide d1
  have HO1 := hide o1
  have HO2 := hide o2
  have HO4 := hide o4
  have HSB := hide hsb
  have HCB := hide hCb
  clear f1 f2 f3 f4 hld hC1 d1 d2 d3 d4 d5 d6 d7 o1 o2 o3 o4 o5 hnx hsb hCb
  go_enter Try.func6, Try.ntmps6
  go_wp2_with fail
  refine (cnew_any 40 w).mono ?_
  rintro e w1 ⟨d, rfl, k1, b1⟩
  have L1 : LwD w w1 d (newSd 40) (Fresh w w1) := ⟨k1, fun i q => q.1, fun i q => q.2, b1⟩
  have HL1 := hide L1
  clear k1 b1 L1
  generalize Fresh w w1 = O1 at HL1
  go_wp2_with fail
  refine (cformat_any HL1.out.c HL1.out.hi (by rw [hC0]; decide)).mono ?_
  rintro e w2 ⟨rfl, k2, o2⟩
  have L2 : LwD w w2 d sa1 _ := HL1.out.turn k2 o2
  have HL2 := hide L2
  rw [HF1.out]
  clear k2 o2 L2
  generalize Gro O1 w1 w2 = O2 at HL2
  go_wp2_with fail
  refine (copen_none HL2.out.c HL2.out.hi (by rw [HC1.out]; decide) 1 HLD.out).mono ?_
  rintro e w3 ⟨p, v3, rfl, t3, k3, b3⟩
  have L3 : LwP w w3 p d ca1 sa1 _ := HL2.out.opened k3 b3
  obtain ⟨a3, c3, hv3⟩ := t3.form
  subst hv3
  have HL3 := hide L3
  clear k3 b3 L3 t3
  generalize Gro O2 w2 w3 = U3 at HL3
  have kc : (convert 23 23 (.slice (some ⟨w3.heap.size, 0, none⟩) 1 1)).run Try.prog (w3.alloc (.cells #[.int .u8 97] 5)) = .ok (.slice (some ⟨w3.heap.size, 0, none⟩) 1 1) (w3.alloc (.cells #[.int .u8 97] 5 (1, 2))) := Lib.run_convert_bytes_const (P := Try.prog) w3 23 5 #[.int .u8 97] 1 1 Try.underlying23 Try.underlying5
  have L4 := HL3.out.below ((Below.refl _ w3).alloc (Nat.le_refl _) (.cells #[.int .u8 97] 5 (1, 2)))
  have r4 : Rd .u8 (w3.alloc (.cells #[.int .u8 97] 5 (1, 2))) (some ⟨w3.heap.size, 0, none⟩) [97] := by
    intro i hi
    obtain rfl : i = 0 := by simp at hi; exact hi
    refine ⟨w3.heap.size, 0, rfl, ?_⟩
    rw [World.cell?_alloc_mark]
    rfl
  have C4 := ccommit_any L4.c (by decide) (by rw [HC1.out]; decide) (some ⟨w3.heap.size, 0, none⟩) 1 [97] r4 (fun e => by cases e) (by decide) (fun x hx _ q => by cases hx; have := HL3.out.hi _ q; simp at this) (by simp)
  have HC4 := hide C4
  have HL4 := hide L4
  clear C4 L4 r4
  go_wp2_with fail
  refine HC4.out.mono ?_
  rintro e w5 ⟨rfl, k5, o5⟩
  have L5 := HL4.out.turn k5 o5
  rw [← HSB.out] at L5
  obtain ⟨Od, L6, _⟩ := L5.dev
  rw [HD1.out]
  have C6 := copen_some L6.c L6.hi (by rw [HCB.out]; decide) 2 1 1 1 HO1.out ⟨by decide, by decide, by decide, by decide⟩ (by decide) [97] HO2.out (by rw [need_a]) HO4.out
  have HC6 := hide C6
  have HL6 := hide L6
  clear k5 o5 L5 L6 C6
  go_wp2_with fail
  refine HC6.out.mono ?_
  rintro e w7 ⟨p7, v7, rfl, t7, k7, b7⟩
  obtain ⟨a7, c7, hv7⟩ := t7.form
  subst hv7
  have HB7 := hide (HL6.out.bel.trans (b7.mono HL6.out.bel.size))
  have es : strOfNums [97] = ⟨#[97]⟩ := by decide
  have hcv : (convert 23 9 (.slice a7 1 c7)).run Try.prog w7 = .ok (.string ⟨#[97]⟩) w7 := by rw [← es]; exact conv_tld t7
  clear t7 k7 b7 es
  go_wp2
  go_ret
  exact ⟨rfl, HB7.out⟩
end Go.Proofs.Ytcmblfhghebjjaa
