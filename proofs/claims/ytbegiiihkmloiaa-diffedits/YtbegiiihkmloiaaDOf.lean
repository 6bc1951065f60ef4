/- diff.Of, over the translation. -/
import Derived.Test.YtbegiiihkmloiaaDGe
namespace Go.Proofs.Ytbegiiihkmloiaa
open Go.RowKit Apo
/-- the next entry's key, if there is one -/
def headK : List En → ByteArray × Bool
  | [] => (⟨#[]⟩, false)
  | e :: _ => (e.k, true)
/-- the lesser of two -/
def leastK : List En → List En → ByteArray × Bool
  | [], fs => headK fs
  | e :: _, [] => (e.k, true)
  | e :: _, f :: _ => if sLt f.k e.k = true then (f.k, true) else (e.k, true)
open Classical in
/-- what a side has of a key, and what is left -/
noncomputable def takeK : List En → ByteArray → (Bool × ByteArray) × List En
  | [], _ => ((false, ⟨#[]⟩), [])
  | e :: es, key => if e.k = key then ((true, e.v), es) else ((false, ⟨#[]⟩), e :: es)
open Classical in
noncomputable def chOf (key : ByteArray) (v w : Bool × ByteArray) : List Ch := if v = w then [] else [⟨key, v.1, v.2, w.1, w.2⟩]
inductive OfR : List En → List En → List Ch → Prop where
  | done : OfR [] [] []
  | step {es fs : List En} {key : ByteArray} {cs : List Ch} : leastK es fs = (key, true) → OfR (takeK es key).2 (takeK fs key).2 cs → OfR es fs (chOf key (takeK es key).1 (takeK fs key).1 ++ cs)
/-- a cursor in memory; its entries lie below B, the cursor doesn't -/
def Cur (B : Nat) (w : World) (p : Nat) (es : List En) : Prop := B ≤ p ∧ ∃ a c, Ob w p 43 [.slice a es.length c] ∧ RdEn w a es ∧ es.length ≤ c ∧ c ≤ maxLen ∧ (∀ x, a = some x → es ≠ [] → x.block < B)
theorem Cur.onl {B : Nat} {w w' : World} {p : Nat} {es : List En} {O : Nat → Prop} (h : Cur B w p es) (o : Onl O w w') (hp : ¬ O p) (hO : ∀ i, O i → B ≤ i) : Cur B w' p es := by
  obtain ⟨hB, a, c, k, r, h1, h3, h2⟩ := h
  refine ⟨hB, a, c, k.onl o hp, fun i e hi => ?_, h1, h3, h2⟩
  obtain ⟨g, of, e1, e2, e3⟩ := r i e hi
  have hg := World.block_lt_of_cell? _ _ e2
  have hgB : g < B := h2 _ e1 (fun q => by rw [q] at hi; simp at hi)
  have hb := o.block g hg (fun q => by have := hO g q; omega)
  exact ⟨g, of, e1, (World.cell?_of_block (a := ⟨g, of + i * 2, none⟩) hb).trans e2, (World.cell?_of_block (a := ⟨g, of + i * 2 + 1, none⟩) hb).trans e3⟩
set_option maxRecDepth 100000 in
theorem dkey_any {B : Nat} {w : World} {p : Nat} {es : List En} (h : Cur B w p es) : Calls Try.prog 21 #[.pointer (some ⟨p, 0, none⟩)] w fun e w' => e = .returned (.tuple #[.string (headK es).1, .bool (headK es).2]) ∧ w = w' := by
  obtain ⟨_, a, c, k, r, _, _, _⟩ := h
  have y0 := k.cell 0
  simp only [List.getElem?_cons_zero] at y0
  cases es with
  | nil =>
    simp only [List.length_nil] at y0
    clear r k
    go_enter Try.func21, Try.ntmps21
    go_wp2
    go_ret2
    exact ⟨rfl, rfl⟩
  | cons e es =>
    obtain ⟨g, of, rfl, q1, q2⟩ := r 0 e rfl
    simp only [List.length_cons, Nat.zero_mul, Nat.add_zero] at y0 q1
    have hz : (((es.length + 1 : Nat) : Int) == 0) = false := by simp; omega
    clear r k q2
    go_enter Try.func21, Try.ntmps21
    go_wp2
    go_ret2
    exact ⟨rfl, rfl⟩
set_option maxRecDepth 100000 in
theorem fin_take {W : World} {g : Nat} {c0 c1 : Value} {tmps : Array Value} {Q : Ending → World → Prop} (k : Ob W g 49 [c0, c1]) (h4 : tmps.getD 4 undef = .pointer (some ⟨g, 0, none⟩)) (hq : Q (.returned (.agg #[c0, c1])) W) :
    bodyPost Try.prog Try.f19 Q Exit.ret { tmps := tmps, defers := [] } W := by
  have hl := run_loadVar_row (P := Try.prog) W g 49 49 #[c0, c1] (0, 0) _ k Try.underlying49 rfl (by rw [size_side]; rfl)
  have h4' : tmps[4]?.getD undef = .pointer (some ⟨g, 0, none⟩) := by simpa using h4
  refine bodyPost_ret (v := .agg #[c0, c1]) ?_ rfl hq
  simp [results, Try.results19, asAddr, h4', hl]
def TkP (B : Nat) (w : World) (p : Nat) (es : List En) (key : ByteArray) (e : Ending) (w' : World) : Prop := e = .returned (.agg #[.bool (takeK es key).1.1, .string (takeK es key).1.2]) ∧ Cur B w' p (takeK es key).2 ∧ Onl (fun j => j = p) w w'
set_option maxRecDepth 100000 in
set_option maxHeartbeats 4000000 in
theorem dtake_any {B : Nat} {w : World} {p : Nat} {es : List En} (h : Cur B w p es) (key : ByteArray) (hl : es.length ≤ 1000000) : Calls Try.prog 19 #[.pointer (some ⟨p, 0, none⟩), .string key] w (TkP B w p es key) := by
  obtain ⟨W0, hW0⟩ : ∃ W0, W0 = w.alloc (.cells #[.bool false, .string ⟨#[]⟩] 49) := ⟨_, rfl⟩
  have b0 : Below w.heap.size w W0 := by rw [hW0]; exact (Below.refl _ w).alloc (Nat.le_refl _) _
  have k0 : Ob W0 w.heap.size 49 [.bool false, .string ⟨#[]⟩] := by rw [hW0]; exact Ob.new w [.bool false, .string ⟨#[]⟩] 49
  have hcur : Cur B W0 p es := h.onl (O := fun _ => False) (Onl.ofBelow b0) (fun q => q) (fun _ q => q.elim)
  have hpl : p < w.heap.size := by obtain ⟨_, a, c, k, _⟩ := h; exact k.lt
  have hBp : B ≤ p := h.1
  have CK := dkey_any hcur
  have z0 := k0.cell 0
  have z1 := k0.cell 1
  have f0 := k0.frozen 0
  have f1 := k0.frozen 1
  simp only [List.getElem?_cons_zero, List.getElem?_cons_succ] at z0 z1
  have HCK := hide CK
  clear CK
  by_cases hno : ∀ e r, es = e :: r → e.k ≠ key
  · have htk : takeK es key = ((false, ⟨#[]⟩), es) := by
      cases es with
      | nil => rfl
      | cons e r => exact if_neg (hno e r rfl)
    obtain ⟨W2, hW2⟩ : ∃ W2, W2 = (W0.setCell ⟨w.heap.size, 0, none⟩ (.bool false)).setCell ⟨w.heap.size, 1, none⟩ (.string ⟨#[]⟩) := ⟨_, rfl⟩
    have o2 : Onl (fun j => j = w.heap.size) W0 W2 := by rw [hW2]; exact ((Onl.refl (fun j => j = w.heap.size) W0).set (p := w.heap.size) (.inl rfl) _).set (p := w.heap.size) (.inl rfl) _
    have k2 : Ob W2 w.heap.size 49 [.bool false, .string ⟨#[]⟩] := by rw [hW2]; exact (k0.set 0 _).set 1 _
    have hF : TkP B w p es key (.returned (.agg #[.bool false, .string ⟨#[]⟩])) W2 := by
      unfold TkP
      rw [htk]
      exact ⟨rfl, hcur.onl o2 (by omega) (fun i hi => by omega), (Onl.ofBelow b0).more o2 (fun i q => .inr (by omega))⟩
    have HF := hide hF
    have HK2 := hide k2
    obtain ⟨kk, bb, hkb, htest⟩ : ∃ kk bb, headK es = (kk, bb) ∧ (bb = false ∨ (kk.toList == key.toList) = false) := by
      cases es with
      | nil => exact ⟨_, _, rfl, .inl rfl⟩
      | cons e r =>
        refine ⟨_, _, rfl, .inr ?_⟩
        cases q : (e.k.toList == key.toList) with
        | false => rfl
        | true => exact absurd (bytes_of_list (by simpa using q)) (hno e r rfl)
    rw [hkb] at HCK
    rw [hW2] at HF HK2
    clear hW2 o2 k2 hF htk hno hkb hcur k0 b0 h
    go_enter Try.func19, Try.ntmps19
    go_wp2_with fail
    rw [← hW0]
    clear hW0
    refine HCK.out.mono ?_
    rintro e w2 ⟨rfl, rfl⟩
    rcases htest with rfl | htest
    · go_wp2
      exact fin_take HK2.out rfl HF.out
    · cases bb
      · go_wp2
        exact fin_take HK2.out rfl HF.out
      · go_wp2
        exact fin_take HK2.out rfl HF.out
  · obtain ⟨e, r, rfl, hk⟩ : ∃ e r, es = e :: r ∧ e.k = key := by
      cases es with
      | nil => exact absurd (fun e r q => by cases q) hno
      | cons e r =>
        refine ⟨e, r, rfl, ?_⟩
        by_cases q : e.k = key
        · exact q
        · exact absurd (fun e' r' q' => by cases q'; exact q) hno
    have htk : takeK (e :: r) key = ((true, e.v), r) := if_pos hk
    obtain ⟨_, a, c, ob, rd, h1, h3, h2⟩ := hcur
    obtain ⟨g, of, rfl, q1, q2⟩ := rd 0 e rfl
    have hgB : g < B := h2 _ rfl (by simp)
    have y0 := ob.cell 0
    have yf := ob.frozen 0
    simp only [List.length_cons, List.getElem?_cons_zero, Nat.zero_mul, Nat.add_zero] at y0 q1 q2 hl h1
    obtain ⟨n, hn⟩ : ∃ n, n = r.length := ⟨_, rfl⟩
    obtain ⟨A, hA⟩ : ∃ A : Option Addr, A = (if c = 1 then some ⟨g, of, none⟩ else some ⟨g, of + 2, none⟩) := ⟨_, rfl⟩
    obtain ⟨W1, hW1⟩ : ∃ W1, W1 = W0.setCell ⟨p, 0, none⟩ (.slice A n (c - 1)) := ⟨_, rfl⟩
    obtain ⟨W2, hW2⟩ : ∃ W2, W2 = (W1.setCell ⟨w.heap.size, 0, none⟩ (.bool true)).setCell ⟨w.heap.size, 1, none⟩ (.string e.v) := ⟨_, rfl⟩
    have o1 : Onl (fun j => j = p) W0 W1 := by rw [hW1]; exact (Onl.refl (fun j => j = p) W0).set (p := p) (.inl rfl) _
    have o2 : Onl (fun j => j = w.heap.size) W1 W2 := by rw [hW2]; exact ((Onl.refl (fun j => j = w.heap.size) W1).set (p := w.heap.size) (.inl rfl) _).set (p := w.heap.size) (.inl rfl) _
    have k1 : Ob W1 w.heap.size 49 [.bool false, .string ⟨#[]⟩] := k0.onl o1 (by omega)
    have k2 : Ob W2 w.heap.size 49 [.bool true, .string e.v] := by rw [hW2]; exact (k1.set 0 _).set 1 _
    have ob1 : Ob W1 p 43 [.slice A n (c - 1)] := by rw [hW1]; exact ob.set 0 _
    have hrd : RdEn W1 A r := by
      intro i x hi
      obtain ⟨g', of', e1, e2, e3⟩ := rd (i + 1) x (by simpa using hi)
      injection e1 with e1
      injection e1 with e1 e1'
      subst e1 e1'
      have hil := (List.getElem?_eq_some_iff.1 hi).1
      have hc1 : c ≠ 1 := by omega
      rw [if_neg hc1] at hA
      have hg := World.block_lt_of_cell? _ _ e2
      have hb := o1.block g hg (by simp only at hg; omega)
      refine ⟨g, of + 2, hA, ?_, ?_⟩
      · rw [show of + 2 + i * 2 = of + (i + 1) * 2 by omega]
        exact (World.cell?_of_block (a := ⟨g, of + (i + 1) * 2, none⟩) hb).trans e2
      · rw [show of + 2 + i * 2 + 1 = of + (i + 1) * 2 + 1 by omega]
        exact (World.cell?_of_block (a := ⟨g, of + (i + 1) * 2 + 1, none⟩) hb).trans e3
    have hcur1 : Cur B W1 p r := by
      refine ⟨hBp, A, c - 1, by rw [← hn]; exact ob1, hrd, by omega, by omega, fun x hx _ => ?_⟩
      rw [hA] at hx
      split at hx
      · cases hx; exact hgB
      · cases hx; exact hgB
    have hF : TkP B w p (e :: r) key (.returned (.agg #[.bool true, .string e.v])) W2 := by
      unfold TkP
      rw [htk]
      refine ⟨rfl, hcur1.onl o2 (by omega) (fun i hi => by omega), ?_⟩
      exact ((Onl.ofBelow b0).trans o1).more o2 (fun i q => .inr (by omega))
    have z0' := k1.cell 0
    have z1' := k1.cell 1
    have f0' := k1.frozen 0
    have f1' := k1.frozen 1
    simp only [List.getElem?_cons_zero, List.getElem?_cons_succ] at z0' z1'
    have HF := hide hF
    have HK2 := hide k2
    have hd : (e.k.toList == key.toList) = true := by rw [hk]; simp
    have hne : (e.k.toList != key.toList) = false := by rw [hk]; simp
    have hc1 : 1 ≤ c := by omega
    rw [hW2, hW1] at HF HK2
    rw [hW1] at z0' z1' f0' f1'
    rw [← hn] at y0 hl h1
    have h64 : maxLen ≤ 9223372036854775807 := by decide
    clear hW2 hW1 o1 o2 k1 k2 ob1 hrd hcur1 hF htk hno ob rd h2 k0 b0 h z0 z1 f0 f1 hn hk
    go_enter Try.func19, Try.ntmps19
    go_wp2_with fail
    rw [← hW0]
    clear hW0
    refine HCK.out.mono ?_
    rintro e' w2 ⟨rfl, rfl⟩
    simp only [headK]
    by_cases hc2 : c = 1
    · subst hc2
      obtain rfl : n = 0 := by omega
      simp only [if_true] at hA
      subst hA
      simp only [Nat.sub_self] at HF HK2 z0' z1' f0' f1'
      go_wp2
      exact fin_take HK2.out rfl HF.out
    · rw [if_neg hc2] at hA
      subst hA
      go_wp2
      exact fin_take HK2.out rfl HF.out
set_option maxRecDepth 100000 in
set_option maxHeartbeats 2000000 in
theorem dleast_any {B : Nat} {w : World} {p q : Nat} {es fs : List En} (h : Cur B w p es) (h' : Cur B w q fs) : Calls Try.prog 20 #[.func (.func 21) #[.pointer (some ⟨p, 0, none⟩)] #[], .func (.func 21) #[.pointer (some ⟨q, 0, none⟩)] #[]] w fun e w' => e = .returned (.tuple #[.string (leastK es fs).1, .bool (leastK es fs).2]) ∧ w = w' := by
  have C1 := dkey_any h
  have C2 := dkey_any h'
  clear h h'
  have HC1 := hide C1
  have HC2 := hide C2
  clear C1 C2
  cases es with
  | nil =>
    cases fs with
    | nil =>
      simp only [headK] at HC1 HC2
      go_enter Try.func20, Try.ntmps20
      go_wp2_with fail
      refine HC1.out.mono ?_
      rintro e' w2 ⟨rfl, rfl⟩
      go_wp2_with fail
      refine HC2.out.mono ?_
      rintro e' w2 ⟨rfl, rfl⟩
      go_wp2
      go_ret2
      exact ⟨rfl, rfl⟩
    | cons f fs =>
      simp only [headK] at HC1 HC2
      go_enter Try.func20, Try.ntmps20
      go_wp2_with fail
      refine HC1.out.mono ?_
      rintro e' w2 ⟨rfl, rfl⟩
      go_wp2_with fail
      refine HC2.out.mono ?_
      rintro e' w2 ⟨rfl, rfl⟩
      go_wp2
      go_ret2
      exact ⟨rfl, rfl⟩
  | cons e es =>
    cases fs with
    | nil =>
      simp only [headK] at HC1 HC2
      go_enter Try.func20, Try.ntmps20
      go_wp2_with fail
      refine HC1.out.mono ?_
      rintro e' w2 ⟨rfl, rfl⟩
      go_wp2_with fail
      refine HC2.out.mono ?_
      rintro e' w2 ⟨rfl, rfl⟩
      go_wp2
      go_ret2
      exact ⟨rfl, rfl⟩
    | cons f fs =>
      simp only [headK] at HC1 HC2
      cases hb : sLt f.k e.k
      · have hl : leastK (e :: es) (f :: fs) = (e.k, true) := by simp [leastK, hb]
        have hb' : Op.bytesLess f.k.toList e.k.toList = false := hb
        rw [hl]
        clear hl hb
        go_enter Try.func20, Try.ntmps20
        go_wp2_with fail
        refine HC1.out.mono ?_
        rintro e' w2 ⟨rfl, rfl⟩
        go_wp2_with fail
        refine HC2.out.mono ?_
        rintro e' w2 ⟨rfl, rfl⟩
        go_wp2
        go_ret2
        exact ⟨rfl, rfl⟩
      · have hl : leastK (e :: es) (f :: fs) = (f.k, true) := by simp [leastK, hb]
        have hb' : Op.bytesLess f.k.toList e.k.toList = true := hb
        rw [hl]
        clear hl hb
        go_enter Try.func20, Try.ntmps20
        go_wp2_with fail
        refine HC1.out.mono ?_
        rintro e' w2 ⟨rfl, rfl⟩
        go_wp2_with fail
        refine HC2.out.mono ?_
        rintro e' w2 ⟨rfl, rfl⟩
        go_wp2
        go_ret2
        exact ⟨rfl, rfl⟩
end Go.Proofs.Ytbegiiihkmloiaa
