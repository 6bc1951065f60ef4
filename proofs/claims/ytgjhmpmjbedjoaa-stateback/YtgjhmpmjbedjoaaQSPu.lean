/- States as bytes, pure; one ref, one Made more behind a row of bytes. Over the translation. -/
import Derived.Test.YtgjhmpmjbedjoaaQSSt
import Derived.Test.YtgjhmpmjbedjoaaQCPv
namespace Go.Proofs.Ytgjhmpmjbedjoaa
open Go.RowKit Apo
def rfB (r : Rf) : List Int := (enc r.n.size ++ nums r.n) ++ flB r.t ++ enc r.i.toNat
def mdB (m : Mk) : List Int := enc m.id.toNat ++ enc m.ch.toNat
def n4 (s : Sv) : List Int := [s.wk, s.nx, s.pd, (s.rf.length : Int)]
noncomputable def stB (s : Sv) : List Int := (enc s.hd.size ++ nums s.hd) ++ (n4 s).flatMap (fun z => enc z.toNat) ++ s.rf.flatMap rfB ++ enc s.md.length ++ s.md.flatMap mdB ++ (enc (putC s.cl).1.length ++ (putC s.cl).1)
open Classical in
noncomputable def putS (s : Sv) : List Int × Int := if stateE s ≠ 0 ∨ (putC s.cl).2 ≠ 0 then ([], 150) else (stB s, 0)
open Classical in
theorem stateE_zero {s : Sv} (h : stateE s = 0) : (∀ i r, s.rf[i]? = some r → refB s i r = false) ∧ (∀ i m, s.md[i]? = some m → mkB s i m = false) ∧ finB s = false := by
  unfold stateE at h
  split at h
  · cases h
  · rename_i q
    refine ⟨fun i r hi => ?_, fun i m hi => ?_, ?_⟩
    · cases hb : refB s i r with
      | false => rfl
      | true => exact absurd (.inl ⟨i, r, hi, hb⟩) q
    · cases hb : mkB s i m with
      | false => rfl
      | true => exact absurd (.inr (.inl ⟨i, m, hi, hb⟩)) q
    · cases hb : finB s with
      | false => rfl
      | true => exact absurd (.inr (.inr hb)) q
/-- a state that may be is small -/
theorem stateE_small {s : Sv} (h : stateE s = 0) : s.hd.size ≤ 20 ∧ s.rf.length ≤ 40 ∧ s.md.length ≤ 200 ∧ (∀ r ∈ s.rf, r.n.size ≤ 20) ∧ clashE s.cl = 0 := by
  obtain ⟨h1, h2, h3⟩ := stateE_zero h
  have hn : ∀ r ∈ s.rf, r.n.size ≤ 20 := fun r hr => by
    obtain ⟨i, hi⟩ := List.getElem?_of_mem hr
    have := h1 i r hi
    have hnm : nameM r.n = true := by
      cases q : nameM r.n with
      | true => rfl
      | false => rw [refB_name q] at this; cases this
    have hs : r.n.size ≤ 20 := by
      unfold nameM at hnm
      simp only [Bool.and_eq_true, decide_eq_true_eq] at hnm
      exact hnm.2.2
    exact hs
  unfold finB at h3
  simp only [Bool.or_eq_false_iff, Bool.not_eq_false', bne_eq_false_iff_eq, decide_eq_false_iff_not] at h3
  obtain ⟨⟨⟨⟨⟨⟨a1, a2⟩, a3⟩, a4⟩, _⟩, _⟩, a7⟩ := h3
  refine ⟨?_, by omega, by omega, hn, by simpa using a7⟩
  unfold headB at a1
  rw [List.any_eq_true] at a1
  obtain ⟨r, hr, hq⟩ := a1
  unfold hdB at hq
  simp only [Bool.and_eq_true, decide_eq_true_eq] at hq
  rw [← hq.1]
  exact hn r hr
theorem putC_zero {l : List Cl} (h : (putC l).2 = 0) : (putC l).1.length ≤ 1000010 := by
  have e := h
  unfold putC at e
  split at e
  · rename_i q; exact absurd e q
  · rename_i q
    split at e
    · cases e
    · rename_i q2
      have hs := clashE_size (by simpa using q)
      have hx : putC l = (clsB l, 0) := by unfold putC; rw [if_neg q, if_neg q2]
      rw [hx]
      unfold clsB
      have h1 : (l.flatMap clB).length ≤ 1000 * l.length := flat_lenC (fun c hc => by obtain ⟨q1, q2, q3, q4⟩ := hs c hc; exact clB_len2 q1 q2 q3 q4)
      have h2 := enc_len l.length
      simp only [List.length_append]
      omega
theorem rfB_len {r : Rf} (h : r.n.size ≤ 20) : (rfB r).length ≤ 60 := by
  have h1 := enc_len r.n.size
  have h2 := enc_len r.i.toNat
  unfold rfB
  simp only [List.length_append, nums_length, flB_len]
  omega
theorem mdB_len (m : Mk) : (mdB m).length ≤ 20 := by
  have h1 := enc_len m.id.toNat
  have h2 := enc_len m.ch.toNat
  unfold mdB
  simp only [List.length_append]
  omega
theorem flat_lenG {α : Type} {f : α → List Int} {c : Nat} : ∀ {l : List α}, (∀ x ∈ l, (f x).length ≤ c) → (l.flatMap f).length ≤ c * l.length
  | [], _ => by simp
  | x :: l, h => by
    have h1 := h x (by simp)
    have h2 := flat_lenG (l := l) (fun y hy => h y (by simp [hy]))
    rw [List.flatMap_cons, List.length_append, List.length_cons, Nat.mul_succ]
    omega
theorem groG {O : Nat → Prop} {a b c : World} {e : TypeId} {v : Value} {n : Nat} {xs : List Value} (h : Row (Gro (Gro O a b) b c) c e 1 v n xs) (o1 : a.heap.size ≤ b.heap.size) (o2 : b.heap.size ≤ c.heap.size) : Row (Gro O a c) c e 1 v n xs :=
  h.mono (fun i y => by
    rcases y with (y | y) | y
    · exact .inl y
    · exact .inr ⟨y.1, by omega⟩
    · exact .inr ⟨by omega, y.2⟩)
/-- a ref's bytes, where the ref is read beside them -/
theorem tfn {O : Nat → Prop} (v : Value) (cur : List Int) (r : Rf) (W : World) (q : Nat) (hr : Row O W 5 1 v cur.length (cur.map (Value.int .u8))) (hl : cur.length ≤ 10000000) (hs : r.n.size ≤ 1000) (hi : u64B r.i) (hk : Ob W q 57 [.string r.n, .bool r.t, .int .u64 r.i]) (hq : ¬ O q) :
    Calls Try.prog 27 #[v, .string r.n] W fun e w5 => ∃ ga gn gc, e = .returned (.slice ga gn gc) ∧ (w5.cell? ⟨q, 0, none⟩ = some (.string r.n) ∧ w5.cell? ⟨q, 1, none⟩ = some (.bool r.t) ∧ w5.cell? ⟨q, 2, none⟩ = some (.int .u64 r.i)) ∧
      Hid (Calls Try.prog 29 #[.slice ga gn gc, .bool r.t] w5 fun e w6 => ∃ ka kn kc, e = .returned (.slice ka kn kc) ∧ (w6.cell? ⟨q, 0, none⟩ = some (.string r.n) ∧ w6.cell? ⟨q, 1, none⟩ = some (.bool r.t) ∧ w6.cell? ⟨q, 2, none⟩ = some (.int .u64 r.i)) ∧
      Hid (Calls Try.prog 28 #[.slice ka kn kc, .int .u64 r.i] w6 fun e w7 => ∃ la ln lc, e = .returned (.slice la ln lc) ∧ (w7.cell? ⟨q, 0, none⟩ = some (.string r.n) ∧ w7.cell? ⟨q, 1, none⟩ = some (.bool r.t) ∧ w7.cell? ⟨q, 2, none⟩ = some (.int .u64 r.i)) ∧ Hid (Row (Gro O W w7) w7 5 1 (.slice la ln lc) (cur ++ rfB r).length ((cur ++ rfB r).map (Value.int .u8)) ∧ Onl O W w7))) := by
  have hlt := hk.lt
  have hel := enc_len r.n.size
  refine (text_o v cur r.n W hr (by omega)).mono ?_
  rintro en w5 ⟨v5, rfl, o5, f5⟩
  obtain ⟨ga, gc, hg, _⟩ := o5.form
  subst hg
  have k5 := hk.onl f5 hq
  refine ⟨_, _, _, rfl, ⟨k5.cell 0, k5.cell 1, k5.cell 2⟩, hide ?_⟩
  refine (flag_o _ (cur ++ (enc r.n.size ++ nums r.n)) r.t w5 o5 (by simp only [List.length_append, nums_length]; omega)).mono ?_
  rintro en w6 ⟨v6, rfl, o6, f6⟩
  obtain ⟨ka, kc, hg, _⟩ := o6.form
  subst hg
  have s5 := f5.size
  have k6 := k5.onl f6 (fun y => by
    rcases y with y | y
    · exact hq y
    · omega)
  have o6' := groG o6 f5.size f6.size
  have f56 : Onl O W w6 := f5.more f6 (fun i y => y.elim .inl (fun t => .inr t.1))
  refine ⟨_, _, _, rfl, ⟨k6.cell 0, k6.cell 1, k6.cell 2⟩, hide ?_⟩
  refine (num_o _ (cur ++ (enc r.n.size ++ nums r.n) ++ flB r.t) r.i w6 o6' (by simp only [List.length_append, nums_length, flB_len]; omega) hi.1 hi.2).mono ?_
  rintro en w7 ⟨v7, rfl, o7, f7⟩
  obtain ⟨la, lc, hg, _⟩ := o7.form
  subst hg
  have s6 := f6.size
  have k7 := k6.onl f7 (fun y => by
    rcases y with y | y
    · exact hq y
    · omega)
  have e : cur ++ (enc r.n.size ++ nums r.n) ++ flB r.t ++ enc r.i.toNat = cur ++ rfB r := by unfold rfB; simp only [List.append_assoc]
  rw [e] at o7 ⊢
  exact ⟨_, _, _, rfl, ⟨k7.cell 0, k7.cell 1, k7.cell 2⟩, hide ⟨groG o7 f56.size f7.size, f56.more f7 (fun i y => y.elim .inl (fun t => .inr t.1))⟩⟩
/-- a Made's bytes -/
theorem nn2 {O : Nat → Prop} (v : Value) (cur : List Int) (m : Mk) (W : World) (q : Nat) (hr : Row O W 5 1 v cur.length (cur.map (Value.int .u8))) (hl : cur.length ≤ 10000000) (hi : u64B m.id ∧ u64B m.ch) (hk : Ob W q 60 [.int .u64 m.id, .int .u64 m.ch]) (hq : ¬ O q) :
    Calls Try.prog 28 #[v, .int .u64 m.id] W fun e w5 => ∃ ga gn gc, e = .returned (.slice ga gn gc) ∧ (w5.cell? ⟨q, 0, none⟩ = some (.int .u64 m.id) ∧ w5.cell? ⟨q, 1, none⟩ = some (.int .u64 m.ch)) ∧
      Hid (Calls Try.prog 28 #[.slice ga gn gc, .int .u64 m.ch] w5 fun e w6 => ∃ ka kn kc, e = .returned (.slice ka kn kc) ∧ (w6.cell? ⟨q, 0, none⟩ = some (.int .u64 m.id) ∧ w6.cell? ⟨q, 1, none⟩ = some (.int .u64 m.ch)) ∧ Hid (Row (Gro O W w6) w6 5 1 (.slice ka kn kc) (cur ++ mdB m).length ((cur ++ mdB m).map (Value.int .u8)) ∧ Onl O W w6)) := by
  have hlt := hk.lt
  have hel := enc_len m.id.toNat
  refine (num_o v cur m.id W hr (by omega) hi.1.1 hi.1.2).mono ?_
  rintro en w5 ⟨v5, rfl, o5, f5⟩
  obtain ⟨ga, gc, hg, _⟩ := o5.form
  subst hg
  have k5 := hk.onl f5 hq
  refine ⟨_, _, _, rfl, ⟨k5.cell 0, k5.cell 1⟩, hide ?_⟩
  refine (num_o _ (cur ++ enc m.id.toNat) m.ch w5 o5 (by simp only [List.length_append]; omega) hi.2.1 hi.2.2).mono ?_
  rintro en w6 ⟨v6, rfl, o6, f6⟩
  obtain ⟨ka, kc, hg, _⟩ := o6.form
  subst hg
  have s5 := f5.size
  have k6 := k5.onl f6 (fun y => by
    rcases y with y | y
    · exact hq y
    · omega)
  have e : cur ++ enc m.id.toNat ++ enc m.ch.toNat = cur ++ mdB m := by unfold mdB; simp only [List.append_assoc]
  rw [e] at o6 ⊢
  exact ⟨_, _, _, rfl, ⟨k6.cell 0, k6.cell 1⟩, hide ⟨groG o6 f5.size f6.size, f5.more f6 (fun i y => y.elim .inl (fun t => .inr t.1))⟩⟩
end Go.Proofs.Ytgjhmpmjbedjoaa
