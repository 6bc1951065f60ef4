/- The program's device in memory, and what its small functions do, over the translation. -/
import Derived.Test.YtgkgbemliinajaaRows
import Derived.Test.YtgkgbemliinajaaSd
import Derived.Test.YtgkgbemliinajaaAgg
import Derived.Maps.OwnSet
import Derived.WalkKit
import Derived.WalkSpells
import Derived.WalkLawsBesides
import Derived.Handy
namespace Go.Proofs.Ytgkgbemliinajaa
open Go.RowKit Apo Go.Maps

/-- block m is the map of the faults -/
structure FMap (w : World) (m : Nat) (bad : List Bool) : Prop where
  own : ∃ D : DataW Unit, w.ownsMap Try.prog 3 unitElem m (bad.count true) D ∧ (∀ i, i < bad.length → Maps.has D (.int .i64 i) = bad.getD i false) ∧ Maps.size D = bad.count true

/-- what lies in memory of the program's device, by its parts -/
structure CParts (O : Nat → Prop) (w : World) (p : Nat) (st : Sd) (vK vC : Value) (m : Nat) (lf : Int) : Prop where
  ob : Ob w p 62 [.bool true, vK, vC, .map (some m), .bool (decide (0 ≤ st.left)), .int .i64 lf, .bool st.dead]
  own : O p
  sS : Row O w 65 32 vK st.S.length (scells st.S)
  sC : Row O w 67 33 vC st.C.length (wcells st.C)
  mO : O m
  mF : FMap w m st.bad
  hlf : 0 ≤ st.left → lf = st.left
  ok : OkS st
def CDev (O : Nat → Prop) (w : World) (p : Nat) (st : Sd) : Prop := ∃ vK vC m lf, CParts O w p st vK vC m lf

theorem CDev.ok {O : Nat → Prop} {w : World} {p : Nat} {st : Sd} (h : CDev O w p st) : OkS st := by obtain ⟨_, _, _, _, h⟩ := h; exact h.ok
theorem CDev.own {O : Nat → Prop} {w : World} {p : Nat} {st : Sd} (h : CDev O w p st) : O p := by obtain ⟨_, _, _, _, h⟩ := h; exact h.own
theorem FMap.lt {w : World} {m : Nat} {bad : List Bool} (h : FMap w m bad) : m < w.heap.size := by obtain ⟨D, h, _⟩ := h.own; exact h.lt
theorem FMap.onl {F : Nat → Prop} {w w' : World} {m : Nat} {bad : List Bool} (h : FMap w m bad) (ho : Onl F w w') (hF : ¬ F m) : FMap w' m bad := by
  obtain ⟨D, h1, h2⟩ := h.own
  have hlt := h1.lt
  obtain ⟨es, clock, hb, q⟩ := h1
  exact ⟨D, ⟨es, clock, (ho.block m hlt hF).trans hb, q⟩, h2⟩
theorem FMap.ne {w : World} {m : Nat} {bad : List Bool} (h : FMap w m bad) {q : Nat} {t : TypeId} {cs : List Value} (k : Ob w q t cs) : m ≠ q := by
  rintro rfl
  obtain ⟨D, ⟨es, clock, hb, _⟩, _⟩ := h.own
  unfold Ob at k
  rw [hb] at k
  cases k
theorem FMap.neRow {O : Nat → Prop} {w : World} {m : Nat} {bad : List Bool} (h : FMap w m bad) {e : TypeId} {size n : Nat} {v : Value} {xs : List Value} (k : Row O w e size v n xs) : v.ownBlock ≠ some m := by
  intro hg
  rcases k.1.2 with ⟨rfl, _⟩ | ⟨g1, _, _, rfl, _, hh, _⟩
  · simp [Value.ownBlock] at hg
  · simp only [Value.ownBlock, Option.some.injEq] at hg
    subst hg
    obtain ⟨D, ⟨es, clock, hb, _⟩, _⟩ := h.own
    rw [hb] at hh
    cases hh
theorem CParts.onl {O F : Nat → Prop} {w w' : World} {p : Nat} {st : Sd} {vK vC : Value} {m : Nat} {lf : Int} (h : CParts O w p st vK vC m lf) (ho : Onl F w w') (hF : ∀ i, O i → ¬ F i) : CParts O w' p st vK vC m lf :=
  ⟨h.ob.onl ho (hF p h.own), h.own, h.sS.onl ho (fun g hg => hF g (h.sS.2 g hg)), h.sC.onl ho (fun g hg => hF g (h.sC.2 g hg)), h.mO, h.mF.onl ho (hF m h.mO), h.hlf, h.ok⟩
theorem CDev.onl {O F : Nat → Prop} {w w' : World} {p : Nat} {st : Sd} (h : CDev O w p st) (ho : Onl F w w') (hF : ∀ i, O i → ¬ F i) : CDev O w' p st := by
  obtain ⟨_, _, _, _, h⟩ := h
  exact ⟨_, _, _, _, h.onl ho hF⟩
theorem CParts.mono {O O' : Nat → Prop} {w : World} {p : Nat} {st : Sd} {vK vC : Value} {m : Nat} {lf : Int} (h : CParts O w p st vK vC m lf) (hO : ∀ i, O i → O' i) : CParts O' w p st vK vC m lf :=
  ⟨h.ob, hO p h.own, h.sS.mono hO, h.sC.mono hO, hO m h.mO, h.mF, h.hlf, h.ok⟩
theorem CDev.mono {O O' : Nat → Prop} {w : World} {p : Nat} {st : Sd} (h : CDev O w p st) (hO : ∀ i, O i → O' i) : CDev O' w p st := by
  obtain ⟨_, _, _, _, h⟩ := h
  exact ⟨_, _, _, _, h.mono hO⟩
theorem CParts.kept {O : Nat → Prop} {w w' : World} {p : Nat} {st : Sd} {vK vC : Value} {m : Nat} {lf : Int} (h : CParts O w p st vK vC m lf) (ho : Onl (fun _ => False) w w') : CParts O w' p st vK vC m lf := h.onl ho (fun _ _ q => q)
/-- the object's own cells are set: the rest stays -/
theorem CParts.reob {O : Nat → Prop} {w w' : World} {p : Nat} {st : Sd} {vK vC : Value} {m : Nat} {lf lf' : Int} (h : CParts O w p st vK vC m lf) (o1 : Onl (fun k => k = p) w w') {st' : Sd} (hS : st'.S = st.S) (hC : st'.C = st.C) (hB : st'.bad = st.bad) (ok : OkS st') (hl : 0 ≤ st'.left → lf' = st'.left)
    (e : Ob w' p 62 [.bool true, vK, vC, .map (some m), .bool (decide (0 ≤ st'.left)), .int .i64 lf', .bool st'.dead]) : CParts O w' p st' vK vC m lf' := by
  refine ⟨e, h.own, ?_, ?_, h.mO, ?_, hl, ok⟩
  · rw [hS]; exact h.sS.onl o1 (fun g hg q => h.sS.apartOb h.ob (by decide) (by rw [hg, q]))
  · rw [hC]; exact h.sC.onl o1 (fun g hg q => h.sC.apartOb h.ob (by decide) (by rw [hg, q]))
  · rw [hB]; exact h.mF.onl o1 (h.mF.ne h.ob)
theorem CParts.setOb {O : Nat → Prop} {w : World} {p : Nat} {st : Sd} {vK vC : Value} {m : Nat} {lf lf' : Int} (h : CParts O w p st vK vC m lf) (i : Nat) (u : Value) {st' : Sd} (hS : st'.S = st.S) (hC : st'.C = st.C) (hB : st'.bad = st.bad) (ok : OkS st') (hl : 0 ≤ st'.left → lf' = st'.left)
    (e : [.bool true, vK, vC, .map (some m), .bool (decide (0 ≤ st.left)), .int .i64 lf, .bool st.dead].set i u = [.bool true, vK, vC, .map (some m), .bool (decide (0 ≤ st'.left)), .int .i64 lf', .bool st'.dead]) : CParts O (w.setCell ⟨p, i, none⟩ u) p st' vK vC m lf' :=
  h.reob (Onl.set (O := fun k => k = p) (Onl.refl _ w) (.inl rfl) u) hS hC hB ok hl (by rw [← e]; exact h.ob.set i u)

set_option maxHeartbeats 400000 in
theorem csize_any {O : Nat → Prop} {w : World} {p : Nat} {st : Sd} (h : CDev O w p st) :
    Calls Try.prog 27 #[.pointer (some ⟨p, 0, none⟩)] w fun e w' => e = .returned (.int .i64 st.S.length) ∧ w = w' := by
  obtain ⟨vK, vC, m, lf, h⟩ := h
  have c1 := h.ob.cell 1
  obtain ⟨sa, scap, hvS, hs1, hs2, hs3⟩ := h.sS.form
  subst hvS
  have hsz := h.ok.size
  simp only [List.getElem?_cons_zero, List.getElem?_cons_succ] at c1
  clear h hs3
  go_enter Try.func27, Try.ntmps27
  go_wp2
  go_ret
  exact ⟨rfl, rfl⟩

set_option maxHeartbeats 400000 in
theorem ccached_any {O : Nat → Prop} {w : World} {p : Nat} {st : Sd} (h : CDev O w p st) :
    Calls Try.prog 26 #[.pointer (some ⟨p, 0, none⟩)] w fun e w' => e = .returned (.int .i64 st.C.length) ∧ w = w' := by
  obtain ⟨vK, vC, m, lf, h⟩ := h
  have c1 := h.ob.cell 2
  obtain ⟨sa, scap, hvS, hs1, hs2, hs3⟩ := h.sC.form
  subst hvS
  simp only [List.getElem?_cons_zero, List.getElem?_cons_succ] at c1
  clear h hs3
  go_enter Try.func26, Try.ntmps26
  go_wp2
  go_ret
  exact ⟨rfl, rfl⟩

set_option maxHeartbeats 400000 in
theorem cdead_any {O : Nat → Prop} {w : World} {p : Nat} {st : Sd} (h : CDev O w p st) :
    Calls Try.prog 25 #[.pointer (some ⟨p, 0, none⟩)] w fun e w' => e = .returned (.bool st.dead) ∧ w = w' := by
  obtain ⟨vK, vC, m, lf, h⟩ := h
  have c1 := h.ob.cell 6
  simp only [List.getElem?_cons_zero, List.getElem?_cons_succ] at c1
  clear h
  go_enter Try.func25, Try.ntmps25
  go_wp2
  go_ret
  exact ⟨rfl, rfl⟩

set_option maxHeartbeats 400000 in
theorem chas_any {O : Nat → Prop} {w : World} {p : Nat} {st : Sd} (h : CDev O w p st) (a : Int) :
    Calls Try.prog 29 #[.pointer (some ⟨p, 0, none⟩), .int .i64 a] w fun e w' => e = .returned (.bool (st.has a)) ∧ w = w' := by
  have H := hide h
  clear h
  by_cases ha : 0 ≤ a
  · have e1 : st.has a = decide (a < (st.S.length : Int)) := by simp [Sd.has, ha]
    rw [e1]
    clear e1
    go_enter Try.func29, Try.ntmps29
    go_wp2_with fail
    refine (csize_any H.out).mono ?_
    rintro e w1 ⟨rfl, rfl⟩
    go_wp2
    go_ret
    exact ⟨rfl, rfl⟩
  · have e1 : st.has a = false := by simp [Sd.has, ha]
    rw [e1]
    clear e1
    go_enter Try.func29, Try.ntmps29
    go_wp2
    go_ret
    exact ⟨rfl, rfl⟩

/-- n, or the nearer of 0 and m -/
def betw (n m : Int) : Int := if n < 0 then 0 else if m < n then m else n
set_option maxHeartbeats 400000 in
theorem cbetween_any {w : World} (n m : Int) (hm : 0 < m) :
    Calls Try.prog 28 #[.int .i64 n, .int .i64 m] w fun e w' => e = .returned (.int .i64 (betw n m)) ∧ w = w' := by
  by_cases h1 : m < n
  · have e1 : betw n m = m := by unfold betw; split <;> omega
    rw [e1]
    clear e1
    go_enter Try.func28, Try.ntmps28
    go_wp2
    go_ret
    exact ⟨rfl, rfl⟩
  · by_cases h2 : 0 < n
    · have e1 : betw n m = n := by unfold betw; split <;> (try split) <;> omega
      rw [e1]
      clear e1
      go_enter Try.func28, Try.ntmps28
      go_wp2
      go_ret
      exact ⟨rfl, rfl⟩
    · have e1 : betw n m = 0 := by unfold betw; split <;> (try split) <;> omega
      rw [e1]
      clear e1
      go_enter Try.func28, Try.ntmps28
      go_wp2
      go_ret
      exact ⟨rfl, rfl⟩

set_option maxHeartbeats 400000 in
/-- a Write or a Flush of a device that isn't dead -/
theorem cdies_any {O : Nat → Prop} {w : World} {p : Nat} {st : Sd} (h : CDev O w p st) (hd : st.dead = false) :
    Calls Try.prog 30 #[.pointer (some ⟨p, 0, none⟩)] w fun e w' => e = .returned (.bool (!st.acts)) ∧ CDev O w' p st.acted ∧ Onl O w w' := by
  obtain ⟨vK, vC, m, lf, h⟩ := h
  have c4 := h.ob.cell 4
  have c5 := h.ob.cell 5
  have c6 := h.ob.cell 6
  have f5 := h.ob.frozen 5
  have f6 := h.ob.frozen 6
  simp only [List.getElem?_cons_zero, List.getElem?_cons_succ] at c4 c5 c6
  rw [hd] at c6
  have hl0 := h.ok.l0
  have hl1 := h.ok.l1
  have ok := h.ok.acted
  have hlf := h.hlf
  have H := hide h
  clear h
  by_cases hn : 0 ≤ st.left
  · have e0 : lf = st.left := hlf hn
    have q4 : decide (0 ≤ st.left) = true := by simp [hn]
    rw [q4] at c4
    rw [e0] at c5
    clear hlf q4
    by_cases hz : 0 < st.left
    · have e1 : st.acts = true := by simp [Sd.acts, hd]; omega
      have e2 : st.acted = { st with left := st.left - 1 } := by unfold Sd.acted; rw [e1]; simp [hz]
      rw [e2] at ok ⊢
      rw [e1]
      have E0 := hide e0
      have HD := hide hd
      clear e1 e2 e0 hd
      go_enter Try.func30, Try.ntmps30
      go_wp2
      go_ret
      refine ⟨rfl, ⟨_, _, _, _, H.out.setOb (lf' := st.left - 1) 5 _ rfl rfl rfl ok (fun _ => rfl) ?_⟩, (Onl.refl _ _).set (.inl H.out.own) _⟩
      simp
      omega
    · have hz' : st.left = 0 := by omega
      have e1 : st.acts = false := by simp [Sd.acts, hz']
      have e2 : st.acted = { st with dead := true } := by unfold Sd.acted; rw [e1]; rfl
      rw [e2] at ok ⊢
      rw [e1]
      rw [hz'] at c5
      have E0 := hide e0
      have HD := hide hd
      have HZ := hide hz'
      clear e1 e2 e0 hd hz'
      go_enter Try.func30, Try.ntmps30
      go_wp2
      go_ret
      exact ⟨rfl, ⟨_, _, _, _, H.out.setOb 6 _ rfl rfl rfl ok H.out.hlf rfl⟩, (Onl.refl _ _).set (.inl H.out.own) _⟩
  · have q4 : decide (0 ≤ st.left) = false := by simp; omega
    rw [q4] at c4
    have e1 : st.acts = true := by simp [Sd.acts, hd]; omega
    have e2 : st.acted = st := by unfold Sd.acted; rw [e1]; simp [show ¬ 0 < st.left by omega]
    rw [e2] at ok ⊢
    rw [e1]
    have HD := hide hd
    clear e1 e2 hd hlf q4
    go_enter Try.func30, Try.ntmps30
    go_wp2
    go_ret
    exact ⟨rfl, ⟨_, _, _, _, H.out⟩, Onl.refl _ _⟩

set_option maxHeartbeats 400000 in
theorem carm_any {O : Nat → Prop} {w : World} {p : Nat} {st : Sd} (h : CDev O w p st) (n : Int) (hn1 : n ≤ 9223372036854775807) :
    Calls Try.prog 17 #[.pointer (some ⟨p, 0, none⟩), .int .i64 n] w fun e w' => e = .returned (.tuple #[]) ∧ CDev O w' p (st.armed n) ∧ Onl O w w' := by
  obtain ⟨vK, vC, m, lf, h⟩ := h
  have c0 := h.ob.cell 0
  have c4 := h.ob.cell 4
  have c5 := h.ob.cell 5
  have f4 := h.ob.frozen 4
  have f5 := h.ob.frozen 5
  simp only [List.getElem?_cons_zero, List.getElem?_cons_succ] at c0 c4 c5
  have ok := h.ok.armed hn1
  have H := hide h
  clear h
  by_cases hp : 0 ≤ n
  · have e2 : st.armed n = { st with left := n } := by simp [Sd.armed, hp]
    rw [e2] at ok ⊢
    clear e2
    have hq : decide (0 ≤ n) = true := by simp [hp]
    go_enter Try.func17, Try.ntmps17
    go_wp2
    go_end0
    exact ⟨rfl, ⟨_, _, _, _, H.out.reob (lf' := n) (((Onl.refl _ _).set (O := fun k => k = p) (.inl rfl) _).set (.inl rfl) _) rfl rfl rfl ok (fun _ => rfl) (by simp only [hq]; exact (H.out.ob.set 4 _).set 5 _)⟩, ((Onl.refl _ _).set (.inl H.out.own) _).set (.inl H.out.own) _⟩
  · have e2 : st.armed n = { st with left := -1 } := by simp [Sd.armed, hp]
    rw [e2] at ok ⊢
    clear e2
    have hq : decide (0 ≤ n) = false := by simp; omega
    go_enter Try.func17, Try.ntmps17
    go_wp2
    go_end0
    exact ⟨rfl, ⟨_, _, _, _, H.out.reob (lf' := n) (((Onl.refl _ _).set (O := fun k => k = p) (.inl rfl) _).set (.inl rfl) _) rfl rfl rfl ok (fun h => absurd h (by simp)) (by simpa using (H.out.ob.set 4 (.bool false)).set 5 (.int .i64 n))⟩, ((Onl.refl _ _).set (.inl H.out.own) _).set (.inl H.out.own) _⟩

/-! the faults -/
theorem FMap.laid {w : World} {m : Nat} {bad : List Bool} {D : DataW Unit} {n i : Nat} (on : Bool) (h1 : w.ownsMap Try.prog 3 unitElem m n D) (h2 : ∀ j, j < bad.length → Maps.has D (.int .i64 j) = (bad.set i on).getD j false) (h3 : Maps.size D = (bad.set i on).count true) : FMap w m (bad.set i on) := by
  refine ⟨D, ?_, by simpa using h2, h3⟩
  obtain ⟨es, clock, hb, F, hs, hD⟩ := h1
  refine ⟨es, clock, hb, F, ?_, hD⟩
  rw [← h3, hD]
  simp [Maps.size, length_sorted]
theorem count_set {l : List Bool} {i : Nat} (hi : i < l.length) (b : Bool) : (l.set i b).count true + (if l.getD i false then 1 else 0) = l.count true + (if b then 1 else 0) := by
  induction l generalizing i with
  | nil => simp at hi
  | cons x l ih =>
    cases i with
    | zero => cases x <;> cases b <;> simp
    | succ i =>
      have := ih (i := i) (by simpa using hi)
      simp only [List.set_cons_succ, List.count_cons, List.getD_cons_succ]
      omega
theorem getD_set {l : List Bool} {i j : Nat} (hi : i < l.length) (b : Bool) : (l.set i b).getD j false = if j = i then b else l.getD j false := by
  simp only [List.getD, List.getElem?_set]
  by_cases h : i = j
  · subst h
    simp [hi]
  · simp [h, Ne.symm h]

theorem CParts.turn {O : Nat → Prop} {w w' : World} {p : Nat} {st : Sd} {vK vC : Value} {m : Nat} {lf : Int} (h : CParts O w p st vK vC m lf) (ht : w.mapTurned w' m) {bad : List Bool} (hF : FMap w' m bad) (ok : OkS { st with bad := bad }) :
    CParts O w' p { st with bad := bad } vK vC m lf ∧ Onl O w w' := by
  have o1 : Onl (fun k => k = m) w w' := (Onl.refl _ w).grown ht.grown (fun k hk => .inl (by cases hk; rfl))
  exact ⟨⟨h.ob.onl o1 (fun q => h.mF.ne h.ob q.symm), h.own, h.sS.onl o1 (fun g hg q => h.mF.neRow h.sS (by rw [hg, q])), h.sC.onl o1 (fun g hg q => h.mF.neRow h.sC (by rw [hg, q])), h.mO, hF, h.hlf, ok⟩, o1.mono (fun i hi => by rw [hi]; exact h.mO)⟩

theorem lawI : Keyed Try.prog 3 := int_keyed Try.underlying3

set_option maxHeartbeats 1000000 in
theorem cfault_any {O : Nat → Prop} {w : World} {p : Nat} {st : Sd} (h : CDev O w p st) (a : Int) (on : Bool) :
    Calls Try.prog 21 #[.pointer (some ⟨p, 0, none⟩), .int .i64 a, .bool on] w fun e w' => e = .returned (.tuple #[]) ∧ CDev O w' p (st.faulted a on) ∧ Onl O w w' := by
  have HH := hide h
  obtain ⟨vK, vC, m, lf, h⟩ := h
  have c3 := h.ob.cell 3
  simp only [List.getElem?_cons_zero, List.getElem?_cons_succ] at c3
  have H := hide h
  clear h
  by_cases ha : st.has a = true
  · have e1 : st.faulted a on = { st with bad := st.bad.set a.toNat on } := by simp [Sd.faulted, ha]
    have ok := H.out.ok.faulted a on
    rw [e1] at ok ⊢
    have ha2 := has_iff.1 ha
    obtain ⟨i, rfl⟩ := Int.eq_ofNat_of_zero_le ha2.1
    have hsz := H.out.ok.size
    have hbd := H.out.ok.bads
    have hi : i < st.bad.length := by omega
    simp only [Int.toNat_natCast] at ok ⊢
    obtain ⟨D, hown, hhas, hsize⟩ := H.out.mF.own
    have hcnt : st.bad.count true ≤ 65536 := by have := List.count_le_length (a := true) (l := st.bad); omega
    have hwf : (Lit.int .i64 (i : Int)).wf = true := WalkArith.wf_i64 (by omega)
    have hkey := keyOf_int_mk Try.underlying3 hwf
    have hcs := count_set hi on
    have hbi := hhas i hi
    have HB := hide hbd
    have HHas := hide hhas
    have HS := hide hsize
    have HC := hide hcs
    have HBI := hide hbi
    clear e1 hbd hhas hsize hcs hbi
    cases on with
    | true =>
      go_enter Try.func21, Try.ntmps21
      go_wp2_with fail
      refine (chas_any HH.out i).mono ?_
      rintro e w1 ⟨rfl, rfl⟩
      rw [ha]
      go_wp2_with (first | (at_mapUpdate; refine wpList_mapUpdate_in _ rfl _ _ _ 59 rfl 3 70 lawI Try.underlying59 _ m _ D rfl hown (by unfold maxLen; omega) _ _ _ rfl rfl hkey _ [] unitElem_mk ?_; intro w1 hown1 hturn1) | go_in)
      go_end0
      have hbi := HBI.out
      have hcs := HC.out
      have hsz := HS.out
      have ht := hown.tidy lawI
      have hF : FMap w1 m (st.bad.set i true) := FMap.laid true hown1 (fun j hj => by
        rw [getD_set hi]
        by_cases hji : j = i
        · subst hji
          rw [if_pos rfl]
          exact has_put_same ht.isMap (show WideAt.IsKeyLit (.int .i64 (j : Int)) from by simp [WideAt.IsKeyLit]) _
        · rw [if_neg hji, has_put_other (by intro e; cases e; exact hji rfl)]
          exact HHas.out j hj) (by
        rw [size_put ht]
        rw [hbi]
        cases hq : st.bad.getD i false <;> rw [hq] at hcs <;> simp at hcs ⊢ <;> omega)
      obtain ⟨q1, q2⟩ := H.out.turn hturn1 hF ok
      exact ⟨rfl, ⟨_, _, _, _, q1⟩, q2⟩
    | false =>
      go_enter Try.func21, Try.ntmps21
      go_wp2_with fail
      refine (chas_any HH.out i).mono ?_
      rintro e w1 ⟨rfl, rfl⟩
      rw [ha]
      go_wp2_with (first | (at_delete; refine wpList_delete_own _ rfl _ _ 59 3 rfl 70 lawI Try.underlying59 _ m _ D rfl hown _ _ rfl hkey ?_; intro w1 hown1 hturn1) | go_in)
      go_end0
      have hbi := HBI.out
      have hcs := HC.out
      have hsz := HS.out
      have ht := hown.tidy lawI
      have hF : FMap w1 m (st.bad.set i false) := FMap.laid false hown1 (fun j hj => by
        rw [getD_set hi]
        by_cases hji : j = i
        · subst hji
          rw [if_pos rfl]
          exact has_del_same
        · rw [if_neg hji, has_del_other (by intro e; cases e; exact hji rfl)]
          exact HHas.out j hj) (by
        have hd := size_del (k := Lit.int .i64 (i : Int)) ht
        rw [hbi] at hd
        cases hq : st.bad.getD i false <;> rw [hq] at hcs hd <;> simp at hcs hd <;> omega)
      obtain ⟨q1, q2⟩ := H.out.turn hturn1 hF ok
      exact ⟨rfl, ⟨_, _, _, _, q1⟩, q2⟩
  · have ha' : st.has a = false := by simpa using ha
    have e1 : st.faulted a on = st := by simp [Sd.faulted, ha']
    rw [e1]
    clear e1
    go_enter Try.func21, Try.ntmps21
    go_wp2_with fail
    refine (chas_any HH.out a).mono ?_
    rintro e w1 ⟨rfl, rfl⟩
    rw [ha']
    go_wp2
    refine bodyPost_ret (results_none rfl _ _ _) rfl ?_
    exact ⟨rfl, HH.out, Onl.refl _ _⟩
end Go.Proofs.Ytgkgbemliinajaa
