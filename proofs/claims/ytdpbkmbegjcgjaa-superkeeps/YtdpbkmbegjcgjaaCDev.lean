/- The program's device in memory, and what its small functions do, over the translation. -/
import Derived.Test.YtdpbkmbegjcgjaaRows
import Derived.Test.YtdpbkmbegjcgjaaSd
import Derived.Test.YtdpbkmbegjcgjaaAgg
import Derived.Maps.OwnSet
import Derived.WalkKit
import Derived.WalkSpells
import Derived.WalkLawsBesides
import Derived.Handy
namespace Go.Proofs.Ytdpbkmbegjcgjaa
open Go.RowKit Apo Go.Maps

/-- block m is the map of the faults -/
structure FMap (w : World) (m : Nat) (bad : List Bool) : Prop where
  own : ∃ D : DataW Unit, w.ownsMap Try.prog 3 unitElem m (bad.count true) D ∧ (∀ i, i < bad.length → Maps.has D (.int .i64 i) = bad.getD i false) ∧ Maps.size D = bad.count true

/-- what lies in memory of the program's device, by its parts -/
structure CParts (O : Nat → Prop) (w : World) (p : Nat) (st : Sd) (vK vC : Value) (m : Nat) (lf : Int) : Prop where
  ob : Ob w p 72 [.bool true, vK, vC, .map (some m), .bool (decide (0 ≤ st.left)), .int .i64 lf, .bool st.dead]
  own : O p
  sS : Row O w 78 32 vK st.S.length (scells st.S)
  sC : Row O w 80 33 vC st.C.length (wcells st.C)
  mO : O m
  mF : FMap w m st.bad
  hlf : 0 ≤ st.left → lf = st.left
  ok : OkS st
def CDev (O : Nat → Prop) (w : World) (p : Nat) (st : Sd) : Prop := ∃ vK vC m lf, CParts O w p st vK vC m lf

theorem CDev.ok {O : Nat → Prop} {w : World} {p : Nat} {st : Sd} (h : CDev O w p st) : OkS st := by obtain ⟨_, _, _, _, h⟩ := h; exact h.ok
theorem CDev.own {O : Nat → Prop} {w : World} {p : Nat} {st : Sd} (h : CDev O w p st) : O p := by obtain ⟨_, _, _, _, h⟩ := h; exact h.own
theorem FMap.lt {w : World} {m : Nat} {bad : List Bool} (h : FMap w m bad) : m < w.heap.size := by obtain ⟨D, h, _⟩ := h.own; exact h.lt
theorem FMap.onl {F : Nat → Prop} {w w' : World} {m : Nat} {bad : List Bool} (h : FMap w m bad) (ho : Onl F w w') (hF : ¬ F m) : FMap w' m bad := by
  obtain ⟨D, h1, h2⟩ := h.own
  have hlt := h1.lt
  obtain ⟨es, clock, hb, q⟩ := h1
  exact ⟨D, ⟨es, clock, (ho.block m hlt hF).trans hb, q⟩, h2⟩
theorem FMap.ne {w : World} {m : Nat} {bad : List Bool} (h : FMap w m bad) {q : Nat} {t : TypeId} {cs : List Value} (k : Ob w q t cs) : m ≠ q := by
  rintro rfl
  obtain ⟨D, ⟨es, clock, hb, _⟩, _⟩ := h.own
  unfold Ob at k
  rw [hb] at k
  cases k
theorem FMap.neRow {O : Nat → Prop} {w : World} {m : Nat} {bad : List Bool} (h : FMap w m bad) {e : TypeId} {size n : Nat} {v : Value} {xs : List Value} (k : Row O w e size v n xs) : v.ownBlock ≠ some m := by
  intro hg
  rcases k.1.2 with ⟨rfl, _⟩ | ⟨g1, _, _, rfl, _, hh, _⟩
  · simp [Value.ownBlock] at hg
  · simp only [Value.ownBlock, Option.some.injEq] at hg
    subst hg
    obtain ⟨D, ⟨es, clock, hb, _⟩, _⟩ := h.own
    rw [hb] at hh
    cases hh
theorem CParts.onl {O F : Nat → Prop} {w w' : World} {p : Nat} {st : Sd} {vK vC : Value} {m : Nat} {lf : Int} (h : CParts O w p st vK vC m lf) (ho : Onl F w w') (hF : ∀ i, O i → ¬ F i) : CParts O w' p st vK vC m lf :=
  ⟨h.ob.onl ho (hF p h.own), h.own, h.sS.onl ho (fun g hg => hF g (h.sS.2 g hg)), h.sC.onl ho (fun g hg => hF g (h.sC.2 g hg)), h.mO, h.mF.onl ho (hF m h.mO), h.hlf, h.ok⟩
theorem CDev.onl {O F : Nat → Prop} {w w' : World} {p : Nat} {st : Sd} (h : CDev O w p st) (ho : Onl F w w') (hF : ∀ i, O i → ¬ F i) : CDev O w' p st := by
  obtain ⟨_, _, _, _, h⟩ := h
  exact ⟨_, _, _, _, h.onl ho hF⟩
theorem CParts.mono {O O' : Nat → Prop} {w : World} {p : Nat} {st : Sd} {vK vC : Value} {m : Nat} {lf : Int} (h : CParts O w p st vK vC m lf) (hO : ∀ i, O i → O' i) : CParts O' w p st vK vC m lf :=
  ⟨h.ob, hO p h.own, h.sS.mono hO, h.sC.mono hO, hO m h.mO, h.mF, h.hlf, h.ok⟩
theorem CDev.mono {O O' : Nat → Prop} {w : World} {p : Nat} {st : Sd} (h : CDev O w p st) (hO : ∀ i, O i → O' i) : CDev O' w p st := by
  obtain ⟨_, _, _, _, h⟩ := h
  exact ⟨_, _, _, _, h.mono hO⟩
theorem CParts.kept {O : Nat → Prop} {w w' : World} {p : Nat} {st : Sd} {vK vC : Value} {m : Nat} {lf : Int} (h : CParts O w p st vK vC m lf) (ho : Onl (fun _ => False) w w') : CParts O w' p st vK vC m lf := h.onl ho (fun _ _ q => q)
/-- the object's own cells are set: the rest stays -/
theorem CParts.reob {O : Nat → Prop} {w w' : World} {p : Nat} {st : Sd} {vK vC : Value} {m : Nat} {lf lf' : Int} (h : CParts O w p st vK vC m lf) (o1 : Onl (fun k => k = p) w w') {st' : Sd} (hS : st'.S = st.S) (hC : st'.C = st.C) (hB : st'.bad = st.bad) (ok : OkS st') (hl : 0 ≤ st'.left → lf' = st'.left)
    (e : Ob w' p 72 [.bool true, vK, vC, .map (some m), .bool (decide (0 ≤ st'.left)), .int .i64 lf', .bool st'.dead]) : CParts O w' p st' vK vC m lf' := by
  refine ⟨e, h.own, ?_, ?_, h.mO, ?_, hl, ok⟩
  · rw [hS]; exact h.sS.onl o1 (fun g hg q => h.sS.apartOb h.ob (by decide) (by rw [hg, q]))
  · rw [hC]; exact h.sC.onl o1 (fun g hg q => h.sC.apartOb h.ob (by decide) (by rw [hg, q]))
  · rw [hB]; exact h.mF.onl o1 (h.mF.ne h.ob)
theorem CParts.setOb {O : Nat → Prop} {w : World} {p : Nat} {st : Sd} {vK vC : Value} {m : Nat} {lf lf' : Int} (h : CParts O w p st vK vC m lf) (i : Nat) (u : Value) {st' : Sd} (hS : st'.S = st.S) (hC : st'.C = st.C) (hB : st'.bad = st.bad) (ok : OkS st') (hl : 0 ≤ st'.left → lf' = st'.left)
    (e : [.bool true, vK, vC, .map (some m), .bool (decide (0 ≤ st.left)), .int .i64 lf, .bool st.dead].set i u = [.bool true, vK, vC, .map (some m), .bool (decide (0 ≤ st'.left)), .int .i64 lf', .bool st'.dead]) : CParts O (w.setCell ⟨p, i, none⟩ u) p st' vK vC m lf' :=
  h.reob (Onl.set (O := fun k => k = p) (Onl.refl _ w) (.inl rfl) u) hS hC hB ok hl (by rw [← e]; exact h.ob.set i u)

set_option maxHeartbeats 400000 in
theorem csize_any {O : Nat → Prop} {w : World} {p : Nat} {st : Sd} (h : CDev O w p st) :
    Calls Try.prog 42 #[.pointer (some ⟨p, 0, none⟩)] w fun e w' => e = .returned (.int .i64 st.S.length) ∧ w = w' := by
  obtain ⟨vK, vC, m, lf, h⟩ := h
  have c1 := h.ob.cell 1
  obtain ⟨sa, scap, hvS, hs1, hs2, hs3⟩ := h.sS.form
  subst hvS
  have hsz := h.ok.size
  simp only [List.getElem?_cons_zero, List.getElem?_cons_succ] at c1
  clear h hs3
  go_enter Try.func42, Try.ntmps42
  go_wp2
  go_ret
  exact ⟨rfl, rfl⟩

set_option maxHeartbeats 400000 in
theorem cdead_any {O : Nat → Prop} {w : World} {p : Nat} {st : Sd} (h : CDev O w p st) :
    Calls Try.prog 29 #[.pointer (some ⟨p, 0, none⟩)] w fun e w' => e = .returned (.bool st.dead) ∧ w = w' := by
  obtain ⟨vK, vC, m, lf, h⟩ := h
  have c1 := h.ob.cell 6
  simp only [List.getElem?_cons_zero, List.getElem?_cons_succ] at c1
  clear h
  go_enter Try.func29, Try.ntmps29
  go_wp2
  go_ret
  exact ⟨rfl, rfl⟩

set_option maxHeartbeats 400000 in
theorem chas_any {O : Nat → Prop} {w : World} {p : Nat} {st : Sd} (h : CDev O w p st) (a : Int) :
    Calls Try.prog 30 #[.pointer (some ⟨p, 0, none⟩), .int .i64 a] w fun e w' => e = .returned (.bool (st.has a)) ∧ w = w' := by
  have H := hide h
  clear h
  by_cases ha : 0 ≤ a
  · have e1 : st.has a = decide (a < (st.S.length : Int)) := by simp [Sd.has, ha]
    rw [e1]
    clear e1
    go_enter Try.func30, Try.ntmps30
    go_wp2_with fail
    refine (csize_any H.out).mono ?_
    rintro e w1 ⟨rfl, rfl⟩
    go_wp2
    go_ret
    exact ⟨rfl, rfl⟩
  · have e1 : st.has a = false := by simp [Sd.has, ha]
    rw [e1]
    clear e1
    go_enter Try.func30, Try.ntmps30
    go_wp2
    go_ret
    exact ⟨rfl, rfl⟩

/-- n, or the nearer of 0 and m -/
def betw (n m : Int) : Int := if n < 0 then 0 else if m < n then m else n
set_option maxHeartbeats 400000 in
theorem cbetween_any {w : World} (n m : Int) (hm : 0 < m) :
    Calls Try.prog 28 #[.int .i64 n, .int .i64 m] w fun e w' => e = .returned (.int .i64 (betw n m)) ∧ w = w' := by
  by_cases h1 : m < n
  · have e1 : betw n m = m := by unfold betw; split <;> omega
    rw [e1]
    clear e1
    go_enter Try.func28, Try.ntmps28
    go_wp2
    go_ret
    exact ⟨rfl, rfl⟩
  · by_cases h2 : 0 < n
    · have e1 : betw n m = n := by unfold betw; split <;> (try split) <;> omega
      rw [e1]
      clear e1
      go_enter Try.func28, Try.ntmps28
      go_wp2
      go_ret
      exact ⟨rfl, rfl⟩
    · have e1 : betw n m = 0 := by unfold betw; split <;> (try split) <;> omega
      rw [e1]
      clear e1
      go_enter Try.func28, Try.ntmps28
      go_wp2
      go_ret
      exact ⟨rfl, rfl⟩

set_option maxHeartbeats 400000 in
/-- a Write or a Flush of a device that isn't dead -/
theorem cdies_any {O : Nat → Prop} {w : World} {p : Nat} {st : Sd} (h : CDev O w p st) (hd : st.dead = false) :
    Calls Try.prog 31 #[.pointer (some ⟨p, 0, none⟩)] w fun e w' => e = .returned (.bool (!st.acts)) ∧ CDev O w' p st.acted ∧ Onl O w w' := by
  obtain ⟨vK, vC, m, lf, h⟩ := h
  have c4 := h.ob.cell 4
  have c5 := h.ob.cell 5
  have c6 := h.ob.cell 6
  have f5 := h.ob.frozen 5
  have f6 := h.ob.frozen 6
  simp only [List.getElem?_cons_zero, List.getElem?_cons_succ] at c4 c5 c6
  rw [hd] at c6
  have hl0 := h.ok.l0
  have hl1 := h.ok.l1
  have ok := h.ok.acted
  have hlf := h.hlf
  have H := hide h
  clear h
  by_cases hn : 0 ≤ st.left
  · have e0 : lf = st.left := hlf hn
    have q4 : decide (0 ≤ st.left) = true := by simp [hn]
    rw [q4] at c4
    rw [e0] at c5
    clear hlf q4
    by_cases hz : 0 < st.left
    · have e1 : st.acts = true := by simp [Sd.acts, hd]; omega
      have e2 : st.acted = { st with left := st.left - 1 } := by unfold Sd.acted; rw [e1]; simp [hz]
      rw [e2] at ok ⊢
      rw [e1]
      have E0 := hide e0
      have HD := hide hd
      clear e1 e2 e0 hd
      go_enter Try.func31, Try.ntmps31
      go_wp2
      go_ret
      refine ⟨rfl, ⟨_, _, _, _, H.out.setOb (lf' := st.left - 1) 5 _ rfl rfl rfl ok (fun _ => rfl) ?_⟩, (Onl.refl _ _).set (.inl H.out.own) _⟩
      simp
      omega
    · have hz' : st.left = 0 := by omega
      have e1 : st.acts = false := by simp [Sd.acts, hz']
      have e2 : st.acted = { st with dead := true } := by unfold Sd.acted; rw [e1]; rfl
      rw [e2] at ok ⊢
      rw [e1]
      rw [hz'] at c5
      have E0 := hide e0
      have HD := hide hd
      have HZ := hide hz'
      clear e1 e2 e0 hd hz'
      go_enter Try.func31, Try.ntmps31
      go_wp2
      go_ret
      exact ⟨rfl, ⟨_, _, _, _, H.out.setOb 6 _ rfl rfl rfl ok H.out.hlf rfl⟩, (Onl.refl _ _).set (.inl H.out.own) _⟩
  · have q4 : decide (0 ≤ st.left) = false := by simp; omega
    rw [q4] at c4
    have e1 : st.acts = true := by simp [Sd.acts, hd]; omega
    have e2 : st.acted = st := by unfold Sd.acted; rw [e1]; simp [show ¬ 0 < st.left by omega]
    rw [e2] at ok ⊢
    rw [e1]
    have HD := hide hd
    clear e1 e2 hd hlf q4
    go_enter Try.func31, Try.ntmps31
    go_wp2
    go_ret
    exact ⟨rfl, ⟨_, _, _, _, H.out⟩, Onl.refl _ _⟩

theorem lawI : Keyed Try.prog 3 := int_keyed Try.underlying3

end Go.Proofs.Ytdpbkmbegjcgjaa
