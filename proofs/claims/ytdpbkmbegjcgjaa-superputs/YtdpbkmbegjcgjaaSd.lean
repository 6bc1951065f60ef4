/- A device as it is meant: sectors that are kept, writes that are cached, faults, how often it still writes. No Go text is named here. -/
import Derived.Test.YtdpbkmbegjcgjaaOnl
import Derived.Test.YtdpbkmbegjcgjaaFat
namespace Apo
open Go Go.RowKit

structure Sd where
  S : List (List Int)
  C : List (Nat × List Int)
  bad : List Bool
  left : Int
  dead : Bool

def Sd.has (st : Sd) (at' : Int) : Bool := decide (0 ≤ at') && decide (at' < (st.S.length : Int))
def Sd.acts (st : Sd) : Bool := !(st.dead || st.left == 0)
def Sd.acted (st : Sd) : Sd := if st.acts then { st with left := if 0 < st.left then st.left - 1 else st.left } else { st with dead := true }
def Sd.wrote (st : Sd) (at' : Int) (b : List Int) : Int × Sd :=
  if st.dead then (40, st) else if st.has at' && b.length == 32 then (if st.acts then (0, { st.acted with C := st.C ++ [(at'.toNat, b)] }) else (40, st.acted)) else (1, st)
def lastOf (c : List (Nat × List Int)) (k : Nat) (b : List Int) : List Int := c.foldl (fun acc x => if x.1 = k then x.2 else acc) b
def Sd.told (st : Sd) (at' : Int) : List Int × Int :=
  if st.dead then ([], 40) else if st.has at' then (if st.bad.getD at'.toNat false then ([], 41) else (lastOf st.C at'.toNat (st.S.getD at'.toNat []), 0)) else ([], 1)
def putAll (c : List (Nat × List Int)) (S : List (List Int)) : List (List Int) := c.foldl (fun acc x => acc.set x.1 x.2) S
def Sd.flushed (st : Sd) : Int × Sd := if st.acts then (0, { st.acted with S := putAll st.C st.S, C := [] }) else (40, st.acted)
def Sd.armed (st : Sd) (n : Int) : Sd := { st with left := if 0 ≤ n then n else -1 }
def cutOf (z : Int) : Nat := if z < 0 then 0 else if 32 < z then 32 else z.toNat
def crashOne (keep : List Bool) (torn bytes : Int) (S : List (List Int)) (i : Nat) (x : Nat × List Int) : List (List Int) :=
  if (i : Int) = torn then S.set x.1 (x.2.take (cutOf bytes) ++ (S.getD x.1 []).drop (cutOf bytes)) else if keep.getD i false then S.set x.1 x.2 else S
/-- behind the first k cached writes -/
def crashK (keep : List Bool) (torn bytes : Int) (C : List (Nat × List Int)) (S : List (List Int)) : Nat → List (List Int)
  | 0 => S
  | k + 1 => match C[k]? with
    | some x => crashOne keep torn bytes (crashK keep torn bytes C S k) k x
    | none => crashK keep torn bytes C S k
def Sd.crashed (st : Sd) (f : Fat) : Sd := ⟨crashK f.keep f.torn f.bytes st.C st.S st.C.length, [], st.bad, -1, false⟩
def Sd.faulted (st : Sd) (at' : Int) (on : Bool) : Sd := if st.has at' then { st with bad := st.bad.set at'.toNat on } else st
def lenOf (n : Int) : Nat := if n < 0 then 0 else if 65536 < n then 65536 else n.toNat
def zeros : List Int := List.replicate 32 0
def newSd (n : Int) : Sd := ⟨List.replicate (lenOf n) zeros, [], List.replicate (lenOf n) false, -1, false⟩

def Sec (r : List Int) : Prop := r.length = 32 ∧ ∀ z ∈ r, 0 ≤ z ∧ z ≤ 255
structure OkS (st : Sd) : Prop where
  secs : ∀ r ∈ st.S, Sec r
  cach : ∀ x ∈ st.C, x.1 < st.S.length ∧ Sec x.2
  bads : st.bad.length = st.S.length
  size : st.S.length ≤ 65536
  l0 : -1 ≤ st.left
  l1 : st.left ≤ 9223372036854775807

theorem has_iff {st : Sd} {a : Int} : st.has a = true ↔ 0 ≤ a ∧ a < (st.S.length : Int) := by simp [Sd.has]
theorem sec_zeros : Sec zeros := ⟨by simp [zeros], by intro z hz; simp [zeros] at hz; omega⟩
theorem OkS.new (n : Int) : OkS (newSd n) :=
  ⟨fun r hr => by simp [newSd] at hr; rw [hr.2]; exact sec_zeros, by simp [newSd], by simp [newSd], by simp [newSd, lenOf]; split <;> (try split) <;> omega, by simp [newSd], by simp [newSd]⟩
theorem OkS.acted {st : Sd} (h : OkS st) : OkS st.acted := by
  unfold Sd.acted
  split
  · refine ⟨h.secs, h.cach, h.bads, h.size, ?_, ?_⟩ <;> (have := h.l0; have := h.l1; simp only; split <;> omega)
  · exact ⟨h.secs, h.cach, h.bads, h.size, h.l0, h.l1⟩
theorem acted_S (st : Sd) : st.acted.S = st.S := by unfold Sd.acted; split <;> rfl
theorem acted_C (st : Sd) : st.acted.C = st.C := by unfold Sd.acted; split <;> rfl
theorem acted_bad (st : Sd) : st.acted.bad = st.bad := by unfold Sd.acted; split <;> rfl
theorem OkS.wrote {st : Sd} (h : OkS st) (a : Int) {b : List Int} (hb : ∀ z ∈ b, 0 ≤ z ∧ z ≤ 255) : OkS (st.wrote a b).2 := by
  unfold Sd.wrote
  split
  · exact h
  · split
    · next h1 =>
      simp only [Bool.and_eq_true, beq_iff_eq] at h1
      have h2 := has_iff.1 h1.1
      split
      · have k := h.acted
        refine ⟨k.secs, ?_, k.bads, k.size, k.l0, k.l1⟩
        intro x hx
        simp only [List.mem_append, List.mem_singleton] at hx
        rcases hx with hx | hx
        · exact k.cach x (by rw [acted_C]; exact hx)
        · subst hx
          exact ⟨by simp only [acted_S]; omega, h1.2, hb⟩
      · exact h.acted
    · exact h
theorem putAll_len (c : List (Nat × List Int)) : ∀ S : List (List Int), (putAll c S).length = S.length := by
  induction c with
  | nil => intro S; rfl
  | cons x c ih => intro S; simp only [putAll, List.foldl_cons] at ih ⊢; rw [ih]; simp
theorem putAll_mem {P : List Int → Prop} (c : List (Nat × List Int)) : ∀ S : List (List Int), (∀ r ∈ S, P r) → (∀ x ∈ c, P x.2) → ∀ r ∈ putAll c S, P r := by
  induction c with
  | nil => intro S h _; exact h
  | cons x c ih =>
    intro S h k
    refine ih (S.set x.1 x.2) ?_ (fun y hy => k y (by simp [hy]))
    intro r hr
    rcases List.mem_or_eq_of_mem_set hr with hr | hr
    · exact h r hr
    · rw [hr]; exact k x (by simp)
theorem OkS.flushed {st : Sd} (h : OkS st) : OkS st.flushed.2 := by
  unfold Sd.flushed
  split
  · have k := h.acted
    exact ⟨putAll_mem _ _ h.secs (fun x hx => (h.cach x hx).2), by simp, by simp only [putAll_len, acted_bad]; exact h.bads, by simp only [putAll_len]; exact h.size, k.l0, k.l1⟩
  · exact h.acted
theorem OkS.armed {st : Sd} (h : OkS st) {n : Int} (hn : n ≤ 9223372036854775807) : OkS (st.armed n) :=
  ⟨h.secs, h.cach, h.bads, h.size, by simp only [Sd.armed]; split <;> omega, by simp only [Sd.armed]; split <;> omega⟩
theorem OkS.faulted {st : Sd} (h : OkS st) (a : Int) (on : Bool) : OkS (st.faulted a on) := by
  unfold Sd.faulted
  split
  · exact ⟨h.secs, h.cach, by simp [h.bads], h.size, h.l0, h.l1⟩
  · exact h
theorem sec_mix {a b : List Int} (ha : Sec a) (hb : Sec b) (z : Int) : Sec (a.take (cutOf z) ++ b.drop (cutOf z)) := by
  have hc : cutOf z ≤ 32 := by unfold cutOf; split <;> (try split) <;> omega
  refine ⟨by simp [ha.1, hb.1]; omega, ?_⟩
  intro y hy
  simp only [List.mem_append] at hy
  rcases hy with hy | hy
  · exact ha.2 y (List.mem_of_mem_take hy)
  · exact hb.2 y (List.mem_of_mem_drop hy)
theorem crashK_ok {keep : List Bool} {torn bytes : Int} {C : List (Nat × List Int)} {S : List (List Int)} (hS : ∀ r ∈ S, Sec r) (hC : ∀ x ∈ C, x.1 < S.length ∧ Sec x.2) : ∀ k, (crashK keep torn bytes C S k).length = S.length ∧ ∀ r ∈ crashK keep torn bytes C S k, Sec r
  | 0 => ⟨rfl, hS⟩
  | k + 1 => by
    obtain ⟨h1, h2⟩ := crashK_ok (keep := keep) (torn := torn) (bytes := bytes) hS hC k
    simp only [crashK]
    cases hx : C[k]? with
    | none => exact ⟨h1, h2⟩
    | some x =>
      have hc := hC x (List.mem_of_getElem? hx)
      simp only [crashOne]
      split
      · refine ⟨by simp [h1], ?_⟩
        intro r hr
        rcases List.mem_or_eq_of_mem_set hr with hr | hr
        · exact h2 r hr
        · rw [hr]
          have hlt : x.1 < (crashK keep torn bytes C S k).length := by omega
          have : (crashK keep torn bytes C S k).getD x.1 [] = (crashK keep torn bytes C S k)[x.1] := by simp [List.getD, hlt]
          rw [this]
          exact sec_mix hc.2 (h2 _ (List.getElem_mem hlt)) _
      · split
        · refine ⟨by simp [h1], ?_⟩
          intro r hr
          rcases List.mem_or_eq_of_mem_set hr with hr | hr
          · exact h2 r hr
          · rw [hr]; exact hc.2
        · exact ⟨h1, h2⟩
theorem OkS.crashed {st : Sd} (h : OkS st) (f : Fat) : OkS (st.crashed f) := by
  obtain ⟨h1, h2⟩ := crashK_ok (keep := f.keep) (torn := f.torn) (bytes := f.bytes) h.secs h.cach st.C.length
  exact ⟨h2, by simp [Sd.crashed], by simp only [Sd.crashed, h1]; exact h.bads, by simp only [Sd.crashed, h1]; exact h.size, by simp [Sd.crashed], by simp [Sd.crashed]⟩

theorem lastOf_snoc {C : List (Nat × List Int)} {k : Nat} {x : Nat × List Int} (h : C[k]? = some x) (at' : Nat) (b : List Int) : lastOf (C.take (k + 1)) at' b = if x.1 = at' then x.2 else lastOf (C.take k) at' b := by
  rw [List.take_add_one, h]
  simp [lastOf, List.foldl_append]
theorem putAll_snoc {C : List (Nat × List Int)} {k : Nat} {x : Nat × List Int} (h : C[k]? = some x) (S : List (List Int)) : putAll (C.take (k + 1)) S = (putAll (C.take k) S).set x.1 x.2 := by
  rw [List.take_add_one, h]
  simp [putAll, List.foldl_append]
end Apo
