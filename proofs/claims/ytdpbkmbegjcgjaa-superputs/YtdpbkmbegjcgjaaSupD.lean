/- What a Save and a Load make of a device as it is meant. No Go text is named here. -/
import Derived.Test.YtdpbkmbegjcgjaaSupM
import Derived.Test.YtdpbkmbegjcgjaaSd
namespace Apo
open Go Go.RowKit

/-- what a Save makes of a device -/
def Sd.save (st : Sd) (s : Sup) : Int × Sd :=
  if st.flushed.1 = 0 then (if (st.flushed.2.wrote ((s.e : Int) % 2) (superB s)).1 = 0 then (st.flushed.2.wrote ((s.e : Int) % 2) (superB s)).2.flushed else st.flushed.2.wrote ((s.e : Int) % 2) (superB s)) else st.flushed
theorem flushed_vals (st : Sd) : st.flushed.1 = 0 ∨ st.flushed.1 = 40 := by
  unfold Sd.flushed
  split
  · exact .inl rfl
  · exact .inr rfl
theorem wrote_vals (st : Sd) (a : Int) (b : List Int) : (st.wrote a b).1 = 0 ∨ (st.wrote a b).1 = 1 ∨ (st.wrote a b).1 = 40 := by
  unfold Sd.wrote
  split
  · exact .inr (.inr rfl)
  · split
    · split
      · exact .inl rfl
      · exact .inr (.inr rfl)
    · exact .inr (.inl rfl)
/-- the super that is loaded of two sectors' bytes -/
def pickSup (la lb : List Int) : Sup × Int :=
  if isSup la = false ∧ isSup lb = false then (Sup.none, 50) else if isSup la = false ∨ (isSup lb = true ∧ (supOf la).e < (supOf lb).e) then (supOf lb, 0) else (supOf la, 0)
def Sd.load (st : Sd) : Sup × Int :=
  if (st.told 0).2 = 0 then (if (st.told 1).2 = 0 then pickSup (st.told 0).1 (st.told 1).1 else (Sup.none, (st.told 1).2)) else (Sup.none, (st.told 0).2)
theorem told_byt {st : Sd} (ok : OkS st) (a : Int) : ∀ z ∈ (st.told a).1, 0 ≤ z ∧ z ≤ 255 := by
  unfold Sd.told
  split
  · simp
  · split
    · next h =>
      split
      · simp
      · have h2 := has_iff.1 h
        have hi : a.toNat < st.S.length := by omega
        have hg : st.S.getD a.toNat [] = st.S[a.toNat] := by simp [List.getD, hi]
        rw [hg]
        have : ∀ (C : List (Nat × List Int)) (b : List Int), (∀ x ∈ C, Sec x.2) → Sec b → Sec (lastOf C a.toNat b) := by
          intro C
          induction C with
          | nil => intro b _ hb; exact hb
          | cons x C ih =>
            intro b hC hb
            have := ih (if x.1 = a.toNat then x.2 else b) (fun y hy => hC y (by simp [hy])) (by split; exact hC x (by simp); exact hb)
            simpa [lastOf] using this
        exact (this st.C _ (fun x hx => (ok.cach x hx).2) (ok.secs _ (List.getElem_mem hi))).2
    · simp
end Apo
