/- What the program's Arm of a device does, over the translation. -/
import Derived.Test.YtdpbkmbegjcgjaaCDev
namespace Go.Proofs.Ytdpbkmbegjcgjaa
open Go.RowKit Apo Go.Maps

set_option maxHeartbeats 400000 in
theorem carm_any {O : Nat → Prop} {w : World} {p : Nat} {st : Sd} (h : CDev O w p st) (n : Int) (hn1 : n ≤ 9223372036854775807) :
    Calls Try.prog 20 #[.pointer (some ⟨p, 0, none⟩), .int .i64 n] w fun e w' => e = .returned (.tuple #[]) ∧ CDev O w' p (st.armed n) ∧ Onl O w w' := by
  obtain ⟨vK, vC, m, lf, h⟩ := h
  have c0 := h.ob.cell 0
  have c4 := h.ob.cell 4
  have c5 := h.ob.cell 5
  have f4 := h.ob.frozen 4
  have f5 := h.ob.frozen 5
  simp only [List.getElem?_cons_zero, List.getElem?_cons_succ] at c0 c4 c5
  have ok := h.ok.armed hn1
  have H := hide h
  clear h
  by_cases hp : 0 ≤ n
  · have e2 : st.armed n = { st with left := n } := by simp [Sd.armed, hp]
    rw [e2] at ok ⊢
    clear e2
    have hq : decide (0 ≤ n) = true := by simp [hp]
    go_enter Try.func20, Try.ntmps20
    go_wp2
    go_end0
    exact ⟨rfl, ⟨_, _, _, _, H.out.reob (lf' := n) (((Onl.refl _ _).set (O := fun k => k = p) (.inl rfl) _).set (.inl rfl) _) rfl rfl rfl ok (fun _ => rfl) (by simp only [hq]; exact (H.out.ob.set 4 _).set 5 _)⟩, ((Onl.refl _ _).set (.inl H.out.own) _).set (.inl H.out.own) _⟩
  · have e2 : st.armed n = { st with left := -1 } := by simp [Sd.armed, hp]
    rw [e2] at ok ⊢
    clear e2
    have hq : decide (0 ≤ n) = false := by simp; omega
    go_enter Try.func20, Try.ntmps20
    go_wp2
    go_end0
    exact ⟨rfl, ⟨_, _, _, _, H.out.reob (lf' := n) (((Onl.refl _ _).set (O := fun k => k = p) (.inl rfl) _).set (.inl rfl) _) rfl rfl rfl ok (fun h => absurd h (by simp)) (by simpa using (H.out.ob.set 4 (.bool false)).set 5 (.int .i64 n))⟩, ((Onl.refl _ _).set (.inl H.out.own) _).set (.inl H.out.own) _⟩
end Go.Proofs.Ytdpbkmbegjcgjaa
