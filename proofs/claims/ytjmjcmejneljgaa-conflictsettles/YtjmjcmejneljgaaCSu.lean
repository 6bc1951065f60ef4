/- The document's Settle, over the translation. -/
import Derived.Test.YtjmjcmejneljgaaCSt
namespace Go.Proofs.Ytjmjcmejneljgaa
open Go.RowKit Apo
theorem ob_mid (w : World) (o o2 : Obj) (t : TypeId) (cs : List Value) : Ob (((w.alloc o).alloc (.cells cs.toArray t)).alloc o2) (w.heap.size + 1) t cs := by
  have := (Ob.new (w.alloc o) cs t).alloc o2
  rw [World.size_alloc] at this
  exact this
theorem below_three (w : World) (o1 o2 o3 : Obj) : Below w.heap.size w (((w.alloc o1).alloc o2).alloc o3) := (((Below.refl _ w).alloc (Nat.le_refl _) _).alloc (by simp) _).alloc (by simp; omega) _
set_option maxRecDepth 100000 in
set_option maxHeartbeats 4000000 in
theorem rsettle_any (how : Int) (c : Cl) (w : World) : Calls Try.prog 17 #[c.val, .int .i64 how] w (StP how c w) := by
  have hP : Hid (∀ e w', e = .returned (.tuple #[.agg #[.string (settleE how c).1.k, .string (settleE how c).1.v, .bool (settleE how c).1.g], .int .i64 (settleE how c).2]) → Below w.heap.size w w' → StP how c w e w') := hide (fun _ _ h1 h2 => ⟨h1, h2⟩)
  generalize StP how c w = Q at hP ⊢
  obtain ⟨k, ⟨a0, a1⟩, ⟨b0, b1⟩, ⟨c0, c1⟩⟩ := c
  simp only [Cl.val]
  by_cases h1 : how = 1
  · subst h1
    cases b0 <;>
    · go_enter Try.func17, Try.ntmps17
      go_wp2
      exact fin_rsettle (ob_mid w _ _ _ [_, _, _]) rfl rfl (hP.out _ _ rfl (below_three _ _ _ _))
  · have d1 : (how == 1) = false := by simpa using h1
    by_cases h2 : how = 2
    · subst h2
      cases c0 <;>
      · go_enter Try.func17, Try.ntmps17
        go_wp2
        exact fin_rsettle (ob_mid w _ _ _ [_, _, _]) rfl rfl (hP.out _ _ rfl (below_three _ _ _ _))
    · have d2 : (how == 2) = false := by simpa using h2
      by_cases h3 : how = 3
      · subst h3
        cases a0 <;>
        · go_enter Try.func17, Try.ntmps17
          go_wp2
          exact fin_rsettle (ob_mid w _ _ _ [_, _, _]) rfl rfl (hP.out _ _ rfl (below_three _ _ _ _))
      · have d3 : (how == 3) = false := by simpa using h3
        have HS : Hid (settleE how ⟨k, ⟨a0, a1⟩, ⟨b0, b1⟩, ⟨c0, c1⟩⟩ = (⟨⟨#[]⟩, ⟨#[]⟩, false⟩, 137)) := hide (by unfold settleE sideOf; rw [if_neg h1, if_neg h2, if_neg h3])
        clear h1 h2 h3
        go_enter Try.func17, Try.ntmps17
        go_wp2
        exact fin_rsettle (ob_mid w _ _ _ [_, _, _]) rfl rfl (hP.out _ _ (by rw [HS.out]; rfl) (below_three _ _ _ _))
end Go.Proofs.Ytjmjcmejneljgaa
