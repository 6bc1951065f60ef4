/- What slices.Clone does at the program's three slice types, over the translation. -/
import Derived.Test.YtdpbkmbegjcgjaaCNew
import Derived.Maps.AppendAt
import Derived.Lib.SliceRun
namespace Go.Proofs.Ytdpbkmbegjcgjaa
open Go.RowKit Apo
attribute [local go_sem ↓] Apo.app_exec

theorem info_byte : (Try.prog.info? 5).map (fun i => (i.zero, i.size, i.bytes)) = some (some (.int .u8 0), 1, 1) := by kernel_rfl

/-- 'append(T{}, s...)', s an own row -/
theorem clone_app {w : World} {t e : TypeId} {i : TypeInfo} {z : Value} {size bytes : Nat} (ht : Try.prog.underlying t = some (.slice e)) (hi : Try.prog.info? e = some i) (hz : i.zero = some z) (hs : i.size = size) (hb : i.bytes = bytes) (hzs : z.cells.size = size) (hsz : 0 < size)
    (a : Addr) (n cap : Nat) (xs : List Value) (hl : xs.length = n * size) (hx : ∀ j u, xs[j]? = some u → w.cell? (a.add j) = some u) (h1 : ∀ u ∈ xs, u.oneCell' = true) (h63 : n ≤ maxLen) (hby : n * bytes ≤ 140737488355328) :
    ∃ v' w', (Builtin.append_ #[t, t] t #[.slice (some ⟨w.heap.size, 0, none⟩) 0 0, .slice (some a) n cap]).run Try.prog (w.alloc (.cells #[] e)) = .ok v' w' ∧ Row (Fresh w w') w' e size v' n xs ∧ Below w.heap.size w w' ∧ ∃ g c, v' = .slice (some ⟨g, 0, none⟩) n c := by
  have hown : (w.alloc (.cells #[] e)).ownsRow w.heap.size e size (.slice (some ⟨w.heap.size, 0, none⟩) 0 0) 0 [] := ⟨by simp, .inr ⟨w.heap.size, 0, #[], rfl, Nat.le_refl _, heap_alloc_new w _, Nat.le_refl _, Nat.zero_le _, by simp, by simp⟩⟩
  obtain ⟨v', w', R, r1, g1, hnil, _⟩ := run_append_own_at (P := Try.prog) (w.alloc (.cells #[] e)) w.heap.size t t e i z size bytes ht hi hz hs hb hzs hsz (.slice (some ⟨w.heap.size, 0, none⟩) 0 0) 0 [] hown a n cap xs hl (fun j u hu => by
    have := hx j u hu
    exact (World.cell?_of_block (Below.heap_alloc w _ _ (World.block_lt_of_cell? w _ this))).trans this) h1 (by omega) (by rw [Nat.zero_add]; exact hby) (by simp)
  rw [List.nil_append, Nat.zero_add] at r1
  refine ⟨v', w', R, ⟨r1.mono (Nat.zero_le _), fun g hg => r1.lt g hg⟩, ?_, ?_⟩
  · exact ((Below.refl _ w).alloc (Nat.le_refl _) _).grown g1 (by simp) (fun k hk => by simp [Value.ownBlock] at hk; omega)
  · rcases r1.2 with ⟨hn, _⟩ | ⟨g, c, cur, hv, _⟩
    · exact absurd (hnil.1 hn).1 (by simp)
    · exact ⟨g, c, hv⟩
end Go.Proofs.Ytdpbkmbegjcgjaa
