/- What slices.Clone does at the program's three slice types, over the translation. -/
import Derived.Test.YtgkgbemliinajaaCNew
import Derived.Maps.AppendAt
import Derived.Lib.SliceRun
namespace Go.Proofs.Ytgkgbemliinajaa
open Go.RowKit Apo
attribute [local go_sem ↓] Apo.app_exec

theorem info_byte : (Try.prog.info? 5).map (fun i => (i.zero, i.size, i.bytes)) = some (some (.int .u8 0), 1, 1) := by kernel_rfl

/-- 'append(T{}, s...)', s an own row -/
theorem clone_app {w : World} {t e : TypeId} {i : TypeInfo} {z : Value} {size bytes : Nat} (ht : Try.prog.underlying t = some (.slice e)) (hi : Try.prog.info? e = some i) (hz : i.zero = some z) (hs : i.size = size) (hb : i.bytes = bytes) (hzs : z.cells.size = size) (hsz : 0 < size)
    (a : Addr) (n cap : Nat) (xs : List Value) (hl : xs.length = n * size) (hx : ∀ j u, xs[j]? = some u → w.cell? (a.add j) = some u) (h1 : ∀ u ∈ xs, u.oneCell' = true) (h63 : n ≤ maxLen) (hby : n * bytes ≤ 140737488355328) :
    ∃ v' w', (Builtin.append_ #[t, t] t #[.slice (some ⟨w.heap.size, 0, none⟩) 0 0, .slice (some a) n cap]).run Try.prog (w.alloc (.cells #[] e)) = .ok v' w' ∧ Row (Fresh w w') w' e size v' n xs ∧ Below w.heap.size w w' ∧ ∃ g c, v' = .slice (some ⟨g, 0, none⟩) n c := by
  have hown : (w.alloc (.cells #[] e)).ownsRow w.heap.size e size (.slice (some ⟨w.heap.size, 0, none⟩) 0 0) 0 [] := ⟨by simp, .inr ⟨w.heap.size, 0, #[], rfl, Nat.le_refl _, heap_alloc_new w _, Nat.le_refl _, Nat.zero_le _, by simp, by simp⟩⟩
  obtain ⟨v', w', R, r1, g1, hnil, _⟩ := run_append_own_at (P := Try.prog) (w.alloc (.cells #[] e)) w.heap.size t t e i z size bytes ht hi hz hs hb hzs hsz (.slice (some ⟨w.heap.size, 0, none⟩) 0 0) 0 [] hown a n cap xs hl (fun j u hu => by
    have := hx j u hu
    exact (World.cell?_of_block (Below.heap_alloc w _ _ (World.block_lt_of_cell? w _ this))).trans this) h1 (by omega) (by rw [Nat.zero_add]; exact hby) (by simp)
  rw [List.nil_append, Nat.zero_add] at r1
  refine ⟨v', w', R, ⟨r1.mono (Nat.zero_le _), fun g hg => r1.lt g hg⟩, ?_, ?_⟩
  · exact ((Below.refl _ w).alloc (Nat.le_refl _) _).grown g1 (by simp) (fun k hk => by simp [Value.ownBlock] at hk; omega)
  · rcases r1.2 with ⟨hn, _⟩ | ⟨g, c, cur, hv, _⟩
    · exact absurd (hnil.1 hn).1 (by simp)
    · exact ⟨g, c, hv⟩

set_option maxHeartbeats 1000000 in
theorem cloneS_any {O : Nat → Prop} {w : World} {v : Value} {n : Nat} {xs : List Value} (h : Row O w 65 32 v n xs) (h1 : ∀ u ∈ xs, u.oneCell' = true) (hn : n ≤ 1099511627776) :
    Calls Try.prog 37 #[v] w fun e w' => ∃ v', e = .returned v' ∧ Row (Fresh w w') w' 65 32 v' n xs ∧ Below w.heap.size w w' ∧ ∃ a c, v' = .slice a n c := by
  rcases h.1.2 with ⟨rfl, hz⟩ | ⟨g, cap, cur, rfl, _, hh, hnc, hcm, _⟩
  · subst hz
    have hxs : xs = [] := List.eq_nil_of_length_eq_zero (by have := h.len; omega)
    subst hxs
    clear h
    have hq := fun wx => Lib.run_eql_slice_nil (P := Try.prog) wx 57 65 none 0 0 0 0 Try.underlying57
    go_enter Try.func37, Try.ntmps37
    go_wp2
    go_ret
    exact ⟨_, rfl, Row.nil _ _ _ _, Below.refl _ _, _, _, rfl⟩
  · obtain ⟨i0, hi, hz0, hz1, hz2⟩ := info_parts info_sec
    obtain ⟨v', w', R, r1, r2, g', c', hv⟩ := clone_app (w := w) Try.underlying57 hi hz0 hz1 hz2 (secA_size zeros32) (by decide) ⟨g, 0, none⟩ n cap xs h.len (h.1.cells (g := g) rfl) h1 (by unfold maxLen; omega) (by omega)
    subst hv
    obtain ⟨x1, x2, x3⟩ := app_runs R
    have HR := hide r1
    have HB := hide r2
    clear R r1 r2 h h1 hi hz0 hz1 hz2 hh
    have hq := fun wx => Lib.run_eql_slice_nil (P := Try.prog) wx 57 65 (some ⟨g, 0, none⟩) n cap 0 0 Try.underlying57
    go_enter Try.func37, Try.ntmps37
    go_wp2
    go_ret
    exact ⟨_, rfl, HR.out, HB.out, _, _, rfl⟩

set_option maxHeartbeats 1000000 in
theorem cloneC_any {O : Nat → Prop} {w : World} {v : Value} {n : Nat} {xs : List Value} (h : Row O w 67 33 v n xs) (h1 : ∀ u ∈ xs, u.oneCell' = true) (hn : n ≤ 1099511627776) :
    Calls Try.prog 38 #[v] w fun e w' => ∃ v', e = .returned v' ∧ Row (Fresh w w') w' 67 33 v' n xs ∧ Below w.heap.size w w' ∧ ∃ a c, v' = .slice a n c := by
  rcases h.1.2 with ⟨rfl, hz⟩ | ⟨g, cap, cur, rfl, _, hh, hnc, hcm, _⟩
  · subst hz
    have hxs : xs = [] := List.eq_nil_of_length_eq_zero (by have := h.len; omega)
    subst hxs
    clear h
    have hq := fun wx => Lib.run_eql_slice_nil (P := Try.prog) wx 60 67 none 0 0 0 0 Try.underlying60
    go_enter Try.func38, Try.ntmps38
    go_wp2
    go_ret
    exact ⟨_, rfl, Row.nil _ _ _ _, Below.refl _ _, _, _, rfl⟩
  · obtain ⟨i0, hi, hz0, hz1, hz2⟩ := info_parts info_wri
    obtain ⟨v', w', R, r1, r2, g', c', hv⟩ := clone_app (w := w) Try.underlying60 hi hz0 hz1 hz2 (wrA_size (x := (0, zeros)) zeros32) (by decide) ⟨g, 0, none⟩ n cap xs h.len (h.1.cells (g := g) rfl) h1 (by unfold maxLen; omega) (by omega)
    subst hv
    obtain ⟨x1, x2, x3⟩ := app_runs R
    have HR := hide r1
    have HB := hide r2
    clear R r1 r2 h h1 hi hz0 hz1 hz2 hh
    have hq := fun wx => Lib.run_eql_slice_nil (P := Try.prog) wx 60 67 (some ⟨g, 0, none⟩) n cap 0 0 Try.underlying60
    go_enter Try.func38, Try.ntmps38
    go_wp2
    go_ret
    exact ⟨_, rfl, HR.out, HB.out, _, _, rfl⟩

set_option maxHeartbeats 1000000 in
theorem cloneB_any {O : Nat → Prop} {w : World} {v : Value} {n : Nat} {xs : List Value} (h : Row O w 5 1 v n xs) (h1 : ∀ u ∈ xs, u.oneCell' = true) (hn : n ≤ 1099511627776) :
    Calls Try.prog 34 #[v] w fun e w' => ∃ v', e = .returned v' ∧ Row (Fresh w w') w' 5 1 v' n xs ∧ Below w.heap.size w w' ∧ ∃ a c, v' = .slice a n c := by
  rcases h.1.2 with ⟨rfl, hz⟩ | ⟨g, cap, cur, rfl, _, hh, hnc, hcm, _⟩
  · subst hz
    have hxs : xs = [] := List.eq_nil_of_length_eq_zero (by have := h.len; omega)
    subst hxs
    clear h
    have hq := fun wx => Lib.run_eql_slice_nil (P := Try.prog) wx 29 5 none 0 0 0 0 Try.underlying29
    go_enter Try.func34, Try.ntmps34
    go_wp2
    go_ret
    exact ⟨_, rfl, Row.nil _ _ _ _, Below.refl _ _, _, _, rfl⟩
  · obtain ⟨i0, hi, hz0, hz1, hz2⟩ := info_parts info_byte
    obtain ⟨v', w', R, r1, r2, g', c', hv⟩ := clone_app (w := w) Try.underlying29 hi hz0 hz1 hz2 rfl (by decide) ⟨g, 0, none⟩ n cap xs h.len (h.1.cells (g := g) rfl) h1 (by unfold maxLen; omega) (by omega)
    subst hv
    obtain ⟨x1, x2, x3⟩ := app_runs R
    have HR := hide r1
    have HB := hide r2
    clear R r1 r2 h h1 hi hz0 hz1 hz2 hh
    have hq := fun wx => Lib.run_eql_slice_nil (P := Try.prog) wx 29 5 (some ⟨g, 0, none⟩) n cap 0 0 Try.underlying29
    go_enter Try.func34, Try.ntmps34
    go_wp2
    go_ret
    exact ⟨_, rfl, HR.out, HB.out, _, _, rfl⟩
end Go.Proofs.Ytgkgbemliinajaa
