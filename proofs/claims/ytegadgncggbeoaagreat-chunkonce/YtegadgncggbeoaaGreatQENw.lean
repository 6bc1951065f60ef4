/- New, slices.Clone and Copy of the program's Free, over the translation. -/
import Derived.Maps.AppendAt
import Derived.Lib.SliceRun
import Derived.Test.YtegadgncggbeoaaGreatQGEf
namespace Go.Proofs.YtegadgncggbeoaaGreat
open Go.RowKit Apo
attribute [local go_sem ↓] Apo.app_exec

set_option maxRecDepth 100000 in
theorem newFr_len (m n : Int) : (newFr m n).L.length = lenF n := by simp [newFr]
set_option maxRecDepth 100000 in
theorem newFr_rows (m n : Int) : (newFr m n).rows = if m.toNat < lenF n then [(m.toNat, lenF n - m.toNat)] else [] := by
  symm
  have hat : ∀ i, (newFr m n).L[i]? = some true ↔ (m.toNat ≤ i ∧ i < lenF n) := by
    intro i
    simp only [newFr]
    rw [List.getElem?_map]
    by_cases h : i < lenF n
    · rw [List.getElem?_range h]
      simp [h]
    · rw [List.getElem?_eq_none (by simpa using h)]
      simp [h]
  apply rows_unique
  · split
    · exact ⟨List.pairwise_singleton _ _, fun x hx => by rw [List.mem_singleton] at hx; subst hx; simp only; omega⟩
    · exact ⟨List.Pairwise.nil, fun x hx => by cases hx⟩
  · intro i
    rw [hat]
    split
    · rw [cov_one]; simp only; omega
    · exact ⟨fun h => (cov_nil h).elim, fun h => by omega⟩
set_option maxRecDepth 100000 in
theorem newFr_whole (m n : Int) : (newFr m n).whole = if m.toNat < lenF n then (m.toNat, lenF n - m.toNat) else (0, 0) := by
  unfold Fr.whole
  rw [newFr_len]
  rfl

set_option maxRecDepth 100000 in
/-- with pages -/
theorem new_mem {w W1 : World} {F D : Int} {m n : Int} (h1 : m.toNat < lenF n) (hF : F = m.toNat) (hD : D = ((lenF n - m.toNat : Nat) : Int)) (b : Below (w.heap.size + 1) (w.alloc (.cells #[.bool true, .int .i64 0, .int .i64 0, .slice none 0 0] 156)) W1) :
    let W2 := (W1.setCell ⟨w.heap.size, 1, none⟩ (.int .i64 F)).setCell ⟨w.heap.size, 2, none⟩ (.int .i64 D)
    let W3 := (W2.setCell ⟨w.heap.size, 3, none⟩ (.slice (some ⟨W1.heap.size, 0, none⟩) 1 1)).alloc (.cells #[.int .i64 F, .int .i64 D] 84)
    CFr (fun i => w.heap.size ≤ i ∧ i < W3.heap.size) W3 w.heap.size (newFr m n) ∧ Below w.heap.size w W3 := by
  intro W2 W3
  have hz := b.size
  rw [World.size_alloc] at hz
  have hs2 : W2.heap.size = W1.heap.size := by simp [W2]
  have hs3 : W3.heap.size = W1.heap.size + 1 := by simp [W3, hs2]
  have o1 : Ob W1 w.heap.size 156 [.bool true, .int .i64 0, .int .i64 0, .slice none 0 0] := (Ob.new w [.bool true, .int .i64 0, .int .i64 0, .slice none 0 0] 156).below b (by omega)
  have o2 := (((o1.set 1 (.int .i64 F)).set 2 (.int .i64 D)).set 3 (.slice (some ⟨W1.heap.size, 0, none⟩) 1 1)).alloc (.cells #[.int .i64 F, .int .i64 D] 84)
  have r3 : Ob W3 W1.heap.size 84 [.int .i64 F, .int .i64 D] := by
    have := Ob.new (W2.setCell ⟨w.heap.size, 3, none⟩ (.slice (some ⟨W1.heap.size, 0, none⟩) 1 1)) [.int .i64 F, .int .i64 D] 84
    have e : (W2.setCell ⟨w.heap.size, 3, none⟩ (.slice (some ⟨W1.heap.size, 0, none⟩) 1 1)).heap.size = W1.heap.size := by simp [hs2]
    rw [e] at this
    exact this
  refine ⟨⟨newFr_ok m n, ⟨Nat.le_refl _, by omega⟩, .slice (some ⟨W1.heap.size, 0, none⟩) 1 1, ?_, ?_⟩, ?_⟩
  · rw [newFr_whole, if_pos h1]
    simp only
    rw [← hF, ← hD]
    simpa using o2
  · rw [newFr_rows, if_pos h1]
    refine ob_row ⟨by omega, by omega⟩ r3 (Nat.le_refl _) (by unfold maxLen; omega) rfl ?_
    rw [hF, hD]
    simp [rcells]
  · have b1 : Below w.heap.size w W1 := ((Below.refl w.heap.size w).alloc (Nat.le_refl _) _).trans (b.mono (by omega))
    exact (((b1.setCell (p := ⟨w.heap.size, 1, none⟩) (Nat.le_refl _) _).setCell (p := ⟨w.heap.size, 2, none⟩) (Nat.le_refl _) _).setCell (p := ⟨w.heap.size, 3, none⟩) (Nat.le_refl _) _).alloc (by simp; omega) _
set_option maxRecDepth 100000 in
/-- without -/
theorem new_none {w : World} {m n : Int} (h1 : ¬ m.toNat < lenF n) :
    CFr (fun i => w.heap.size ≤ i ∧ i < (w.alloc (.cells #[.bool true, .int .i64 0, .int .i64 0, .slice none 0 0] 156)).heap.size) (w.alloc (.cells #[.bool true, .int .i64 0, .int .i64 0, .slice none 0 0] 156)) w.heap.size (newFr m n) ∧ Below w.heap.size w (w.alloc (.cells #[.bool true, .int .i64 0, .int .i64 0, .slice none 0 0] 156)) := by
  refine ⟨⟨newFr_ok m n, ⟨Nat.le_refl _, by simp⟩, .slice none 0 0, ?_, ?_⟩, (Below.refl _ w).alloc (Nat.le_refl _) _⟩
  · rw [newFr_whole, if_neg h1]
    exact Ob.new w [.bool true, .int .i64 0, .int .i64 0, .slice none 0 0] 156
  · rw [newFr_rows, if_neg h1]
    exact Row.nil _ _ _ _
set_option maxRecDepth 100000 in
set_option maxHeartbeats 1000000 in
theorem xnew_any (m n : Int) (w : World) (hm : m ≤ 9223372036854775807) : Calls Tryz.prog 62 #[.int .i64 m, .int .i64 n] w fun e w' => ∃ p, e = .returned (.pointer (some ⟨p, 0, none⟩)) ∧ CFr (fun i => w.heap.size ≤ i ∧ i < w'.heap.size) w' p (newFr m n) ∧ Below w.heap.size w w' := by
  obtain ⟨F, hF⟩ : ∃ F : Int, F = if m < 0 then 0 else m := ⟨_, rfl⟩
  obtain ⟨N, hN⟩ : ∃ N : Int, N = if 16384 < n then 16384 else n := ⟨_, rfl⟩
  have hF1 : F = (m.toNat : Int) := by rw [hF]; split <;> omega
  have hN1 : (16384 < n ∧ lenF n = 16384 ∧ N = 16384) ∨ (n ≤ 16384 ∧ lenF n = n.toNat ∧ N = n) := by
    unfold lenF
    by_cases h : 16384 < n
    · rw [if_pos h] at hN
      exact .inl ⟨h, if_pos h, hN⟩
    · rw [if_neg h] at hN
      exact .inr ⟨by omega, if_neg h, hN⟩
  by_cases hlt : F < N
  · have h1 : m.toNat < lenF n := by omega
    have wD : IntKind.i64.wrap (N - F) = ((lenF n - m.toNat : Nat) : Int) := wrap_nat (by omega) (by omega)
    obtain ⟨D, hD⟩ : ∃ D : Int, D = ((lenF n - m.toNat : Nat) : Int) := ⟨_, rfl⟩
    rw [← hD] at wD
    have C := fun W => between_any wD W
    have HFin := hide (fun W1 (b : Below (w.heap.size + 1) (w.alloc (.cells #[.bool true, .int .i64 0, .int .i64 0, .slice none 0 0] 156)) W1) => new_mem (W1 := W1) h1 hF1 hD b)
    have k0 := Ob.new w [.bool true, .int .i64 0, .int .i64 0, .slice none 0 0] 156
    have HK0 := hide k0
    by_cases hm0 : m < 0
    · rw [if_pos hm0] at hF
      subst hF
      by_cases hn0 : 16384 < n
      · rw [if_pos hn0] at hN
        subst hN
        clear hF1 hN1 h1 wD hD k0
        go_enter Tryz.func62, Tryz.ntmps62
        go_wp2_with fail
        refine (C _).mono ?_
        rintro e W1 ⟨rfl, b⟩
        have k1 := HK0.out.old b
        have x1 := k1.cell 1
        have x2 := k1.cell 2
        have x3 := k1.cell 3
        have f1 := k1.frozen 1
        have f2 := k1.frozen 2
        have f3 := k1.frozen 3
        simp only [List.getElem?_cons_succ, List.getElem?_cons_zero] at x1 x2 x3
        have hsz := k1.lt
        have HR := hide (HFin.out W1 (by rw [World.size_alloc] at b; exact b))
        clear b k1
        go_wp2
        go_ret
        exact ⟨_, rfl, HR.out⟩
      · rw [if_neg hn0] at hN
        subst hN
        have hn1 : N ≤ 16384 := by omega
        clear hF1 hN1 h1 wD hD k0
        go_enter Tryz.func62, Tryz.ntmps62
        go_wp2_with fail
        refine (C _).mono ?_
        rintro e W1 ⟨rfl, b⟩
        have k1 := HK0.out.old b
        have x1 := k1.cell 1
        have x2 := k1.cell 2
        have x3 := k1.cell 3
        have f1 := k1.frozen 1
        have f2 := k1.frozen 2
        have f3 := k1.frozen 3
        simp only [List.getElem?_cons_succ, List.getElem?_cons_zero] at x1 x2 x3
        have hsz := k1.lt
        have HR := hide (HFin.out W1 (by rw [World.size_alloc] at b; exact b))
        clear b k1
        go_wp2
        go_ret
        exact ⟨_, rfl, HR.out⟩
    · rw [if_neg hm0] at hF
      subst hF
      have hm1 : 0 ≤ F := by omega
      by_cases hn0 : 16384 < n
      · rw [if_pos hn0] at hN
        subst hN
        clear hF1 hN1 h1 wD hD k0
        go_enter Tryz.func62, Tryz.ntmps62
        go_wp2_with fail
        refine (C _).mono ?_
        rintro e W1 ⟨rfl, b⟩
        have k1 := HK0.out.old b
        have x1 := k1.cell 1
        have x2 := k1.cell 2
        have x3 := k1.cell 3
        have f1 := k1.frozen 1
        have f2 := k1.frozen 2
        have f3 := k1.frozen 3
        simp only [List.getElem?_cons_succ, List.getElem?_cons_zero] at x1 x2 x3
        have hsz := k1.lt
        have HR := hide (HFin.out W1 (by rw [World.size_alloc] at b; exact b))
        clear b k1
        go_wp2
        go_ret
        exact ⟨_, rfl, HR.out⟩
      · rw [if_neg hn0] at hN
        subst hN
        have hn1 : N ≤ 16384 := by omega
        clear hF1 hN1 h1 wD hD k0
        go_enter Tryz.func62, Tryz.ntmps62
        go_wp2_with fail
        refine (C _).mono ?_
        rintro e W1 ⟨rfl, b⟩
        have k1 := HK0.out.old b
        have x1 := k1.cell 1
        have x2 := k1.cell 2
        have x3 := k1.cell 3
        have f1 := k1.frozen 1
        have f2 := k1.frozen 2
        have f3 := k1.frozen 3
        simp only [List.getElem?_cons_succ, List.getElem?_cons_zero] at x1 x2 x3
        have hsz := k1.lt
        have HR := hide (HFin.out W1 (by rw [World.size_alloc] at b; exact b))
        clear b k1
        go_wp2
        go_ret
        exact ⟨_, rfl, HR.out⟩
  · have h1 : ¬ m.toNat < lenF n := by omega
    have HFin := hide (new_none (w := w) h1)
    by_cases hm0 : m < 0
    · rw [if_pos hm0] at hF
      subst hF
      by_cases hn0 : 16384 < n
      · rw [if_pos hn0] at hN
        subst hN
        omega
      · rw [if_neg hn0] at hN
        subst hN
        have hn1 : N ≤ 16384 := by omega
        clear hF1 hN1 h1
        go_enter Tryz.func62, Tryz.ntmps62
        go_wp2
        go_ret
        exact ⟨_, rfl, HFin.out⟩
    · rw [if_neg hm0] at hF
      subst hF
      have hm1 : 0 ≤ F := by omega
      by_cases hn0 : 16384 < n
      · rw [if_pos hn0] at hN
        subst hN
        clear hF1 hN1 h1
        go_enter Tryz.func62, Tryz.ntmps62
        go_wp2
        go_ret
        exact ⟨_, rfl, HFin.out⟩
      · rw [if_neg hn0] at hN
        subst hN
        have hn1 : N ≤ 16384 := by omega
        clear hF1 hN1 h1
        go_enter Tryz.func62, Tryz.ntmps62
        go_wp2
        go_ret
        exact ⟨_, rfl, HFin.out⟩

set_option maxRecDepth 100000 in
/-- slices.Clone: a row of its own -/
theorem eclone_app {w : World} {a : Addr} {n cap : Nat} {xs : List Value} (hl : xs.length = n * 2) (hx : ∀ j u, xs[j]? = some u → w.cell? (a.add j) = some u) (h1 : ∀ u ∈ xs, u.oneCell' = true) (hn : n ≤ 16384) :
    ∃ b n' c w', (Builtin.append_ #[67, 67] 67 #[.slice (some ⟨w.heap.size, 0, none⟩) 0 0, .slice (some a) n cap]).run Tryz.prog (w.alloc (.cells #[] 84)) = .ok (.slice b n' c) w' ∧ w'.ownsRow w.heap.size 84 2 (.slice b n' c) n xs ∧ Below w.heap.size w w' := by
  obtain ⟨i0, hi0, hz0, hz1, hz2⟩ := info_parts info_span
  have hown : (w.alloc (.cells #[] 84)).ownsRow w.heap.size 84 2 (.slice (some ⟨w.heap.size, 0, none⟩) 0 0) 0 [] := ⟨by simp, .inr ⟨w.heap.size, 0, #[], rfl, Nat.le_refl _, heap_alloc_new w _, Nat.le_refl _, Nat.zero_le _, by simp, by simp⟩⟩
  obtain ⟨v', w', R, r1, g1, _⟩ := run_append_own (P := Tryz.prog) (w.alloc (.cells #[] 84)) w.heap.size 67 67 84 i0 _ 2 16 Tryz.underlying67 hi0 hz0 hz1 hz2 rfl (by decide) (.slice (some ⟨w.heap.size, 0, none⟩) 0 0) 0 [] hown a n cap xs hl (fun j u hu => by
    have := hx j u hu
    exact (World.cell?_of_block (Below.heap_alloc w _ _ (World.block_lt_of_cell? w _ this))).trans this) h1 (by unfold maxLen; omega) (by omega) (by simp)
  rw [List.nil_append, Nat.zero_add] at r1
  obtain ⟨b, c, e⟩ := own_len2 r1
  subst e
  exact ⟨b, n, c, w', R, r1, ((Below.refl _ w).alloc (Nat.le_refl _) _).grown g1 (by simp) (fun k hk => by simp [Value.ownBlock] at hk; omega)⟩
set_option maxRecDepth 100000 in
theorem eclone_any {O : Nat → Prop} {w : World} {v : Value} {R : List (Nat × Nat)} (h : Row O w 84 2 v R.length (rcells R)) (hR : R.length ≤ 16384) :
    Calls Tryz.prog 125 #[v] w fun e w' => ∃ a n c, e = .returned (.slice a n c) ∧ w'.ownsRow w.heap.size 84 2 (.slice a n c) R.length (rcells R) ∧ Below w.heap.size w w' := by
  rcases row_ob h with ⟨rfl, h0, hx⟩ | ⟨g, cap, cur, rfl, _, bR, _, _, hr3, hr4⟩
  · have HR := hide (show w.ownsRow w.heap.size 84 2 (.slice none 0 0) R.length (rcells R) by rw [h0, hx]; exact World.ownsRow_nil _ _ _ _)
    clear h h0 hx
    have hq := fun wx => Lib.run_eql_slice_nil (P := Tryz.prog) wx 67 84 none 0 0 0 0 Tryz.underlying67
    go_enter Tryz.func125, Tryz.ntmps125
    go_wp2
    go_ret
    exact ⟨none, 0, 0, rfl, HR.out, Below.refl _ _⟩
  · obtain ⟨b, n', c, w5, RR, r5, b5⟩ := eclone_app (w := w) (a := ⟨g, 0, none⟩) (cap := cap) (rcells_len R) (ob_src bR (fun j u hu => by
      have hj := (List.getElem?_eq_some_iff.1 hu).1
      rw [rcells_len] at hj
      rw [← hr4, List.getElem?_take_of_lt hj] at hu
      rw [Nat.zero_add]; exact hu)) (rcells_one R) hR
    obtain ⟨q1, q2, q3⟩ := app_runs RR
    have HR := hide r5
    have HB := hide b5
    clear h RR r5 b5 hr3 hr4 bR
    have hq := fun wx => Lib.run_eql_slice_nil (P := Tryz.prog) wx 67 84 (some ⟨g, 0, none⟩) R.length cap 0 0 Tryz.underlying67
    go_enter Tryz.func125, Tryz.ntmps125
    go_wp2
    go_ret
    exact ⟨_, _, _, rfl, HR.out, HB.out⟩
set_option maxRecDepth 100000 in
set_option maxHeartbeats 1000000 in
theorem xcopy_any {O : Nat → Prop} {w : World} {p : Nat} {f : Fr} (h : CFr O w p f) :
    Calls Tryz.prog 92 #[.pointer (some ⟨p, 0, none⟩)] w fun e w' => ∃ q, e = .returned (.pointer (some ⟨q, 0, none⟩)) ∧ CFr (fun i => w.heap.size ≤ i ∧ i < w'.heap.size) w' q f ∧ Below w.heap.size w w' := by
  obtain ⟨v, m0, r0⟩ := h.mem
  have hok := h.ok
  have CC := eclone_any (w := w.drew) (O := O) (v := v) (R := f.rows) (r0.onl (F := fun _ => False) ((Onl.refl _ w).drew) (fun _ _ q => q)) (crows_len hok)
  obtain ⟨va, vc, e⟩ := own_len2 r0.1
  subst e
  have x0 := m0.cell 0
  have x1 := m0.cell 1
  have x2 := m0.cell 2
  have x3 := m0.cell 3
  simp only [List.getElem?_cons_succ, List.getElem?_cons_zero] at x0 x1 x2 x3
  have m1 : Ob w.drew p 156 [.bool true, .int .i64 (f.whole.1 : Int), .int .i64 (f.whole.2 : Int), .slice va f.rows.length vc] := m0
  have HK := hide m1
  have HOk := hide hok
  clear h m0 m1 r0 hok
  go_enter Tryz.func92, Tryz.ntmps92
  go_wp2_with fail
  refine wp_region_held_drew (S := (fun W' => W'.cell? ⟨p, 1, none⟩ = some (.int .i64 (f.whole.1 : Int)) ∧ W'.cell? ⟨p, 2, none⟩ = some (.int .i64 (f.whole.2 : Int)) ∧ W'.cell? ⟨p, 3, none⟩ = some (.slice va f.rows.length vc))) (by kernel_rfl) ?_ (fun hHeld => ?_)
  · exact ⟨HK.out.cell 1, HK.out.cell 2, HK.out.cell 3⟩
  first
    | (refine wpAnyH_take (i := 0) (v := ?_) rfl (by kernel_rfl) (by kernel_rfl) (by kernel_rfl) (fun _ _ _ h => h) (Or.inl ⟨by rfl, ?_⟩) (by assumption) ?_; rotate_left; (intro wx hSx; obtain ⟨q0, q1, q2⟩ := hSx; go_simp; first | done | with_reducible rfl))
    | (refine wpAnyH_take (i := 0) (v := undef) rfl (by kernel_rfl) (by kernel_rfl) (by kernel_rfl) (fun _ _ _ h => h) (Or.inr ⟨by rfl, rfl⟩) (by assumption) ?_)
  simp only [Act.put, List.getElem_toArray, List.getElem_cons_zero, List.setIfInBounds_toArray, List.set_cons_zero, List.set_cons_succ]
  first
    | (refine wpAnyH_take (i := 1) (v := ?_) rfl (by kernel_rfl) (by kernel_rfl) (by kernel_rfl) (fun _ _ _ h => h) (Or.inl ⟨by rfl, ?_⟩) (by assumption) ?_; rotate_left; (intro wx hSx; obtain ⟨q0, q1, q2⟩ := hSx; go_simp; first | done | with_reducible rfl))
    | (refine wpAnyH_take (i := 1) (v := undef) rfl (by kernel_rfl) (by kernel_rfl) (by kernel_rfl) (fun _ _ _ h => h) (Or.inr ⟨by rfl, rfl⟩) (by assumption) ?_)
  simp only [Act.put, List.getElem_toArray, List.getElem_cons_succ, List.getElem_cons_zero, List.setIfInBounds_toArray, List.set_cons_zero, List.set_cons_succ]
  first
    | (refine wpAnyH_take (i := 2) (v := ?_) rfl (by kernel_rfl) (by kernel_rfl) (by kernel_rfl) (fun _ _ _ h => h) (Or.inl ⟨by rfl, ?_⟩) (by assumption) ?_; rotate_left; (intro wx hSx; obtain ⟨q0, q1, q2⟩ := hSx; go_simp; first | done | with_reducible rfl))
    | (refine wpAnyH_take (i := 2) (v := undef) rfl (by kernel_rfl) (by kernel_rfl) (by kernel_rfl) (fun _ _ _ h => h) (Or.inr ⟨by rfl, rfl⟩) (by assumption) ?_)
  simp only [Act.put, List.getElem_toArray, List.getElem_cons_succ, List.getElem_cons_zero, List.setIfInBounds_toArray, List.set_cons_zero, List.set_cons_succ]
  first
    | (refine wpAnyH_take (i := 3) (v := ?_) rfl (by kernel_rfl) (by kernel_rfl) (by kernel_rfl) (fun _ _ _ h => h) (Or.inl ⟨by rfl, ?_⟩) (by assumption) ?_; rotate_left; (intro wx hSx; obtain ⟨q0, q1, q2⟩ := hSx; go_simp; first | done | with_reducible rfl))
    | (refine wpAnyH_take (i := 3) (v := undef) rfl (by kernel_rfl) (by kernel_rfl) (by kernel_rfl) (fun _ _ _ h => h) (Or.inr ⟨by rfl, rfl⟩) (by assumption) ?_)
  simp only [Act.put, List.getElem_toArray, List.getElem_cons_succ, List.getElem_cons_zero, List.setIfInBounds_toArray, List.set_cons_zero, List.set_cons_succ]
  first
    | (refine wpAnyH_take (i := 4) (v := ?_) rfl (by kernel_rfl) (by kernel_rfl) (by kernel_rfl) (fun _ _ _ h => h) (Or.inl ⟨by rfl, ?_⟩) (by assumption) ?_; rotate_left; (intro wx hSx; obtain ⟨q0, q1, q2⟩ := hSx; go_simp; first | done | with_reducible rfl))
    | (refine wpAnyH_take (i := 4) (v := undef) rfl (by kernel_rfl) (by kernel_rfl) (by kernel_rfl) (fun _ _ _ h => h) (Or.inr ⟨by rfl, rfl⟩) (by assumption) ?_)
  simp only [Act.put, List.getElem_toArray, List.getElem_cons_succ, List.getElem_cons_zero, List.setIfInBounds_toArray, List.set_cons_zero, List.set_cons_succ]
  first
    | (refine wpAnyH_take (i := 5) (v := ?_) rfl (by kernel_rfl) (by kernel_rfl) (by kernel_rfl) (fun _ _ _ h => h) (Or.inl ⟨by rfl, ?_⟩) (by assumption) ?_; rotate_left; (intro wx hSx; obtain ⟨q0, q1, q2⟩ := hSx; go_simp; first | done | with_reducible rfl))
    | (refine wpAnyH_take (i := 5) (v := undef) rfl (by kernel_rfl) (by kernel_rfl) (by kernel_rfl) (fun _ _ _ h => h) (Or.inr ⟨by rfl, rfl⟩) (by assumption) ?_)
  simp only [Act.put, List.getElem_toArray, List.getElem_cons_succ, List.getElem_cons_zero, List.setIfInBounds_toArray, List.set_cons_zero, List.set_cons_succ]
  first
    | (refine wpAnyH_take (i := 6) (v := ?_) rfl (by kernel_rfl) (by kernel_rfl) (by kernel_rfl) (fun _ _ _ h => h) (Or.inl ⟨by rfl, ?_⟩) (by assumption) ?_; rotate_left; (intro wx hSx; obtain ⟨q0, q1, q2⟩ := hSx; go_simp; first | done | with_reducible rfl))
    | (refine wpAnyH_take (i := 6) (v := undef) rfl (by kernel_rfl) (by kernel_rfl) (by kernel_rfl) (fun _ _ _ h => h) (Or.inr ⟨by rfl, rfl⟩) (by assumption) ?_)
  simp only [Act.put, List.getElem_toArray, List.getElem_cons_succ, List.getElem_cons_zero, List.setIfInBounds_toArray, List.set_cons_zero, List.set_cons_succ]
  first
    | (refine wpAnyH_take (i := 7) (v := ?_) rfl (by kernel_rfl) (by kernel_rfl) (by kernel_rfl) (fun _ _ _ h => h) (Or.inl ⟨by rfl, ?_⟩) (by assumption) ?_; rotate_left; (intro wx hSx; obtain ⟨q0, q1, q2⟩ := hSx; go_simp; first | done | with_reducible rfl))
    | (refine wpAnyH_take (i := 7) (v := undef) rfl (by kernel_rfl) (by kernel_rfl) (by kernel_rfl) (fun _ _ _ h => h) (Or.inr ⟨by rfl, rfl⟩) (by assumption) ?_)
  simp only [Act.put, List.getElem_toArray, List.getElem_cons_succ, List.getElem_cons_zero, List.setIfInBounds_toArray, List.set_cons_zero, List.set_cons_succ]
  refine wpAnyH_ready (rs := [8]) (by kernel_rfl) (by simp) ?_
  refine AllReadyH.cons rfl (fun K hK => ?_) AllReadyH.nil
  go_simp
  go_at_call 125
  refine CC.mono ?_
  rintro e W1 ⟨a1, n1, c1, rfl, r1, b1⟩
  have T := HK.out.old b1
  have k1 := T.cell 1
  have k2 := T.cell 2
  have k3 := T.cell 3
  simp only [List.getElem?_cons_succ, List.getElem?_cons_zero] at k1 k2 k3
  have HT := hide T
  have HR1 := hide r1
  have HB1 := hide b1
  clear T r1 b1
  go_wp2_with fail
  refine hK.out _ _ ?_ (fun hHeld => ?_)
  · exact ⟨HT.out.cell 1, HT.out.cell 2, HT.out.cell 3⟩
  clear hK K
  first
    | (refine wpAnyH_take (i := 9) (v := ?_) rfl (by kernel_rfl) (by kernel_rfl) (by kernel_rfl) (fun _ _ _ h => h) (Or.inl ⟨by rfl, ?_⟩) (by assumption) ?_; rotate_left; (intro wx hSx; obtain ⟨q0, q1, q2⟩ := hSx; go_simp; first | done | with_reducible rfl))
    | (refine wpAnyH_take (i := 9) (v := undef) rfl (by kernel_rfl) (by kernel_rfl) (by kernel_rfl) (fun _ _ _ h => h) (Or.inr ⟨by rfl, rfl⟩) (by assumption) ?_)
  simp only [Act.put, List.getElem_toArray, List.getElem_cons_succ, List.getElem_cons_zero, List.setIfInBounds_toArray, List.set_cons_zero, List.set_cons_succ]
  refine wpAnyH_ready (rs := [10]) (by kernel_rfl) (by simp) ?_
  refine AllReadyH.cons rfl (fun K hK => ?_) AllReadyH.nil
  go_simp
  have HT2 := hide (HT.out.alloc (.cells #[.bool true, .int .i64 (f.whole.1 : Int), .int .i64 (f.whole.2 : Int), .slice a1 n1 c1] 156))
  refine hK.out _ _ ?_ (fun hHeld => ?_)
  · exact ⟨HT2.out.cell 1, HT2.out.cell 2, HT2.out.cell 3⟩
  clear hK K
  first
    | (refine wpAnyH_take (i := 11) (v := ?_) rfl (by kernel_rfl) (by kernel_rfl) (by kernel_rfl) (fun _ _ _ h => h) (Or.inl ⟨by rfl, ?_⟩) (by assumption) ?_; rotate_left; (intro wx hSx; obtain ⟨q0, q1, q2⟩ := hSx; go_simp; first | done | with_reducible rfl))
    | (refine wpAnyH_take (i := 11) (v := undef) rfl (by kernel_rfl) (by kernel_rfl) (by kernel_rfl) (fun _ _ _ h => h) (Or.inr ⟨by rfl, rfl⟩) (by assumption) ?_)
  simp only [Act.put, List.getElem_toArray, List.getElem_cons_succ, List.getElem_cons_zero, List.setIfInBounds_toArray, List.set_cons_zero, List.set_cons_succ]
  refine wpAnyH_done (by kernel_rfl) ?_ _
  go_wp2
  go_ret
  have hb : Below w.heap.size w W1 := ((Below.refl _ w).drew).trans HB1.out
  have r2 := (HR1.out.alloc (.cells #[.bool true, .int .i64 (f.whole.1 : Int), .int .i64 (f.whole.2 : Int), .slice a1 n1 c1] 156))
  have hz := hb.size
  exact ⟨W1.heap.size, rfl, ⟨HOk.out, ⟨hz, by simp⟩, .slice a1 n1 c1, Ob.new W1 [.bool true, .int .i64 (f.whole.1 : Int), .int .i64 (f.whole.2 : Int), .slice a1 n1 c1] 156, ⟨r2.mono (Nat.zero_le _), fun k hk => r2.lt k hk⟩⟩, hb.alloc hz _⟩
end Go.Proofs.YtegadgncggbeoaaGreat
