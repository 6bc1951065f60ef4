/- A ref put amid a row of refs. -/
import Derived.Test.YticofadpbpcejaaRDa
namespace Apo
open Go Go.RowKit
/-- append(s, nothing...) -/
theorem app_zero {P : Program} {W : World} {t e : TypeId} {i : TypeInfo} (hu : P.underlying t = some (.slice e)) (hi : P.info? e = some i) {b x : Option Addr} {n c cx : Nat} (h : n ≤ c) :
    (Builtin.append_ #[t, t] t #[.slice b n c, .slice x 0 cx]).run P W = .ok (.slice b n c) W := by
  cases x <;> cases b <;> simp [Builtin.append_, run_underlying hu, Go.sizeOf, typeInfo, hi, Builtin.lenOf, Builtin.firstCells, loadCells, loadCellsFrom, storeCells, h]
end Apo
namespace Apo
open Go Go.RowKit
section
variable {α : Type} {c : α → List Value} {k : Nat}
theorem row_lit (hk : ∀ x, (c x).length = k) (e : TypeId) (W : World) (x : α) : Row (fun g => g = W.heap.size) (W.alloc (.cells (c x).toArray e)) e k (.slice (some ⟨W.heap.size, 0, none⟩) 1 1) [x].length (gcells c [x]) := by
  have hg : gcells c [x] = c x := by simp [gcells]
  refine ⟨⟨by rw [gcells_len hk], .inr ⟨W.heap.size, 1, (c x).toArray, rfl, Nat.zero_le _, heap_alloc_new W _, by simp, by decide, by simp [hk], ?_⟩⟩, fun g hg => by cases hg; rfl⟩
  rw [hg, List.length_singleton, Nat.one_mul, List.take_of_length_le (by simp [hk])]
theorem RdG.sub {w : World} {g : Nat} {l : List α} (h : RdG c k w (some ⟨g, 0, none⟩) l) (i m : Nat) : RdG c k w (some ⟨g, i * k, none⟩) ((l.drop i).take m) := by
  intro j x hx
  have hj : l[i + j]? = some x := by
    rw [List.getElem?_take] at hx
    split at hx
    · rw [List.getElem?_drop] at hx; exact hx
    · cases hx
  obtain ⟨g', o', h1, h2⟩ := h _ _ hj
  injection h1 with h1
  injection h1 with h1 h1'
  subst h1 h1'
  refine ⟨g, i * k, rfl, fun t u hu => ?_⟩
  have := h2 t u hu
  rwa [Nat.zero_add, Nat.add_mul] at this
end
end Apo
namespace Go.Proofs.Yticofadpbpcejaa
open Go.RowKit Apo
set_option maxRecDepth 100000 in
theorem tins_outer {W w1 : World} {g i n1 c1 : Nat} {y : Addr} {ks : List Rf} {key : Rf} (hl : ks.length ≤ 1000000) (hi : i ≤ ks.length) (b1 : Below W.heap.size W w1) (hg : RdG cRf 3 w1 (some ⟨g, 0, none⟩) (ks.take i)) (hn : n1 = (key :: ks.drop i).length) (hrd : RdG cRf 3 w1 (some y) (key :: ks.drop i)) :
    ∃ a2 c2 w2, (Builtin.append_ #[22, 22] 22 #[.slice (some ⟨g, 0, none⟩) i i, .slice (some y) n1 c1]).run Try.prog w1 = .ok (.slice a2 (ks.take i ++ key :: ks.drop i).length c2) w2 ∧ Row (fun g => W.heap.size ≤ g) w2 32 3 (.slice a2 (ks.take i ++ key :: ks.drop i).length c2) (ks.take i ++ key :: ks.drop i).length (gcells cRf (ks.take i ++ key :: ks.drop i)) ∧ Below W.heap.size W w2 := by
  obtain ⟨i0, hii, hz0, hz1, hz2⟩ := info_parts info_rf
  have hln : (key :: ks.drop i).length = ks.length - i + 1 := by simp
  obtain ⟨v', w', RR, r', g'⟩ := run_append_full (P := Try.prog) (w := w1) 22 22 32 i0 _ 3 32 Try.underlying22 hii hz0 hz1 hz2 rfl ⟨g, 0, none⟩ i (gcells cRf (ks.take i)) (by rw [gcells_len cRf_len]; simp; omega) (RdG.news cRf_len (by decide) hg) y n1 c1 (gcells cRf (key :: ks.drop i)) (by rw [gcells_len cRf_len, hn]) (RdG.news cRf_len (by decide) hrd) (by omega) (by unfold maxLen; omega) (by omega)
  have hlen : i + n1 = (ks.take i ++ key :: ks.drop i).length := by rw [List.length_append, ← hn, List.length_take]; omega
  rw [hlen, ← gcells_app] at r'
  have hrow : Row (fun g => W.heap.size ≤ g) w' 32 3 v' (ks.take i ++ key :: ks.drop i).length (gcells cRf (ks.take i ++ key :: ks.drop i)) := by
    refine ⟨⟨r'.1, ?_⟩, fun g hg => by have := (r'.lt g hg).1; have := b1.size; omega⟩
    rcases r'.2 with q | ⟨g, cap, cur, q1, q2, q3⟩
    · exact .inl q
    · exact .inr ⟨g, cap, cur, q1, Nat.zero_le _, q3⟩
  obtain ⟨a2, c2, hv2, _⟩ := hrow.form
  subst hv2
  exact ⟨a2, c2, w', RR, hrow, ⟨g'.os.trans b1.os, g'.tape.trans b1.tape, g'.output.trans b1.output, Nat.le_trans b1.size g'.size, fun k hk => (g'.block k (by have := b1.size; omega) (by simp)).trans (b1.block k hk)⟩⟩
set_option maxRecDepth 100000 in
/-- a key, put amid -/
theorem tins_mid {W : World} {g i vc : Nat} {ks : List Rf} (rd0 : RdG cRf 3 W (some ⟨g, 0, none⟩) ks) (hgW : g < W.heap.size) (key : Rf) (hl : ks.length ≤ 1000000) (hi : i < ks.length) :
    ∃ a1 c1 n1 w1 a2 c2 w2, (Builtin.append_ #[22, 22] 22 #[.slice (some ⟨W.heap.size, 0, none⟩) 1 1, .slice (some ⟨g, i * 3, none⟩) (ks.length - i) (vc - i)]).run Try.prog (W.alloc (.cells #[.string key.n, .bool key.t, .int .u64 key.i] 32)).drew = .ok (.slice (some a1) n1 c1) w1 ∧
      (Builtin.append_ #[22, 22] 22 #[.slice (some ⟨g, 0, none⟩) i i, .slice (some a1) n1 c1]).run Try.prog w1 = .ok (.slice a2 (ks.take i ++ key :: ks.drop i).length c2) w2 ∧ Row (fun g => W.heap.size ≤ g) w2 32 3 (.slice a2 (ks.take i ++ key :: ks.drop i).length c2) (ks.take i ++ key :: ks.drop i).length (gcells cRf (ks.take i ++ key :: ks.drop i)) ∧ Below W.heap.size W w2 ∧ Below W.heap.size W w1 := by
  obtain ⟨A, hA⟩ : ∃ A, A = (W.alloc (.cells #[.string key.n, .bool key.t, .int .u64 key.i] 32)).drew := ⟨_, rfl⟩
  have bA : Onl (fun _ => False) W A := by rw [hA]; exact ((Onl.refl _ W).alloc _).drew
  have sA : A.heap.size = W.heap.size + 1 := by rw [hA]; simp
  have rA : Row (fun g => g = W.heap.size) A 32 3 (.slice (some ⟨W.heap.size, 0, none⟩) 1 1) [key].length (gcells cRf [key]) := by
    rw [hA]
    exact (row_lit cRf_len 32 W key).onl (F := fun _ => False) ((Onl.refl _ _).drew) (fun _ _ q => q)
  have rdA := rd0.onl bA (fun _ _ q => q)
  have rdd : RdG cRf 3 A (some ⟨g, i * 3, none⟩) (ks.drop i) := by
    have := rdA.sub i (ks.length - i)
    rwa [List.take_of_length_le (by simp)] at this
  obtain ⟨v1, w1, R1, r1, o1, ow1⟩ := app_rf (cp := vc - i) rA (by simp; omega) rdd
  obtain ⟨g1, c1, hv1, _, _, _, _, _⟩ := r1.shape (by simp)
  subst hv1
  have b1 : Below W.heap.size W w1 := Below.onl (Onl.toBelow bA (fun _ q => q.elim) (Nat.le_refl _)) o1 (fun i q => by cases q; exact Nat.le_refl _) (Nat.le_refl _)
  obtain ⟨a3, c3, hv3, rd3, _⟩ := rd_gcells cRf_len r1
  injection hv3 with e1 e2 e3
  subst e1
  have rdg : RdG cRf 3 w1 (some ⟨g, 0, none⟩) (ks.take i) := by
    have := (rdA.sub 0 i).onl o1 (fun x hx q => by cases hx; simp only [Value.ownBlock, Option.some.injEq] at q; omega)
    simpa using this
  obtain ⟨a2, c2, w2, R2, r2, b2⟩ := tins_outer (W := W) (c1 := c1) hl (by omega) b1 rdg rfl rd3
  rw [List.length_drop, hA] at R1
  exact ⟨_, c1, _, w1, a2, c2, w2, R1, R2, r2, b2, b1⟩
set_option maxRecDepth 100000 in
/-- a key, put at the end -/
theorem tins_end {W : World} {g : Nat} {ks : List Rf} (rd0 : RdG cRf 3 W (some ⟨g, 0, none⟩) ks) (key : Rf) (hl : ks.length ≤ 1000000) (x : Option Addr) (cx : Nat) :
    ∃ a2 c2 w2, (Builtin.append_ #[22, 22] 22 #[.slice (some ⟨W.heap.size, 0, none⟩) 1 1, .slice x 0 cx]).run Try.prog (W.alloc (.cells #[.string key.n, .bool key.t, .int .u64 key.i] 32)).drew = .ok (.slice (some ⟨W.heap.size, 0, none⟩) 1 1) (W.alloc (.cells #[.string key.n, .bool key.t, .int .u64 key.i] 32)).drew ∧
      (Builtin.append_ #[22, 22] 22 #[.slice (some ⟨g, 0, none⟩) ks.length ks.length, .slice (some ⟨W.heap.size, 0, none⟩) 1 1]).run Try.prog (W.alloc (.cells #[.string key.n, .bool key.t, .int .u64 key.i] 32)).drew = .ok (.slice a2 (ks ++ [key]).length c2) w2 ∧ Row (fun g => W.heap.size ≤ g) w2 32 3 (.slice a2 (ks ++ [key]).length c2) (ks ++ [key]).length (gcells cRf (ks ++ [key])) ∧ Below W.heap.size W w2 := by
  obtain ⟨i0, hii, _⟩ := info_parts info_rf
  obtain ⟨A, hA⟩ : ∃ A, A = (W.alloc (.cells #[.string key.n, .bool key.t, .int .u64 key.i] 32)).drew := ⟨_, rfl⟩
  have bA : Onl (fun _ => False) W A := by rw [hA]; exact ((Onl.refl _ W).alloc _).drew
  have rA : RdG cRf 3 A (some ⟨W.heap.size, 0, none⟩) [key] := by
    rw [hA]
    exact (rd_lit (c := cRf) (k := 3) 32 W key).onl (O := fun _ => False) ((Onl.refl _ _).drew) (fun _ _ q => q)
  have rdA := rd0.onl bA (fun _ _ q => q)
  obtain ⟨a2, c2, w2, R2, r2, b2⟩ := tins_outer (W := W) (w1 := A) (c1 := 1) (i := ks.length) (key := key) hl (Nat.le_refl _) (Onl.toBelow bA (fun _ q => q.elim) (Nat.le_refl _)) (by rw [List.take_length]; exact rdA) (n1 := 1) (by simp) (by rw [List.drop_length]; exact rA)
  simp only [List.take_length, List.drop_length] at R2 r2
  rw [← hA]
  exact ⟨a2, c2, w2, app_zero Try.underlying22 hii (Nat.le_refl _), R2, r2, b2⟩
set_option maxRecDepth 100000 in
/-- the first key -/
theorem tins_first (W : World) (key : Rf) :
    ∃ a2 c2 w2, (Builtin.append_ #[22, 22] 22 #[.slice (some ⟨W.heap.size, 0, none⟩) 1 1, .slice none 0 0]).run Try.prog (W.alloc (.cells #[.string key.n, .bool key.t, .int .u64 key.i] 32)).drew = .ok (.slice (some ⟨W.heap.size, 0, none⟩) 1 1) (W.alloc (.cells #[.string key.n, .bool key.t, .int .u64 key.i] 32)).drew ∧
      (Builtin.append_ #[22, 22] 22 #[.slice none 0 0, .slice (some ⟨W.heap.size, 0, none⟩) 1 1]).run Try.prog (W.alloc (.cells #[.string key.n, .bool key.t, .int .u64 key.i] 32)).drew = .ok (.slice a2 1 c2) w2 ∧ Row (fun g => W.heap.size ≤ g) w2 32 3 (.slice a2 1 c2) [key].length (gcells cRf [key]) ∧ Below W.heap.size W w2 := by
  obtain ⟨i0, hii, _⟩ := info_parts info_rf
  obtain ⟨A, hA⟩ : ∃ A, A = (W.alloc (.cells #[.string key.n, .bool key.t, .int .u64 key.i] 32)).drew := ⟨_, rfl⟩
  have bA : Onl (fun _ => False) W A := by rw [hA]; exact ((Onl.refl _ W).alloc _).drew
  have sA : A.heap.size = W.heap.size + 1 := by rw [hA]; simp
  have rA : RdG cRf 3 A (some ⟨W.heap.size, 0, none⟩) [key] := by
    rw [hA]
    exact (rd_lit (c := cRf) (k := 3) 32 W key).onl (O := fun _ => False) ((Onl.refl _ _).drew) (fun _ _ q => q)
  obtain ⟨v2, w2, R2, r2, o2, ow2⟩ := app_rf (cp := 1) (l := []) (Row.nil (fun _ => False) A 32 3) (by simp) rA
  obtain ⟨a2, c2, hv2, _⟩ := r2.form
  subst hv2
  rw [← hA]
  exact ⟨a2, c2, w2, app_zero Try.underlying22 hii (Nat.le_refl _), R2, ⟨r2.1, fun g hg => (r2.2 g hg).elim (fun q => q.elim) (fun q => by omega)⟩, Below.onl (Onl.toBelow bA (fun _ q => q.elim) (Nat.le_refl _)) o2 (fun i q => by cases q) (Nat.le_refl _)⟩
end Go.Proofs.Yticofadpbpcejaa
