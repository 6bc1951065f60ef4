/- The document's Keys, over the translation. -/
import Derived.Test.YtoneedobhopkkaaDOg
import Derived.BigQuiet
namespace Apo
open Go Go.RowKit
/-- append(s, nothing...) -/
theorem app_zero {P : Program} {W : World} {t e : TypeId} {i : TypeInfo} (hu : P.underlying t = some (.slice e)) (hi : P.info? e = some i) {b x : Option Addr} {n c cx : Nat} (h : n ≤ c) :
    (Builtin.append_ #[t, t] t #[.slice b n c, .slice x 0 cx]).run P W = .ok (.slice b n c) W := by
  cases x <;> cases b <;> simp [Builtin.append_, run_underlying hu, Go.sizeOf, typeInfo, hi, Builtin.lenOf, Builtin.firstCells, loadCells, loadCellsFrom, storeCells, h]
end Apo
namespace Go.Proofs.Ytoneedobhopkkaa
open Go.RowKit Apo
/-- rows of maps in memory -/
def RdM (w : World) (a : Option Addr) (ms : List (Option Addr × Nat × List En)) : Prop :=
  ∀ i m, ms[i]? = some m → (∃ g o, a = some ⟨g, o, none⟩ ∧ w.cell? ⟨g, o + i, none⟩ = some (.slice m.1 m.2.2.length m.2.1)) ∧ RdEn w m.1 m.2.2
theorem RdM.below {w w' : World} {a : Option Addr} {ms : List (Option Addr × Nat × List En)} (h : RdM w a ms) (b : Below w.heap.size w w') : RdM w' a ms := fun i m hm => by
  obtain ⟨⟨g, o, h1, h2⟩, h3⟩ := h i m hm
  exact ⟨⟨g, o, h1, (b.cell (p := ⟨g, o + i, none⟩) (World.block_lt_of_cell? _ _ h2)).trans h2⟩, h3.below b⟩
/-- keys, rising, each once -/
structure KsS (ks seen : List ByteArray) : Prop where
  rise : Rise ks
  mem : ∀ k, k ∈ ks ↔ k ∈ seen
  len : ks.length ≤ seen.length
theorem KsS.nil : KsS [] [] := ⟨List.Pairwise.nil, fun _ => Iff.rfl, Nat.le_refl _⟩
theorem KsS.skip {ks seen : List ByteArray} {key : ByteArray} (h : KsS ks seen) (hk : key ∈ ks) : KsS ks (seen ++ [key]) :=
  ⟨h.rise, fun k => by
    rw [h.mem, List.mem_append, List.mem_singleton]
    exact ⟨fun q => .inl q, fun q => q.elim id (fun z => by rw [z]; exact (h.mem _).1 hk)⟩, by have := h.len; simp; omega⟩
theorem KsS.put {ks seen : List ByteArray} {key : ByteArray} {i : Nat} (h : KsS ks seen) (hi : i ≤ ks.length) (h1 : ∀ t y, t < i → ks[t]? = some y → sLt y key = true) (h2 : ∀ y, ks[i]? = some y → sLt key y = true) : KsS (ks.take i ++ key :: ks.drop i) (seen ++ [key]) := by
  refine ⟨?_, fun k => ?_, ?_⟩
  · unfold Rise
    rw [List.pairwise_append]
    have hr := h.rise
    unfold Rise at hr
    refine ⟨hr.sublist (List.take_sublist _ _), List.Pairwise.cons (fun y hy => ?_) (hr.sublist (List.drop_sublist _ _)), fun x hx y hy => ?_⟩
    · obtain ⟨t, ht, rfl⟩ := List.mem_iff_getElem.1 hy
      simp only [List.length_drop] at ht
      have hit : ks[i]? = some (ks[i]'(by omega)) := List.getElem?_eq_getElem _
      have q1 := h2 _ hit
      rw [List.getElem_drop]
      by_cases z : t = 0
      · subst z; exact q1
      · exact sLt_trans q1 (List.pairwise_iff_getElem.1 hr i (i + t) (by omega) (by omega) (by omega))
    · obtain ⟨t, ht, rfl⟩ := List.mem_iff_getElem.1 hx
      simp only [List.length_take] at ht
      have hxk : sLt ((ks.take i)[t]'(by simp; omega)) key = true := by
        rw [List.getElem_take]
        exact h1 t _ (by omega) (List.getElem?_eq_getElem _)
      rcases List.mem_cons.1 hy with rfl | hy
      · exact hxk
      · obtain ⟨s, hs, rfl⟩ := List.mem_iff_getElem.1 hy
        simp only [List.length_drop] at hs
        rw [List.getElem_take, List.getElem_drop]
        exact List.pairwise_iff_getElem.1 hr t (i + s) (by omega) (by omega) (by omega)
  · rw [List.mem_append, List.mem_cons, List.mem_append, List.mem_singleton, ← h.mem]
    have : k ∈ ks ↔ k ∈ ks.take i ∨ k ∈ ks.drop i := by rw [← List.mem_append, List.take_append_drop]
    rw [this]
    constructor
    · rintro (q | q | q)
      · exact .inl (.inl q)
      · exact .inr q
      · exact .inl (.inr q)
    · rintro ((q | q) | q)
      · exact .inl q
      · exact .inr (.inr q)
      · exact .inr (.inl q)
  · have := h.len
    simp
    omega
/-- how keys lie while they are gathered -/
def KeJ (w : World) (ks seen : List ByteArray) (va : Option Addr) (vc : Nat) (wr : World) : Prop :=
  Row (fun g => w.heap.size ≤ g) wr 9 1 (.slice va ks.length vc) ks.length (gcells cTx ks) ∧ Below w.heap.size w wr ∧ KsS ks seen ∧ (ks = [] → va = none ∧ vc = 0)
def DKeP (R : List ByteArray → Prop) (w : World) (e : Ending) (w' : World) : Prop := ∃ (ks : List ByteArray) (va : Option Addr) (vc : Nat), e = .returned (.slice va ks.length vc) ∧ R ks ∧ Row (fun g => w.heap.size ≤ g) w' 9 1 (.slice va ks.length vc) ks.length (gcells cTx ks) ∧ Below w.heap.size w w'
end Go.Proofs.Ytoneedobhopkkaa
namespace Apo
open Go Go.RowKit
section
variable {α : Type} {c : α → List Value} {k : Nat}
theorem row_lit (hk : ∀ x, (c x).length = k) (e : TypeId) (W : World) (x : α) : Row (fun g => g = W.heap.size) (W.alloc (.cells (c x).toArray e)) e k (.slice (some ⟨W.heap.size, 0, none⟩) 1 1) [x].length (gcells c [x]) := by
  have hg : gcells c [x] = c x := by simp [gcells]
  refine ⟨⟨by rw [gcells_len hk], .inr ⟨W.heap.size, 1, (c x).toArray, rfl, Nat.zero_le _, heap_alloc_new W _, by simp, by decide, by simp [hk], ?_⟩⟩, fun g hg => by cases hg; rfl⟩
  rw [hg, List.length_singleton, Nat.one_mul, List.take_of_length_le (by simp [hk])]
theorem RdG.sub {w : World} {g : Nat} {l : List α} (h : RdG c k w (some ⟨g, 0, none⟩) l) (i m : Nat) : RdG c k w (some ⟨g, i * k, none⟩) ((l.drop i).take m) := by
  intro j x hx
  have hj : l[i + j]? = some x := by
    rw [List.getElem?_take] at hx
    split at hx
    · rw [List.getElem?_drop] at hx; exact hx
    · cases hx
  obtain ⟨g', o', h1, h2⟩ := h _ _ hj
  injection h1 with h1
  injection h1 with h1 h1'
  subst h1 h1'
  refine ⟨g, i * k, rfl, fun t u hu => ?_⟩
  have := h2 t u hu
  rwa [Nat.zero_add, Nat.add_mul] at this
end
end Apo
namespace Go.Proofs.Ytoneedobhopkkaa
open Go.RowKit Apo
set_option maxRecDepth 100000 in
theorem ins_outer {W w1 : World} {g i n1 c1 : Nat} {y : Addr} {ks : List ByteArray} {key : ByteArray} (hl : ks.length ≤ 1000000) (hi : i ≤ ks.length) (b1 : Below W.heap.size W w1) (hg : RdG cTx 1 w1 (some ⟨g, 0, none⟩) (ks.take i)) (hn : n1 = (key :: ks.drop i).length) (hrd : RdG cTx 1 w1 (some y) (key :: ks.drop i)) :
    ∃ a2 c2 w2, (Builtin.append_ #[44, 44] 44 #[.slice (some ⟨g, 0, none⟩) i i, .slice (some y) n1 c1]).run Try.prog w1 = .ok (.slice a2 (ks.take i ++ key :: ks.drop i).length c2) w2 ∧ Row (fun g => W.heap.size ≤ g) w2 9 1 (.slice a2 (ks.take i ++ key :: ks.drop i).length c2) (ks.take i ++ key :: ks.drop i).length (gcells cTx (ks.take i ++ key :: ks.drop i)) ∧ Below W.heap.size W w2 := by
  obtain ⟨i0, hii, hz0, hz1, hz2⟩ := info_parts info_tx
  have hln : (key :: ks.drop i).length = ks.length - i + 1 := by simp
  obtain ⟨v', w', RR, r', g'⟩ := run_append_full (P := Try.prog) (w := w1) 44 44 9 i0 _ 1 16 Try.underlying44 hii hz0 hz1 hz2 rfl ⟨g, 0, none⟩ i (gcells cTx (ks.take i)) (by rw [gcells_len cTx_len]; simp; omega) (RdG.news cTx_len (by decide) hg) y n1 c1 (gcells cTx (key :: ks.drop i)) (by rw [gcells_len cTx_len, hn]) (RdG.news cTx_len (by decide) hrd) (by omega) (by unfold maxLen; omega) (by omega)
  have hlen : i + n1 = (ks.take i ++ key :: ks.drop i).length := by rw [List.length_append, ← hn, List.length_take]; omega
  rw [hlen, ← gcells_app] at r'
  have hrow : Row (fun g => W.heap.size ≤ g) w' 9 1 v' (ks.take i ++ key :: ks.drop i).length (gcells cTx (ks.take i ++ key :: ks.drop i)) := by
    refine ⟨⟨r'.1, ?_⟩, fun g hg => by have := (r'.lt g hg).1; have := b1.size; omega⟩
    rcases r'.2 with q | ⟨g, cap, cur, q1, q2, q3⟩
    · exact .inl q
    · exact .inr ⟨g, cap, cur, q1, Nat.zero_le _, q3⟩
  obtain ⟨a2, c2, hv2, _⟩ := hrow.form
  subst hv2
  exact ⟨a2, c2, w', RR, hrow, ⟨g'.os.trans b1.os, g'.tape.trans b1.tape, g'.output.trans b1.output, Nat.le_trans b1.size g'.size, fun k hk => (g'.block k (by have := b1.size; omega) (by simp)).trans (b1.block k hk)⟩⟩
set_option maxRecDepth 100000 in
/-- a key, put amid -/
theorem ins_mid {O : Nat → Prop} {W : World} {g i vc : Nat} {ks : List ByteArray} (row : Row O W 9 1 (.slice (some ⟨g, 0, none⟩) ks.length vc) ks.length (gcells cTx ks)) (key : ByteArray) (hl : ks.length ≤ 1000000) (hi : i < ks.length) :
    ∃ a1 c1 n1 w1 a2 c2 w2, (Builtin.append_ #[44, 44] 44 #[.slice (some ⟨W.heap.size, 0, none⟩) 1 1, .slice (some ⟨g, i, none⟩) (ks.length - i) (vc - i)]).run Try.prog (W.alloc (.cells #[.string key] 9)).drew = .ok (.slice (some a1) n1 c1) w1 ∧
      (Builtin.append_ #[44, 44] 44 #[.slice (some ⟨g, 0, none⟩) i i, .slice (some a1) n1 c1]).run Try.prog w1 = .ok (.slice a2 (ks.take i ++ key :: ks.drop i).length c2) w2 ∧ Row (fun g => W.heap.size ≤ g) w2 9 1 (.slice a2 (ks.take i ++ key :: ks.drop i).length c2) (ks.take i ++ key :: ks.drop i).length (gcells cTx (ks.take i ++ key :: ks.drop i)) ∧ Below W.heap.size W w2 := by
  obtain ⟨A, hA⟩ : ∃ A, A = (W.alloc (.cells #[.string key] 9)).drew := ⟨_, rfl⟩
  have bA : Onl (fun _ => False) W A := by rw [hA]; exact ((Onl.refl _ W).alloc _).drew
  have sA : A.heap.size = W.heap.size + 1 := by rw [hA]; simp
  have rA : Row (fun g => g = W.heap.size) A 9 1 (.slice (some ⟨W.heap.size, 0, none⟩) 1 1) [key].length (gcells cTx [key]) := by
    rw [hA]
    exact (row_lit cTx_len 9 W key).onl (F := fun _ => False) ((Onl.refl _ _).drew) (fun _ _ q => q)
  obtain ⟨a0, c0, hv0, rd0, _, _, _, _⟩ := rd_gcells cTx_len row
  injection hv0 with e1 e2 e3
  subst e1
  have rdA := rd0.onl bA (fun _ _ q => q)
  have rdd : RdG cTx 1 A (some ⟨g, i, none⟩) (ks.drop i) := by
    have := rdA.sub i (ks.length - i)
    rwa [Nat.mul_one, List.take_of_length_le (by simp)] at this
  obtain ⟨v1, w1, R1, r1, o1, ow1⟩ := app_tx (cp := vc - i) rA (by simp; omega) rdd
  obtain ⟨g1, c1, hv1, _, _, _, _, _⟩ := r1.shape (by simp)
  subst hv1
  have b1 : Below W.heap.size W w1 := Below.onl (Onl.toBelow bA (fun _ q => q.elim) (Nat.le_refl _)) o1 (fun i q => by cases q; exact Nat.le_refl _) (Nat.le_refl _)
  obtain ⟨a3, c3, hv3, rd3, _⟩ := rd_gcells cTx_len r1
  injection hv3 with e1 e2 e3
  subst e1
  have hgW : g < W.heap.size := row.lt g rfl
  have rdg : RdG cTx 1 w1 (some ⟨g, 0, none⟩) (ks.take i) := by
    have := (rdA.sub 0 i).onl o1 (fun x hx q => by cases hx; simp only [Value.ownBlock, Option.some.injEq] at q; omega)
    simpa using this
  obtain ⟨a2, c2, w2, R2, r2, b2⟩ := ins_outer (W := W) (c1 := c1) hl (by omega) b1 rdg rfl rd3
  rw [List.length_drop, hA] at R1
  exact ⟨_, c1, _, w1, a2, c2, w2, R1, R2, r2, b2⟩
set_option maxRecDepth 100000 in
/-- a key, put at the end -/
theorem ins_end {O : Nat → Prop} {W : World} {g vc : Nat} {ks : List ByteArray} (row : Row O W 9 1 (.slice (some ⟨g, 0, none⟩) ks.length vc) ks.length (gcells cTx ks)) (key : ByteArray) (hl : ks.length ≤ 1000000) (x : Option Addr) (cx : Nat) :
    ∃ a2 c2 w2, (Builtin.append_ #[44, 44] 44 #[.slice (some ⟨W.heap.size, 0, none⟩) 1 1, .slice x 0 cx]).run Try.prog (W.alloc (.cells #[.string key] 9)).drew = .ok (.slice (some ⟨W.heap.size, 0, none⟩) 1 1) (W.alloc (.cells #[.string key] 9)).drew ∧
      (Builtin.append_ #[44, 44] 44 #[.slice (some ⟨g, 0, none⟩) ks.length ks.length, .slice (some ⟨W.heap.size, 0, none⟩) 1 1]).run Try.prog (W.alloc (.cells #[.string key] 9)).drew = .ok (.slice a2 (ks ++ [key]).length c2) w2 ∧ Row (fun g => W.heap.size ≤ g) w2 9 1 (.slice a2 (ks ++ [key]).length c2) (ks ++ [key]).length (gcells cTx (ks ++ [key])) ∧ Below W.heap.size W w2 := by
  obtain ⟨i0, hii, _⟩ := info_parts info_tx
  obtain ⟨A, hA⟩ : ∃ A, A = (W.alloc (.cells #[.string key] 9)).drew := ⟨_, rfl⟩
  have bA : Onl (fun _ => False) W A := by rw [hA]; exact ((Onl.refl _ W).alloc _).drew
  have rA : RdG cTx 1 A (some ⟨W.heap.size, 0, none⟩) [key] := by
    rw [hA]
    exact (rd_lit (c := cTx) (k := 1) 9 W key).onl (O := fun _ => False) ((Onl.refl _ _).drew) (fun _ _ q => q)
  obtain ⟨a0, c0, hv0, rd0, _, _, _, _⟩ := rd_gcells cTx_len row
  injection hv0 with e1 e2 e3
  subst e1
  have rdA := rd0.onl bA (fun _ _ q => q)
  obtain ⟨a2, c2, w2, R2, r2, b2⟩ := ins_outer (W := W) (w1 := A) (c1 := 1) (i := ks.length) (key := key) hl (Nat.le_refl _) (Onl.toBelow bA (fun _ q => q.elim) (Nat.le_refl _)) (by rw [List.take_length]; exact rdA) (n1 := 1) (by simp) (by rw [List.drop_length]; exact rA)
  simp only [List.take_length, List.drop_length] at R2 r2
  rw [← hA]
  exact ⟨a2, c2, w2, app_zero Try.underlying44 hii (Nat.le_refl _), R2, r2, b2⟩
set_option maxRecDepth 100000 in
/-- the first key -/
theorem ins_first (W : World) (key : ByteArray) :
    ∃ a2 c2 w2, (Builtin.append_ #[44, 44] 44 #[.slice (some ⟨W.heap.size, 0, none⟩) 1 1, .slice none 0 0]).run Try.prog (W.alloc (.cells #[.string key] 9)).drew = .ok (.slice (some ⟨W.heap.size, 0, none⟩) 1 1) (W.alloc (.cells #[.string key] 9)).drew ∧
      (Builtin.append_ #[44, 44] 44 #[.slice none 0 0, .slice (some ⟨W.heap.size, 0, none⟩) 1 1]).run Try.prog (W.alloc (.cells #[.string key] 9)).drew = .ok (.slice a2 1 c2) w2 ∧ Row (fun g => W.heap.size ≤ g) w2 9 1 (.slice a2 1 c2) [key].length (gcells cTx [key]) ∧ Below W.heap.size W w2 := by
  obtain ⟨i0, hii, _⟩ := info_parts info_tx
  obtain ⟨A, hA⟩ : ∃ A, A = (W.alloc (.cells #[.string key] 9)).drew := ⟨_, rfl⟩
  have bA : Onl (fun _ => False) W A := by rw [hA]; exact ((Onl.refl _ W).alloc _).drew
  have sA : A.heap.size = W.heap.size + 1 := by rw [hA]; simp
  have rA : RdG cTx 1 A (some ⟨W.heap.size, 0, none⟩) [key] := by
    rw [hA]
    exact (rd_lit (c := cTx) (k := 1) 9 W key).onl (O := fun _ => False) ((Onl.refl _ _).drew) (fun _ _ q => q)
  obtain ⟨v2, w2, R2, r2, o2, ow2⟩ := app_tx (cp := 1) (l := []) (Row.nil (fun _ => False) A 9 1) (by simp) rA
  obtain ⟨a2, c2, hv2, _⟩ := r2.form
  subst hv2
  rw [← hA]
  exact ⟨a2, c2, w2, app_zero Try.underlying44 hii (Nat.le_refl _), R2, ⟨r2.1, fun g hg => (r2.2 g hg).elim (fun q => q.elim) (fun q => by omega)⟩, Below.onl (Onl.toBelow bA (fun _ q => q.elim) (Nat.le_refl _)) o2 (fun i q => by cases q) (Nat.le_refl _)⟩
end Go.Proofs.Ytoneedobhopkkaa
