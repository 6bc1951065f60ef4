/- join: a span laid among the rows, over the translation. -/
import Derived.Test.YtegadgncggbeoaaGreatQECu
import Derived.Test.YtegadgncggbeoaaGreatQGPu
namespace Go.Proofs.YtegadgncggbeoaaGreat
open Go.RowKit Apo

/-- what join has in its variables: the span as it has grown -/
structure Jn (O : Nat → Prop) (w : World) (p : Nat) (f : Fr) (v : Value) (A K : Int) (W : World) : Prop where
  m : Ob W p 156 [.bool true, .int .i64 (f.whole.1 : Int), .int .i64 (f.whole.2 : Int), v]
  r : Row O W 84 2 v f.rows.length (rcells f.rows)
  o : Ob W w.heap.size 84 [.int .i64 A, .int .i64 K]
  b : Below w.heap.size w W
section
variable {O : Nat → Prop} {w W W' : World} {p : Nat} {f : Fr} {v : Value} {A K : Int}
set_option maxRecDepth 100000 in
theorem Jn.old (h : Jn O w p f v A K W) (b : Below W.heap.size W W') : Jn O w p f v A K W' := ⟨h.m.old b, h.r.onl (F := fun _ => False) (Onl.ofBelow b) (fun _ _ q => q), h.o.old b, h.b.trans (b.mono h.b.size)⟩
set_option maxRecDepth 100000 in
theorem Jn.drew (h : Jn O w p f v A K W) : Jn O w p f v A K W.drew := h.old ((Below.refl _ W).drew)
set_option maxRecDepth 100000 in
theorem Jn.set (h : Jn O w p f v A K W) (hO : ∀ i, O i → i < w.heap.size) (hp : O p) (A' K' : Int) : Jn O w p f v A' K' ((W.setCell ⟨w.heap.size, 0, none⟩ (.int .i64 A')).setCell ⟨w.heap.size, 1, none⟩ (.int .i64 K')) := by
  have hpl := hO p hp
  have ho : Onl (fun i => i = w.heap.size) W ((W.setCell ⟨w.heap.size, 0, none⟩ (.int .i64 A')).setCell ⟨w.heap.size, 1, none⟩ (.int .i64 K')) := ((Onl.refl (fun i => i = w.heap.size) W).set (p := w.heap.size) (.inl rfl) _).set (p := w.heap.size) (.inl rfl) _
  exact ⟨h.m.onl ho (by omega), h.r.onl ho (fun g hg q => by have := hO g (h.r.2 g hg); omega), (h.o.set 0 _).set 1 _, (h.b.setCell (p := ⟨w.heap.size, 0, none⟩) (Nat.le_refl _) _).setCell (p := ⟨w.heap.size, 1, none⟩) (Nat.le_refl _) _⟩
set_option maxRecDepth 100000 in
theorem Jn.ocells (h : Jn O w p f v A K W) : W.cell? ⟨w.heap.size, 0, none⟩ = some (.int .i64 A) ∧ W.cell? ⟨w.heap.size, 1, none⟩ = some (.int .i64 K) ∧ W.cell? ⟨p, 3, none⟩ = some v := ⟨h.o.cell 0, h.o.cell 1, h.m.cell 3⟩
set_option maxRecDepth 100000 in
theorem Jn.frz (h : Jn O w p f v A K W) : W.frozen? ⟨w.heap.size, 0, none⟩ = false ∧ W.frozen? ⟨w.heap.size, 1, none⟩ = false := ⟨h.o.frozen 0, h.o.frozen 1⟩
set_option maxRecDepth 100000 in
theorem Jn.rcell {g n cap : Nat} (h : Jn O w p f (.slice (some ⟨g, 0, none⟩) n cap) A K W) {I : Nat} {x : Nat × Nat} (hI : f.rows[I]? = some x) : W.cell? ⟨g, I * 2, none⟩ = some (.int .i64 (x.1 : Int)) ∧ W.cell? ⟨g, I * 2 + 1, none⟩ = some (.int .i64 (x.2 : Int)) := by
  obtain ⟨g', cap', e, _, h1, h2, _⟩ := row_cell h.r hI
  cases e
  exact ⟨h1, h2⟩
end
set_option maxRecDepth 100000 in
theorem cell_set_other {W : World} {p q i j : Nat} (h : q ≠ p) (u : Value) : (W.setCell ⟨p, i, none⟩ u).cell? ⟨q, j, none⟩ = W.cell? ⟨q, j, none⟩ := World.cell?_setCell_other _ _ _ _ (by simp )
set_option maxRecDepth 100000 in
/-- the object with the span laid among its rows -/
theorem join_fin {O : Nat → Prop} {w W : World} {p : Nat} {f : Fr} {v : Value} {A K : Int} {s : Spn} (hO : ∀ i, O i → i < w.heap.size) (hp : O p) (hok : OkFr f) (hs : f.all s false = true) (h : Jn O w p f v A K W) {lo hi st en : Nat} (hA : A = st) (hK : K = (en : Int) - st)
    (hj : f.rows.take lo ++ ((st, en - st) :: f.rows.drop hi) = (f.put s true).rows ∧ lo ≤ hi ∧ hi ≤ f.rows.length ∧ st < en) :
    Calls Tryz.prog 137 #[v, .int .i64 lo, .int .i64 hi, .slice (some ⟨W.heap.size, 0, none⟩) 1 1] (W.alloc (.cells #[.int .i64 A, .int .i64 K] 84)) fun e W' => ∃ a n c, e = .returned (.slice a n c) ∧ (W'.cell? ⟨p, 3, none⟩).isSome = true ∧ W'.frozen? ⟨p, 3, none⟩ = false ∧ CFr (Gro O w (W'.setCell ⟨p, 3, none⟩ (.slice a n c))) (W'.setCell ⟨p, 3, none⟩ (.slice a n c)) p (f.put s true) ∧ Onl O w (W'.setCell ⟨p, 3, none⟩ (.slice a n c)) ∧ (W'.cell? ⟨w.heap.size, 0, none⟩ = some (.int .i64 A) ∧ W'.cell? ⟨w.heap.size, 1, none⟩ = some (.int .i64 K)) := by
  obtain ⟨hrows, hle, hhi, hlt⟩ := hj
  have K1 := h.old ((Below.refl _ W).alloc (Nat.le_refl _) (.cells #[.int .i64 A, .int .i64 K] 84))
  have hb := h.b.size
  have hv : Row (fun i => i = W.heap.size) (W.alloc (.cells #[.int .i64 A, .int .i64 K] 84)) 84 2 (.slice (some ⟨W.heap.size, 0, none⟩) 1 1) [(st, en - st)].length (rcells [(st, en - st)]) := by
    refine ob_row (cur := [.int .i64 A, .int .i64 K]) rfl (Ob.new W [.int .i64 A, .int .i64 K] 84) (Nat.le_refl _) (by unfold maxLen; omega) rfl ?_
    rw [hA, hK]
    simp [rcells]
    omega
  have hrl := crows_len hok
  refine (replace_any K1.r hv (fun k hk q => by have := hO k (K1.r.2 k hk); simp [Value.ownBlock] at q; omega) (fun q => by cases q) hle hhi (fun _ => by simp) (by simp) hrl).mono ?_
  rintro e W' ⟨u', rfl, r', hg'⟩
  rw [List.singleton_append, hrows] at r'
  have hlen : lo + [(st, en - st)].length + (f.rows.length - hi) = (f.put s true).rows.length := by
    rw [← hrows]
    simp
    omega
  rw [hlen] at r'
  obtain ⟨a', c', e'⟩ := own_len2 r'.1
  subst e'
  have m' := K1.m.kept hg' (K1.r.apartOb K1.m (by decide))
  have o' := K1.o.kept hg' (fun q => by have := hO _ (K1.r.2 _ q); omega)
  have hok' : OkFr (f.put s true) := put_ok hok (all_iff.1 hs).2.1 true
  obtain ⟨q1, q2⟩ := cfr_stored hO hp K1.b K1.m K1.r hg' hok' (by rw [put_whole]) (by rw [put_whole]) r'
  exact ⟨_, _, _, rfl, by rw [m'.cell 3]; rfl, m'.frozen 3, q1, q2, o'.cell 0, o'.cell 1⟩

end Go.Proofs.YtegadgncggbeoaaGreat
