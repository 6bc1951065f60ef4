/- Sides; merge.plain and the document's, over the translation. -/
import Derived.Test.YtjmjcmejneljgaaDOg
import Derived.Deep.RegionHeld3
import Derived.Deep.Cut
namespace Apo
open Go Go.RowKit
/-- a side -/
structure Si where
  b : Bool
  v : ByteArray
def Si.val (s : Si) : Value := .agg #[.bool s.b, .string s.v]
def Si.plain (s : Si) : Si := match s.b with
  | true => ⟨true, s.v⟩
  | false => ⟨false, ⟨#[]⟩⟩
theorem Si.plain_true (v : ByteArray) : Si.plain ⟨true, v⟩ = ⟨true, v⟩ := rfl
theorem Si.plain_false (v : ByteArray) : Si.plain ⟨false, v⟩ = ⟨false, ⟨#[]⟩⟩ := rfl
theorem Si.eq_iff (s t : Si) : ((s.b, s.v) = (t.b, t.v)) ↔ s = t := by
  cases s; cases t; simp
open Classical in
/-- what a key becomes, of three plain sides -/
noncomputable def pickP (a b c : Si) : Si × Bool := if b = c then (b, true) else if b = a then (c, true) else (b, decide (c = a))
noncomputable def pickS (a b c : Si) : Si × Bool := pickP a.plain b.plain c.plain
end Apo
namespace Go.Proofs.Ytjmjcmejneljgaa
open Go.RowKit Apo
set_option maxRecDepth 100000 in
theorem fin_rside {W : World} {g : Nat} {c0 c1 : Value} {tmps : Array Value} {Q : Ending → World → Prop} (k : Ob W g 43 [c0, c1]) (h4 : tmps.getD 2 undef = .pointer (some ⟨g, 0, none⟩)) (hq : Q (.returned (.agg #[c0, c1])) W) :
    bodyPost Try.prog Try.f50 Q Exit.ret { tmps := tmps, defers := [] } W := by
  have hl := run_loadVar_row (P := Try.prog) W g 43 43 #[c0, c1] (0, 0) _ k Try.underlying43 rfl (by rw [size_side]; rfl)
  have h4' : tmps[2]?.getD undef = .pointer (some ⟨g, 0, none⟩) := by simpa using h4
  refine bodyPost_ret (v := .agg #[c0, c1]) ?_ rfl hq
  simp [results, Try.results50, asAddr, h4', hl]
theorem ob_two (w : World) (o : Obj) (t : TypeId) (c0 c1 : Value) : Ob ((w.alloc o).alloc (.cells #[c0, c1] t)) (w.heap.size + 1) t [c0, c1] := by
  have := Ob.new (w.alloc o) [c0, c1] t
  rw [World.size_alloc] at this
  exact this
def bxS (s : Si) : Obj := .cells #[.bool s.b, .string s.v] 43
def PlP (s : Si) (w : World) (e : Ending) (w' : World) : Prop := e = .returned (.agg #[.bool s.plain.b, .string s.plain.v]) ∧ w' = (w.alloc (.cells #[.bool s.b, .string s.v] 43)).alloc (.cells #[.bool s.plain.b, .string s.plain.v] 43)
def PlR (s : Si) (w : World) (e : Ending) (w' : World) : Prop := e = .returned (.agg #[.bool s.plain.b, .string s.plain.v]) ∧ w' = (w.alloc (.cells #[.bool s.plain.b, .string s.plain.v] 43)).alloc (.cells #[.bool s.plain.b, .string s.plain.v] 43)
set_option maxRecDepth 100000 in
set_option maxHeartbeats 4000000 in
theorem rplain_any (b : Bool) (v : ByteArray) (w : World) : Calls Try.prog 50 #[.agg #[.bool b, .string v]] w (PlR ⟨b, v⟩ w) := by
  go_enter Try.func50, Try.ntmps50
  cases b with
  | true =>
    go_wp2
    exact fin_rside (ob_two w _ _ _ _) rfl ⟨rfl, rfl⟩
  | false =>
    go_wp2
    exact fin_rside (ob_two w _ _ _ _) rfl ⟨rfl, rfl⟩
theorem ob_push {W : World} {p : Nat} {t : TypeId} {cs : List Value} (h : W.heap.size = p) : Ob (W.alloc (.cells cs.toArray t)) p t cs := by subst h; exact Ob.new W cs t
theorem ob_drew {W : World} {p : Nat} {t : TypeId} {cs : List Value} (h : Ob W p t cs) : Ob W.drew p t cs := h
/-- three boxes and the result's -/
structure Bx (a0 : Bool) (a1 : ByteArray) (b0 : Bool) (b1 : ByteArray) (c0 : Bool) (c1 : ByteArray) (h : Nat) (W : World) : Prop where
  o0 : Ob W h 43 [.bool a0, .string a1]
  o1 : Ob W (h + 1) 43 [.bool b0, .string b1]
  o2 : Ob W (h + 1 + 1) 43 [.bool c0, .string c1]
  o3 : Ob W (h + 1 + 1 + 1) 43 [.bool false, .string ⟨#[]⟩]
section
variable {a0 b0 c0 : Bool} {a1 b1 c1 : ByteArray} {h : Nat} {W W' : World}
theorem Bx.drew (k : Bx a0 a1 b0 b1 c0 c1 h W) : Bx a0 a1 b0 b1 c0 c1 h W.drew := ⟨k.o0, k.o1, k.o2, k.o3⟩
theorem Bx.below (k : Bx a0 a1 b0 b1 c0 c1 h W) (u : Below W.heap.size W W') : Bx a0 a1 b0 b1 c0 c1 h W' := ⟨k.o0.old u, k.o1.old u, k.o2.old u, k.o3.old u⟩
theorem Below.drewL (u : Below W.drew.heap.size W.drew W') : Below W.heap.size W W' := (Below.refl _ W).drew.trans u
theorem Bx.cells (k : Bx a0 a1 b0 b1 c0 c1 h W) : W.cell? ⟨h, 0, none⟩ = some (.bool a0) ∧ W.cell? ⟨h, 1, none⟩ = some (.string a1) ∧ W.cell? ⟨h + 1, 0, none⟩ = some (.bool b0) ∧ W.cell? ⟨h + 1, 1, none⟩ = some (.string b1) ∧ W.cell? ⟨h + 1 + 1, 0, none⟩ = some (.bool c0) ∧ W.cell? ⟨h + 1 + 1, 1, none⟩ = some (.string c1) := by
  have x0 := k.o0.cell 0
  have x1 := k.o0.cell 1
  have x2 := k.o1.cell 0
  have x3 := k.o1.cell 1
  have x4 := k.o2.cell 0
  have x5 := k.o2.cell 1
  simp only [List.getElem?_cons_zero, List.getElem?_cons_succ] at x0 x1 x2 x3 x4 x5
  exact ⟨x0, x1, x2, x3, x4, x5⟩
theorem Bx.frozen (k : Bx a0 a1 b0 b1 c0 c1 h W) : W.frozen? ⟨h, 0, none⟩ = false ∧ W.frozen? ⟨h, 1, none⟩ = false ∧ W.frozen? ⟨h + 1, 0, none⟩ = false ∧ W.frozen? ⟨h + 1, 1, none⟩ = false ∧ W.frozen? ⟨h + 1 + 1, 0, none⟩ = false ∧ W.frozen? ⟨h + 1 + 1, 1, none⟩ = false := ⟨k.o0.frozen 0, k.o0.frozen 1, k.o1.frozen 0, k.o1.frozen 1, k.o2.frozen 0, k.o2.frozen 1⟩
theorem ob_aside {p b o : Nat} {t : TypeId} {cs : List Value} (k : Ob W p t cs) (v : Value) (hne : b ≠ p) : Ob (W.setCell ⟨b, o, none⟩ v) p t cs := k.kept (grew_set W b o v) (fun e => by injection e with e; exact hne e)
theorem Bx.stored {w : World} (k : Bx a0 a1 b0 b1 c0 c1 w.heap.size W) (u : Below w.heap.size w W) (s0 : Bool) (s1 : ByteArray) (t0 : Bool) (t1 : ByteArray) (r0 : Bool) (r1 : ByteArray) :
    Ob ((((((W.setCell ⟨w.heap.size, 0, none⟩ (.bool s0)).setCell ⟨w.heap.size, 1, none⟩ (.string s1)).setCell ⟨w.heap.size + 1, 0, none⟩ (.bool t0)).setCell ⟨w.heap.size + 1, 1, none⟩ (.string t1)).setCell ⟨w.heap.size + 1 + 1, 0, none⟩ (.bool r0)).setCell ⟨w.heap.size + 1 + 1, 1, none⟩ (.string r1)) w.heap.size 43 [.bool s0, .string s1] ∧
    Ob ((((((W.setCell ⟨w.heap.size, 0, none⟩ (.bool s0)).setCell ⟨w.heap.size, 1, none⟩ (.string s1)).setCell ⟨w.heap.size + 1, 0, none⟩ (.bool t0)).setCell ⟨w.heap.size + 1, 1, none⟩ (.string t1)).setCell ⟨w.heap.size + 1 + 1, 0, none⟩ (.bool r0)).setCell ⟨w.heap.size + 1 + 1, 1, none⟩ (.string r1)) (w.heap.size + 1) 43 [.bool t0, .string t1] ∧
    Ob ((((((W.setCell ⟨w.heap.size, 0, none⟩ (.bool s0)).setCell ⟨w.heap.size, 1, none⟩ (.string s1)).setCell ⟨w.heap.size + 1, 0, none⟩ (.bool t0)).setCell ⟨w.heap.size + 1, 1, none⟩ (.string t1)).setCell ⟨w.heap.size + 1 + 1, 0, none⟩ (.bool r0)).setCell ⟨w.heap.size + 1 + 1, 1, none⟩ (.string r1)) (w.heap.size + 1 + 1) 43 [.bool r0, .string r1] ∧
    Ob ((((((W.setCell ⟨w.heap.size, 0, none⟩ (.bool s0)).setCell ⟨w.heap.size, 1, none⟩ (.string s1)).setCell ⟨w.heap.size + 1, 0, none⟩ (.bool t0)).setCell ⟨w.heap.size + 1, 1, none⟩ (.string t1)).setCell ⟨w.heap.size + 1 + 1, 0, none⟩ (.bool r0)).setCell ⟨w.heap.size + 1 + 1, 1, none⟩ (.string r1)) (w.heap.size + 1 + 1 + 1) 43 [.bool false, .string ⟨#[]⟩] ∧
    Below w.heap.size w ((((((W.setCell ⟨w.heap.size, 0, none⟩ (.bool s0)).setCell ⟨w.heap.size, 1, none⟩ (.string s1)).setCell ⟨w.heap.size + 1, 0, none⟩ (.bool t0)).setCell ⟨w.heap.size + 1, 1, none⟩ (.string t1)).setCell ⟨w.heap.size + 1 + 1, 0, none⟩ (.bool r0)).setCell ⟨w.heap.size + 1 + 1, 1, none⟩ (.string r1)) := by
  refine ⟨?_, ?_, ?_, ?_, ?_⟩
  · exact ob_aside (ob_aside (ob_aside (ob_aside ((k.o0.set 0 _).set 1 _) _ (by omega)) _ (by omega)) _ (by omega)) _ (by omega)
  · exact ob_aside (ob_aside (((ob_aside (ob_aside k.o1 _ (by omega)) _ (by omega)).set 0 _).set 1 _) _ (by omega)) _ (by omega)
  · exact ((ob_aside (ob_aside (ob_aside (ob_aside k.o2 _ (by omega)) _ (by omega)) _ (by omega)) _ (by omega)).set 0 _).set 1 _
  · exact ob_aside (ob_aside (ob_aside (ob_aside (ob_aside (ob_aside k.o3 _ (by omega)) _ (by omega)) _ (by omega)) _ (by omega)) _ (by omega)) _ (by omega)
  · have z : ∀ n, w.heap.size ≤ w.heap.size + n := fun n => Nat.le_add_right _ _
    exact (((((u.setCell (p := ⟨w.heap.size, 0, none⟩) (Nat.le_refl _) _).setCell (p := ⟨w.heap.size, 1, none⟩) (Nat.le_refl _) _).setCell (p := ⟨w.heap.size + 1, 0, none⟩) (z 1) _).setCell (p := ⟨w.heap.size + 1, 1, none⟩) (z 1) _).setCell (p := ⟨w.heap.size + 1 + 1, 0, none⟩) (z 2) _).setCell (p := ⟨w.heap.size + 1 + 1, 1, none⟩) (z 2) _
end
def KyP (a b c : Si) (w : World) (e : Ending) (w' : World) : Prop := e = .returned (.tuple #[.agg #[.bool (pickS a b c).1.b, .string (pickS a b c).1.v], .bool (pickS a b c).2]) ∧ Below w.heap.size w w'
end Go.Proofs.Ytjmjcmejneljgaa
