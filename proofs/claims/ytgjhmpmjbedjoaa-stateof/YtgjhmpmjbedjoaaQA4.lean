/- Sides compared, over the translation. Sides; merge.plain and the document's, over the translation. Clashes in memory; the document's SameClashes, over the translation. A clash as a value. (In place of cnf's text of this name, which also tells how a clash is settled.) -/
import Derived.Deep.RegionHeld3
import Derived.Deep.Cut
import Derived.BigQuiet
import Derived.Deep.QuietTactic
import Derived.Shelf.SlSorted.Search
import Derived.Test.YtgjhmpmjbedjoaaQA2
namespace Go.Proofs.Ytgjhmpmjbedjoaa
open Go.RowKit Apo
open Classical in
set_option maxRecDepth 100000 in
theorem neqSd (b b' : Bool) (v v' : ByteArray) (w : World) : (binOp .neq 73 (.agg #[.bool b, .string v]) (.agg #[.bool b', .string v'])).run Try.prog w = .ok (.bool (!decide ((b, v) = (b', v')))) w := by
  have u9 := Try.underlying9
  have u4 := Try.underlying4
  have hS : Try.prog.underlying 73 = some (.struct (Try.prog.fieldsOf 73)) := by kernel_rfl
  have hp : Try.prog.stoodInHeld 73 = false := by kernel_rfl
  rw [run_neq_struct, show (10000 : Nat) = 9999 + 1 from rfl, run_equalIn_agg w 9999 73 _ _ hS hp]
  simp only [Program.fieldsOf, Try.underlying73]
  go_simp
  by_cases h1 : b = b'
  · by_cases h2 : v = v'
    · simp [h1, h2]
    · have h2' : ¬ v.toList = v'.toList := fun e => h2 (bytes_of_list e)
      simp [h1, h2, h2']
  · simp [h1]
open Classical in
set_option maxRecDepth 100000 in
theorem eqlSd (b b' : Bool) (v v' : ByteArray) (w : World) : (binOp .eql 73 (.agg #[.bool b, .string v]) (.agg #[.bool b', .string v'])).run Try.prog w = .ok (.bool (decide ((b, v) = (b', v')))) w := by
  have u9 := Try.underlying9
  have u4 := Try.underlying4
  have hS : Try.prog.underlying 73 = some (.struct (Try.prog.fieldsOf 73)) := by kernel_rfl
  have hp : Try.prog.stoodInHeld 73 = false := by kernel_rfl
  rw [run_eql_struct, show (10000 : Nat) = 9999 + 1 from rfl, run_equalIn_agg w 9999 73 _ _ hS hp]
  simp only [Program.fieldsOf, Try.underlying73]
  go_simp
  by_cases h1 : b = b'
  · by_cases h2 : v = v'
    · simp [h1, h2]
    · have h2' : ¬ v.toList = v'.toList := fun e => h2 (bytes_of_list e)
      simp [h1, h2, h2']
  · simp [h1]
end Go.Proofs.Ytgjhmpmjbedjoaa
namespace Apo
open Go Go.RowKit
/-- a side -/
structure Si where
  b : Bool
  v : ByteArray
def Si.val (s : Si) : Value := .agg #[.bool s.b, .string s.v]
def Si.plain (s : Si) : Si := match s.b with
  | true => ⟨true, s.v⟩
  | false => ⟨false, ⟨#[]⟩⟩
theorem Si.plain_true (v : ByteArray) : Si.plain ⟨true, v⟩ = ⟨true, v⟩ := rfl
theorem Si.plain_false (v : ByteArray) : Si.plain ⟨false, v⟩ = ⟨false, ⟨#[]⟩⟩ := rfl
theorem Si.eq_iff (s t : Si) : ((s.b, s.v) = (t.b, t.v)) ↔ s = t := by
  cases s; cases t; simp
open Classical in
/-- what a key becomes, of three plain sides -/
noncomputable def pickP (a b c : Si) : Si × Bool := if b = c then (b, true) else if b = a then (c, true) else (b, decide (c = a))
noncomputable def pickS (a b c : Si) : Si × Bool := pickP a.plain b.plain c.plain
end Apo
namespace Go.Proofs.Ytgjhmpmjbedjoaa
open Go.RowKit Apo
set_option maxRecDepth 100000 in
theorem fin_rside {W : World} {g : Nat} {c0 c1 : Value} {tmps : Array Value} {Q : Ending → World → Prop} (k : Ob W g 73 [c0, c1]) (h4 : tmps.getD 2 undef = .pointer (some ⟨g, 0, none⟩)) (hq : Q (.returned (.agg #[c0, c1])) W) :
    bodyPost Try.prog Try.f73 Q Exit.ret { tmps := tmps, defers := [] } W := by
  have hl := run_loadVar_row (P := Try.prog) W g 73 73 #[c0, c1] (0, 0) _ k Try.underlying73 rfl (by rw [size_side]; rfl)
  have h4' : tmps[2]?.getD undef = .pointer (some ⟨g, 0, none⟩) := by simpa using h4
  refine bodyPost_ret (v := .agg #[c0, c1]) ?_ rfl hq
  simp [results, Try.results73, asAddr, h4', hl]
theorem ob_two (w : World) (o : Obj) (t : TypeId) (c0 c1 : Value) : Ob ((w.alloc o).alloc (.cells #[c0, c1] t)) (w.heap.size + 1) t [c0, c1] := by
  have := Ob.new (w.alloc o) [c0, c1] t
  rw [World.size_alloc] at this
  exact this
def bxS (s : Si) : Obj := .cells #[.bool s.b, .string s.v] 73
def PlP (s : Si) (w : World) (e : Ending) (w' : World) : Prop := e = .returned (.agg #[.bool s.plain.b, .string s.plain.v]) ∧ w' = (w.alloc (.cells #[.bool s.b, .string s.v] 73)).alloc (.cells #[.bool s.plain.b, .string s.plain.v] 73)
def PlR (s : Si) (w : World) (e : Ending) (w' : World) : Prop := e = .returned (.agg #[.bool s.plain.b, .string s.plain.v]) ∧ w' = (w.alloc (.cells #[.bool s.plain.b, .string s.plain.v] 73)).alloc (.cells #[.bool s.plain.b, .string s.plain.v] 73)
set_option maxRecDepth 100000 in
set_option maxHeartbeats 4000000 in
theorem rplain_any (b : Bool) (v : ByteArray) (w : World) : Calls Try.prog 73 #[.agg #[.bool b, .string v]] w (PlR ⟨b, v⟩ w) := by
  go_enter Try.func73, Try.ntmps73
  cases b with
  | true =>
    go_wp2
    exact fin_rside (ob_two w _ _ _ _) rfl ⟨rfl, rfl⟩
  | false =>
    go_wp2
    exact fin_rside (ob_two w _ _ _ _) rfl ⟨rfl, rfl⟩
theorem ob_push {W : World} {p : Nat} {t : TypeId} {cs : List Value} (h : W.heap.size = p) : Ob (W.alloc (.cells cs.toArray t)) p t cs := by subst h; exact Ob.new W cs t
theorem ob_drew {W : World} {p : Nat} {t : TypeId} {cs : List Value} (h : Ob W p t cs) : Ob W.drew p t cs := h
/-- three boxes and the result's -/
structure Bx (a0 : Bool) (a1 : ByteArray) (b0 : Bool) (b1 : ByteArray) (c0 : Bool) (c1 : ByteArray) (h : Nat) (W : World) : Prop where
  o0 : Ob W h 73 [.bool a0, .string a1]
  o1 : Ob W (h + 1) 73 [.bool b0, .string b1]
  o2 : Ob W (h + 1 + 1) 73 [.bool c0, .string c1]
  o3 : Ob W (h + 1 + 1 + 1) 73 [.bool false, .string ⟨#[]⟩]
section
variable {a0 b0 c0 : Bool} {a1 b1 c1 : ByteArray} {h : Nat} {W W' : World}
theorem Bx.drew (k : Bx a0 a1 b0 b1 c0 c1 h W) : Bx a0 a1 b0 b1 c0 c1 h W.drew := ⟨k.o0, k.o1, k.o2, k.o3⟩
theorem Bx.below (k : Bx a0 a1 b0 b1 c0 c1 h W) (u : Below W.heap.size W W') : Bx a0 a1 b0 b1 c0 c1 h W' := ⟨k.o0.old u, k.o1.old u, k.o2.old u, k.o3.old u⟩
theorem Below.drewL (u : Below W.drew.heap.size W.drew W') : Below W.heap.size W W' := (Below.refl _ W).drew.trans u
theorem Bx.cells (k : Bx a0 a1 b0 b1 c0 c1 h W) : W.cell? ⟨h, 0, none⟩ = some (.bool a0) ∧ W.cell? ⟨h, 1, none⟩ = some (.string a1) ∧ W.cell? ⟨h + 1, 0, none⟩ = some (.bool b0) ∧ W.cell? ⟨h + 1, 1, none⟩ = some (.string b1) ∧ W.cell? ⟨h + 1 + 1, 0, none⟩ = some (.bool c0) ∧ W.cell? ⟨h + 1 + 1, 1, none⟩ = some (.string c1) := by
  have x0 := k.o0.cell 0
  have x1 := k.o0.cell 1
  have x2 := k.o1.cell 0
  have x3 := k.o1.cell 1
  have x4 := k.o2.cell 0
  have x5 := k.o2.cell 1
  simp only [List.getElem?_cons_zero, List.getElem?_cons_succ] at x0 x1 x2 x3 x4 x5
  exact ⟨x0, x1, x2, x3, x4, x5⟩
theorem Bx.frozen (k : Bx a0 a1 b0 b1 c0 c1 h W) : W.frozen? ⟨h, 0, none⟩ = false ∧ W.frozen? ⟨h, 1, none⟩ = false ∧ W.frozen? ⟨h + 1, 0, none⟩ = false ∧ W.frozen? ⟨h + 1, 1, none⟩ = false ∧ W.frozen? ⟨h + 1 + 1, 0, none⟩ = false ∧ W.frozen? ⟨h + 1 + 1, 1, none⟩ = false := ⟨k.o0.frozen 0, k.o0.frozen 1, k.o1.frozen 0, k.o1.frozen 1, k.o2.frozen 0, k.o2.frozen 1⟩
theorem ob_aside {p b o : Nat} {t : TypeId} {cs : List Value} (k : Ob W p t cs) (v : Value) (hne : b ≠ p) : Ob (W.setCell ⟨b, o, none⟩ v) p t cs := k.kept (grew_set W b o v) (fun e => by injection e with e; exact hne e)
theorem Bx.stored {w : World} (k : Bx a0 a1 b0 b1 c0 c1 w.heap.size W) (u : Below w.heap.size w W) (s0 : Bool) (s1 : ByteArray) (t0 : Bool) (t1 : ByteArray) (r0 : Bool) (r1 : ByteArray) :
    Ob ((((((W.setCell ⟨w.heap.size, 0, none⟩ (.bool s0)).setCell ⟨w.heap.size, 1, none⟩ (.string s1)).setCell ⟨w.heap.size + 1, 0, none⟩ (.bool t0)).setCell ⟨w.heap.size + 1, 1, none⟩ (.string t1)).setCell ⟨w.heap.size + 1 + 1, 0, none⟩ (.bool r0)).setCell ⟨w.heap.size + 1 + 1, 1, none⟩ (.string r1)) w.heap.size 73 [.bool s0, .string s1] ∧
    Ob ((((((W.setCell ⟨w.heap.size, 0, none⟩ (.bool s0)).setCell ⟨w.heap.size, 1, none⟩ (.string s1)).setCell ⟨w.heap.size + 1, 0, none⟩ (.bool t0)).setCell ⟨w.heap.size + 1, 1, none⟩ (.string t1)).setCell ⟨w.heap.size + 1 + 1, 0, none⟩ (.bool r0)).setCell ⟨w.heap.size + 1 + 1, 1, none⟩ (.string r1)) (w.heap.size + 1) 73 [.bool t0, .string t1] ∧
    Ob ((((((W.setCell ⟨w.heap.size, 0, none⟩ (.bool s0)).setCell ⟨w.heap.size, 1, none⟩ (.string s1)).setCell ⟨w.heap.size + 1, 0, none⟩ (.bool t0)).setCell ⟨w.heap.size + 1, 1, none⟩ (.string t1)).setCell ⟨w.heap.size + 1 + 1, 0, none⟩ (.bool r0)).setCell ⟨w.heap.size + 1 + 1, 1, none⟩ (.string r1)) (w.heap.size + 1 + 1) 73 [.bool r0, .string r1] ∧
    Ob ((((((W.setCell ⟨w.heap.size, 0, none⟩ (.bool s0)).setCell ⟨w.heap.size, 1, none⟩ (.string s1)).setCell ⟨w.heap.size + 1, 0, none⟩ (.bool t0)).setCell ⟨w.heap.size + 1, 1, none⟩ (.string t1)).setCell ⟨w.heap.size + 1 + 1, 0, none⟩ (.bool r0)).setCell ⟨w.heap.size + 1 + 1, 1, none⟩ (.string r1)) (w.heap.size + 1 + 1 + 1) 73 [.bool false, .string ⟨#[]⟩] ∧
    Below w.heap.size w ((((((W.setCell ⟨w.heap.size, 0, none⟩ (.bool s0)).setCell ⟨w.heap.size, 1, none⟩ (.string s1)).setCell ⟨w.heap.size + 1, 0, none⟩ (.bool t0)).setCell ⟨w.heap.size + 1, 1, none⟩ (.string t1)).setCell ⟨w.heap.size + 1 + 1, 0, none⟩ (.bool r0)).setCell ⟨w.heap.size + 1 + 1, 1, none⟩ (.string r1)) := by
  refine ⟨?_, ?_, ?_, ?_, ?_⟩
  · exact ob_aside (ob_aside (ob_aside (ob_aside ((k.o0.set 0 _).set 1 _) _ (by omega)) _ (by omega)) _ (by omega)) _ (by omega)
  · exact ob_aside (ob_aside (((ob_aside (ob_aside k.o1 _ (by omega)) _ (by omega)).set 0 _).set 1 _) _ (by omega)) _ (by omega)
  · exact ((ob_aside (ob_aside (ob_aside (ob_aside k.o2 _ (by omega)) _ (by omega)) _ (by omega)) _ (by omega)).set 0 _).set 1 _
  · exact ob_aside (ob_aside (ob_aside (ob_aside (ob_aside (ob_aside k.o3 _ (by omega)) _ (by omega)) _ (by omega)) _ (by omega)) _ (by omega)) _ (by omega)
  · have z : ∀ n, w.heap.size ≤ w.heap.size + n := fun n => Nat.le_add_right _ _
    exact (((((u.setCell (p := ⟨w.heap.size, 0, none⟩) (Nat.le_refl _) _).setCell (p := ⟨w.heap.size, 1, none⟩) (Nat.le_refl _) _).setCell (p := ⟨w.heap.size + 1, 0, none⟩) (z 1) _).setCell (p := ⟨w.heap.size + 1, 1, none⟩) (z 1) _).setCell (p := ⟨w.heap.size + 1 + 1, 0, none⟩) (z 2) _).setCell (p := ⟨w.heap.size + 1 + 1, 1, none⟩) (z 2) _
end
def KyP (a b c : Si) (w : World) (e : Ending) (w' : World) : Prop := e = .returned (.tuple #[.agg #[.bool (pickS a b c).1.b, .string (pickS a b c).1.v], .bool (pickS a b c).2]) ∧ Below w.heap.size w w'
end Go.Proofs.Ytgjhmpmjbedjoaa
namespace Apo
open Go Go.RowKit
/-- a clash -/
structure Cl where
  k : ByteArray
  a : Si
  b : Si
  c : Si
def cCl (x : Cl) : List Value := [.string x.k, .bool x.a.b, .string x.a.v, .bool x.b.b, .string x.b.v, .bool x.c.b, .string x.c.v]
theorem cCl_len (x : Cl) : (cCl x).length = 7 := rfl
theorem cCl_one (x : Cl) : ∀ u ∈ cCl x, u.oneCell' = true := by simp [cCl, Value.oneCell']
def noS : Si := ⟨false, ⟨#[]⟩⟩
theorem RdG.cl {w : World} {a : Option Addr} {l : List Cl} (h : RdG cCl 7 w a l) {i : Nat} {x : Cl} (hi : l[i]? = some x) : ∃ g o, a = some ⟨g, o, none⟩ ∧ w.cell? ⟨g, o + i * 7, none⟩ = some (.string x.k) ∧ w.cell? ⟨g, o + i * 7 + 1, none⟩ = some (.bool x.a.b) ∧ w.cell? ⟨g, o + i * 7 + 2, none⟩ = some (.string x.a.v) ∧ w.cell? ⟨g, o + i * 7 + 3, none⟩ = some (.bool x.b.b) ∧ w.cell? ⟨g, o + i * 7 + 4, none⟩ = some (.string x.b.v) ∧ w.cell? ⟨g, o + i * 7 + 5, none⟩ = some (.bool x.c.b) ∧ w.cell? ⟨g, o + i * 7 + 6, none⟩ = some (.string x.c.v) := by
  obtain ⟨g, o, h1, h2⟩ := h i x hi
  exact ⟨g, o, h1, h2 0 _ rfl, h2 1 _ rfl, h2 2 _ rfl, h2 3 _ rfl, h2 4 _ rfl, h2 5 _ rfl, h2 6 _ rfl⟩
end Apo
namespace Go.Proofs.Ytgjhmpmjbedjoaa
open Go.RowKit Apo
set_option maxRecDepth 100000 in
theorem info_cl : (Try.prog.info? 75).map (fun i => (i.zero, i.size, i.bytes)) = some (some (.agg #[.string ByteArray.empty, .bool false, .string ByteArray.empty, .bool false, .string ByteArray.empty, .bool false, .string ByteArray.empty]), 7, 88) := by kernel_rfl
section
variable {O : Nat → Prop} {W : World} {v : Value} {y : Addr} {cp : Nat}
set_option maxRecDepth 100000 in
theorem app_cl {l xs : List Cl} (h : Row O W 75 7 v l.length (gcells cCl l)) (hn : l.length + xs.length ≤ 100000000) (hr : RdG cCl 7 W (some y) xs) :
    ∃ v' w', (Builtin.append_ #[25, 25] 25 #[v, .slice (some y) xs.length cp]).run Try.prog W = .ok v' w' ∧ Row (fun g => O g ∨ g = W.heap.size) w' 75 7 v' (l ++ xs).length (gcells cCl (l ++ xs)) ∧ Onl (fun g => v.ownBlock = some g) W w' ∧ ∀ g, v'.ownBlock = some g → v.ownBlock = some g ∨ g = W.heap.size :=
  app_G cCl_len (by decide) cCl_one Try.underlying25 info_cl rfl (by decide) h hn hr
end
open Classical in
set_option maxRecDepth 100000 in
set_option maxHeartbeats 1000000 in
theorem neqCl (f g : Cl) (w : World) : (binOp .neq 75 (.agg #[.string f.k, .bool f.a.b, .string f.a.v, .bool f.b.b, .string f.b.v, .bool f.c.b, .string f.c.v]) (.agg #[.string g.k, .bool g.a.b, .string g.a.v, .bool g.b.b, .string g.b.v, .bool g.c.b, .string g.c.v])).run Try.prog w = .ok (.bool (!decide (f = g))) w := by
  have u9 := Try.underlying9
  have u4 := Try.underlying4
  have hS : Try.prog.underlying 75 = some (.struct (Try.prog.fieldsOf 75)) := by kernel_rfl
  have hp : Try.prog.stoodInHeld 75 = false := by kernel_rfl
  have hS2 : Try.prog.underlying 73 = some (.struct (Try.prog.fieldsOf 73)) := by kernel_rfl
  have hp2 : Try.prog.stoodInHeld 73 = false := by kernel_rfl
  rw [run_neq_struct, show (10000 : Nat) = 9997 + 1 + 1 + 1 from rfl]
  generalize 9997 = n
  have hsd : ∀ (b b' : Bool) (v v' : ByteArray) (w : World), (Op.equalIn (n + 1 + 1) 73 (.agg #[.bool b, .string v]) (.agg #[.bool b', .string v'])).run Try.prog w = .ok (decide ((b, v) = (b', v'))) w := fun b b' v v' w => by
    rw [run_equalIn_agg w (n + 1) 73 _ _ hS2 hp2]
    simp only [Program.fieldsOf, Try.underlying73]
    clear hS hS2
    go_simp
    by_cases h1 : b = b'
    · by_cases h2 : v = v'
      · simp [h1, h2]
      · have h2' : ¬ v.toList = v'.toList := fun e => h2 (bytes_of_list e)
        simp [h1, h2, h2']
    · simp [h1]
  rw [run_equalIn_agg w (n + 1 + 1) 75 _ _ hS hp]
  simp only [Program.fieldsOf, Try.underlying75]
  clear hS hS2 hp2
  go_simp
  obtain ⟨fk, ⟨fa, fa'⟩, ⟨fb, fb'⟩, ⟨fc, fc'⟩⟩ := f
  obtain ⟨gk, ⟨ga, ga'⟩, ⟨gb, gb'⟩, ⟨gc, gc'⟩⟩ := g
  simp only
  by_cases h1 : fk = gk
  · subst h1
    by_cases h2 : fa = ga ∧ fa' = ga'
    · obtain ⟨rfl, rfl⟩ := h2
      by_cases h3 : fb = gb ∧ fb' = gb'
      · obtain ⟨rfl, rfl⟩ := h3
        by_cases h4 : fc = gc ∧ fc' = gc'
        · obtain ⟨rfl, rfl⟩ := h4
          simp
        · rw [if_pos rfl, if_neg (by simp), if_neg (by simp), if_pos (fun q z => h4 ⟨q, z⟩)]
          simp only [Cl.mk.injEq, Si.mk.injEq, true_and]
          rw [decide_eq_false h4]
          rfl
      · rw [if_pos rfl, if_neg (by simp), if_pos (fun q z => h3 ⟨q, z⟩)]
        rw [decide_eq_false (fun e => h3 (by simp only [Cl.mk.injEq, Si.mk.injEq] at e; exact e.2.2.1))]
        rfl
    · rw [if_pos rfl, if_pos (fun q z => h2 ⟨q, z⟩)]
      rw [decide_eq_false (fun e => h2 (by simp only [Cl.mk.injEq, Si.mk.injEq] at e; exact e.2.1))]
      rfl
  · have h1' : ¬ fk.toList = gk.toList := fun e => h1 (bytes_of_list e)
    rw [if_neg h1', decide_eq_false (fun e => h1 (by simp only [Cl.mk.injEq] at e; exact e.1))]
    rfl
open Classical in
set_option maxRecDepth 100000 in
set_option maxHeartbeats 1000000 in
theorem sameCl_any (a : Option Addr) (acap : Nat) (l : List Cl) (b : Option Addr) (bcap : Nat) (m : List Cl) (w : World) (ha : RdG cCl 7 w a l) (hb : RdG cCl 7 w b m) (hl : l.length ≤ 9223372036854775807) :
    Calls Try.prog 40 #[.slice a l.length acap, .slice b m.length bcap] w fun e w' => e = .returned (.bool (decide (l = m))) ∧ Below w.heap.size w w' := by
  have hA := hide ha
  have hB := hide hb
  clear ha hb
  by_cases hlen : l.length = m.length
  · rw [← hlen]
    have HL := hide hlen
    clear hlen
    go_enter Try.func40, Try.ntmps40
    go_wp2
    go_loopw [13] (fun i wr => ∃ k : Nat, k ≤ l.length ∧ i = .int .i64 k ∧ Hid (l.take k = m.take k) ∧ Below w.heap.size w wr) (fun i _ => l.length - (intOf i).toNat)
    case atStart => exact ⟨0, Nat.zero_le _, rfl, rfl, Below.refl _ _⟩
    case round =>
      obtain ⟨k, hk, rfl, hE, hbr⟩ := hrel
      by_cases hlt : k < l.length
      · have hz : l[k]? = some l[k] := List.getElem?_eq_getElem hlt
        have hlt2 : k < m.length := by rw [← HL.out]; exact hlt
        have hy : m[k]? = some m[k] := List.getElem?_eq_getElem hlt2
        generalize l[k] = f at hz
        generalize m[k] = g at hy
        obtain ⟨p, off, rfl, c0, c1, c2, c3, c4, c5, c6⟩ := (hA.out.below hbr).cl hz
        obtain ⟨p', off', rfl, d0, d1, d2, d3, d4, d5, d6⟩ := (hB.out.below hbr).cl hy
        have HZ := hide hz
        have HY := hide hy
        clear hz hy
        have hm : Try.prog.eqGuardType Try.prog.depth 75 = false := by kernel_rfl
        have hcmp := neqCl f g
        by_cases hfg : f = g
        · subst hfg
          simp only [decide_true, Bool.not_true] at hcmp
          have hE' : Hid (l.take (k + 1) = m.take (k + 1)) := by
            show _ = _
            rw [List.take_add_one, List.take_add_one, HZ.out, HY.out, hE.out]
          go_wp2
          go_quiet (fail)
          go_wp2
          go_roundw
          case rel => exact ⟨k + 1, by omega, by go_num, hE', below_drewN hbr _⟩
          case measure => simp [intOf]; omega
        · have hd : decide (f = g) = false := by simp [hfg]
          simp only [hd, Bool.not_false] at hcmp
          have hE' : Hid (l ≠ m) := by
            intro e
            have h1 := HZ.out
            rw [e, HY.out] at h1
            exact hfg (by cases h1; rfl)
          go_wp2
          go_quiet (fail)
          go_wp2
          go_ret
          exact ⟨by simp [hE'.out], below_drewN hbr _⟩
      · have hE' : Hid (l = m) := by
          have h1 := hE.out
          rw [List.take_of_length_le (by omega), List.take_of_length_le (by rw [← HL.out]; omega)] at h1
          exact h1
        go_wp2
        go_ret
        exact ⟨by simp [hE'.out], hbr⟩
  · have hne : l ≠ m := fun e => hlen (by rw [e])
    have hN := hide hne
    have hlb : ((l.length : Int) == (m.length : Int)) = false := by simp; omega
    clear hne
    go_enter Try.func40, Try.ntmps40
    go_wp2
    go_ret
    exact ⟨by simp [hN.out], Below.refl _ _⟩
end Go.Proofs.Ytgjhmpmjbedjoaa
namespace Apo
open Go Go.RowKit
def Cl.val (c : Cl) : Value := .agg #[.string c.k, .bool c.a.b, .string c.a.v, .bool c.b.b, .string c.b.v, .bool c.c.b, .string c.c.v]
end Apo
