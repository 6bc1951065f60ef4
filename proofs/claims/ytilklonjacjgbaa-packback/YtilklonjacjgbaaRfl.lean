/- How pack.Reader reads a field of a kind, over the translation. -/
import Derived.Test.YtilklonjacjgbaaRea
import Derived.Test.YtilklonjacjgbaaFld
namespace Go.Proofs.Ytilklonjacjgbaa
open Go.RowKit Apo

/-- a field of a kind, read; one of no kind can't be -/
noncomputable def rfield (k : Int) (st : St) : Fld × St :=
  if k = 1 then (⟨1, (rnum st 18446744073709551615).1, ⟨#[]⟩, false⟩, (rnum st 18446744073709551615).2)
  else if k = 2 then (⟨2, 0, strOfNums (rtext st 131072).1, false⟩, (rtext st 131072).2)
  else if k = 3 then (⟨3, 0, ⟨#[]⟩, (rflag st).1⟩, (rflag st).2)
  else (⟨0, 0, ⟨#[]⟩, false⟩, none)

/-- by which method -/
def howRead (k : Int) : Nat := if k = 1 then 40 else if k = 2 then 41 else if k = 3 then 42 else 43

theorem reading_any (p : Nat) (k : Int) (w : World) :
    Calls Try.prog 29 #[.pointer (some ⟨p, 0, none⟩), .int .i64 k] w fun e w' => e = .returned (.func (.func (howRead k)) #[.pointer (some ⟨p, 0, none⟩)] #[]) ∧ w = w' := by
  by_cases k1 : k = 1
  · subst k1
    go_enter Try.func29, Try.ntmps29
    go_wp2
    go_ret
    exact ⟨rfl, rfl⟩
  · by_cases k2 : k = 2
    · subst k2
      go_enter Try.func29, Try.ntmps29
      go_wp2
      go_ret
      exact ⟨rfl, rfl⟩
    · by_cases k3 : k = 3
      · subst k3
        go_enter Try.func29, Try.ntmps29
        go_wp2
        go_ret
        exact ⟨rfl, rfl⟩
      · have e1 : (k == 1) = false := by simpa using k1
        have e2 : (k == 2) = false := by simpa using k2
        have e3 : (k == 3) = false := by simpa using k3
        have HH : Hid (howRead k = 43) := by show _ = _; simp [howRead, k1, k2, k3]
        go_enter Try.func29, Try.ntmps29
        go_wp2
        go_ret
        rw [HH.out]
        exact ⟨rfl, rfl⟩

/-- what lies in a result's own block while the reader goes on -/
theorem res_block (w w2 : World) (p : Nat) (hp : p < w.heap.size) (cs : List Value) (hg : (w.alloc (.cells cs.toArray 38)).grownBy w2 (some p)) : Ob w2 w.heap.size 38 cs :=
  (Ob.new w cs 38).kept hg (by intro e; cases e; omega)

/-- the four cells of a result are laid: what holds then -/
theorem res_set {w w2 : World} {p g : Nat} {st : St} {z0 z1 z2 z3 : Value} (hp : p < w.heap.size) (hgl : g < w.heap.size) (hr : Rr w2 p 56 g st) (hg : (w.alloc (.cells #[z0, z1, z2, z3] 38)).grownBy w2 (some p)) (x0 x1 x2 x3 : Value) :
    ∃ w3, w3 = (((w2.setCell ⟨w.heap.size, 0, none⟩ x0).setCell ⟨w.heap.size, 1, none⟩ x1).setCell ⟨w.heap.size, 2, none⟩ x2).setCell ⟨w.heap.size, 3, none⟩ x3 ∧
      w3.cell? ⟨w.heap.size, 0, none⟩ = some x0 ∧ w3.cell? ⟨w.heap.size, 1, none⟩ = some x1 ∧ w3.cell? ⟨w.heap.size, 2, none⟩ = some x2 ∧ w3.cell? ⟨w.heap.size, 3, none⟩ = some x3 ∧ Rr w3 p 56 g st ∧ w.grownBy w3 (some p) := by
  have ho : Ob w2 w.heap.size 38 [z0, z1, z2, z3] := res_block w w2 p hp [z0, z1, z2, z3] hg
  have h4 := (((ho.set 0 x0).set 1 x1).set 2 x2).set 3 x3
  have g4 := grew_trans (grew_trans (grew_trans (grew_set w2 w.heap.size 0 x0) (grew_set _ w.heap.size 1 x1)) (grew_set _ w.heap.size 2 x2)) (grew_set _ w.heap.size 3 x3)
  refine ⟨_, rfl, h4.cell 0, h4.cell 1, h4.cell 2, h4.cell 3, hr.kept g4 (by simp; omega) (by simp; omega), ?_⟩
  have g1 : w.grownBy w2 (some p) := grew_trans (World.grownBy_alloc w _ _) hg
  exact grew_new g1 g4 (Nat.le_refl _)

set_option maxHeartbeats 1000000 in
theorem numField_any (p g : Nat) (st : St) (w : World) (h : Rr w p 56 g st) (hgl : g < w.heap.size) :
    Calls Try.prog 40 #[.pointer (some ⟨p, 0, none⟩)] w fun e w' => e = .returned (.agg #[.int .i64 1, .int .u64 (rnum st 18446744073709551615).1, .string ⟨#[]⟩, .bool false]) ∧ Rr w' p 56 g (rnum st 18446744073709551615).2 ∧ w.grownBy w' (some p) := by
  have hb : Below w.heap.size w (w.alloc (.cells #[.int .i64 0, .int .u64 0, .string ⟨#[]⟩, .bool false] 38)) := (Below.refl _ _).alloc (Nat.le_refl _) _
  have HC := hide (rdnum_any p g st 18446744073709551615 _ (h.old hb))
  have hp := h.lt
  clear h
  go_enter Try.func40, Try.ntmps40
  go_wp2_with fail
  refine HC.out.mono ?_
  rintro e w2 ⟨rfl, r1, r2⟩
  have ho := res_block w w2 p hp [.int .i64 0, .int .u64 0, .string ⟨#[]⟩, .bool false] r2
  have c0 := ho.cell 0
  have c1 := ho.cell 1
  have c2 := ho.cell 2
  have c3 := ho.cell 3
  have f0 := ho.frozen 0
  have f1 := ho.frozen 1
  have f2 := ho.frozen 2
  have f3 := ho.frozen 3
  simp only [List.getElem?_cons_zero, List.getElem?_cons_succ] at c0 c1 c2 c3
  have HS := hide (res_set hp hgl r1 r2 (.int .i64 1) (.int .u64 (rnum st 18446744073709551615).1) (.string ⟨#[]⟩) (.bool false))
  clear r1 r2 ho HC
  go_wp2
  obtain ⟨w3, hw3, d0, d1, d2, d3, r3, r4⟩ := HS.out
  rw [← hw3]
  have R3 := hide r3
  have R4 := hide r4
  clear hw3 HS c0 c1 c2 c3 f0 f1 f2 f3 r3 r4
  refine bodyPost_ret (by simp [results, Try.results40, go_sem, d0, d1, d2, d3]; rfl) rfl ?_
  exact ⟨rfl, R3, R4⟩

set_option maxHeartbeats 1000000 in
theorem textField_any (p g : Nat) (st : St) (w : World) (h : Rr w p 56 g st) (hgl : g < w.heap.size) :
    Calls Try.prog 41 #[.pointer (some ⟨p, 0, none⟩)] w fun e w' => e = .returned (.agg #[.int .i64 2, .int .u64 0, .string (strOfNums (rtext st 131072).1), .bool false]) ∧ Rr w' p 56 g (rtext st 131072).2 ∧ w.grownBy w' (some p) := by
  have hb : Below w.heap.size w (w.alloc (.cells #[.int .i64 0, .int .u64 0, .string ⟨#[]⟩, .bool false] 38)) := (Below.refl _ _).alloc (Nat.le_refl _) _
  have HC := hide (rdtext_any p g st 131072 _ (h.old hb) (by omega))
  have hp := h.lt
  clear h
  go_enter Try.func41, Try.ntmps41
  go_wp2_with fail
  refine HC.out.mono ?_
  rintro e w2 ⟨rfl, r1, r2⟩
  have ho := res_block w w2 p hp [.int .i64 0, .int .u64 0, .string ⟨#[]⟩, .bool false] r2
  have c0 := ho.cell 0
  have c1 := ho.cell 1
  have c2 := ho.cell 2
  have c3 := ho.cell 3
  have f0 := ho.frozen 0
  have f1 := ho.frozen 1
  have f2 := ho.frozen 2
  have f3 := ho.frozen 3
  simp only [List.getElem?_cons_zero, List.getElem?_cons_succ] at c0 c1 c2 c3
  have HS := hide (res_set hp hgl r1 r2 (.int .i64 2) (.int .u64 0) (.string (strOfNums (rtext st 131072).1)) (.bool false))
  clear r1 r2 ho HC
  go_wp2
  obtain ⟨w3, hw3, d0, d1, d2, d3, r3, r4⟩ := HS.out
  rw [← hw3]
  have R3 := hide r3
  have R4 := hide r4
  clear hw3 HS c0 c1 c2 c3 f0 f1 f2 f3 r3 r4
  refine bodyPost_ret (by simp [results, Try.results41, go_sem, d0, d1, d2, d3]; rfl) rfl ?_
  exact ⟨rfl, R3, R4⟩

set_option maxHeartbeats 1000000 in
theorem flagField_any (p g : Nat) (st : St) (w : World) (h : Rr w p 56 g st) (hgl : g < w.heap.size) :
    Calls Try.prog 42 #[.pointer (some ⟨p, 0, none⟩)] w fun e w' => e = .returned (.agg #[.int .i64 3, .int .u64 0, .string ⟨#[]⟩, .bool (rflag st).1]) ∧ Rr w' p 56 g (rflag st).2 ∧ w.grownBy w' (some p) := by
  have hb : Below w.heap.size w (w.alloc (.cells #[.int .i64 0, .int .u64 0, .string ⟨#[]⟩, .bool false] 38)) := (Below.refl _ _).alloc (Nat.le_refl _) _
  have HC := hide (rdflag_any p g st _ (h.old hb))
  have hp := h.lt
  clear h
  go_enter Try.func42, Try.ntmps42
  go_wp2_with fail
  refine HC.out.mono ?_
  rintro e w2 ⟨rfl, r1, r2⟩
  have ho := res_block w w2 p hp [.int .i64 0, .int .u64 0, .string ⟨#[]⟩, .bool false] r2
  have c0 := ho.cell 0
  have c1 := ho.cell 1
  have c2 := ho.cell 2
  have c3 := ho.cell 3
  have f0 := ho.frozen 0
  have f1 := ho.frozen 1
  have f2 := ho.frozen 2
  have f3 := ho.frozen 3
  simp only [List.getElem?_cons_zero, List.getElem?_cons_succ] at c0 c1 c2 c3
  have HS := hide (res_set hp hgl r1 r2 (.int .i64 3) (.int .u64 0) (.string ⟨#[]⟩) (.bool (rflag st).1))
  clear r1 r2 ho HC
  go_wp2
  obtain ⟨w3, hw3, d0, d1, d2, d3, r3, r4⟩ := HS.out
  rw [← hw3]
  have R3 := hide r3
  have R4 := hide r4
  clear hw3 HS c0 c1 c2 c3 f0 f1 f2 f3 r3 r4
  refine bodyPost_ret (by simp [results, Try.results42, go_sem, d0, d1, d2, d3]; rfl) rfl ?_
  exact ⟨rfl, R3, R4⟩

set_option maxHeartbeats 1000000 in
theorem noField_any (p g : Nat) (st : St) (w : World) (h : Rr w p 56 g st) (hgl : g < w.heap.size) :
    Calls Try.prog 43 #[.pointer (some ⟨p, 0, none⟩)] w fun e w' => e = .returned (.agg #[.int .i64 0, .int .u64 0, .string ⟨#[]⟩, .bool false]) ∧ Rr w' p 56 g none ∧ w.grownBy w' (some p) := by
  have hb : Below w.heap.size w (w.alloc (.cells #[.int .i64 0, .int .u64 0, .string ⟨#[]⟩, .bool false] 38)) := (Below.refl _ _).alloc (Nat.le_refl _) _
  obtain ⟨u0, u1, hob⟩ := (h.old hb).ob
  have HC := hide (rfail_any p g u0 u1 _ hob)
  have hp := h.lt
  clear h hob
  go_enter Try.func43, Try.ntmps43
  go_wp2_with fail
  refine HC.out.mono ?_
  rintro e w2 ⟨rfl, r1, r2⟩
  have ho := res_block w w2 p hp [.int .i64 0, .int .u64 0, .string ⟨#[]⟩, .bool false] r2
  have c0 := ho.cell 0
  have c1 := ho.cell 1
  have c2 := ho.cell 2
  have c3 := ho.cell 3
  have f0 := ho.frozen 0
  have f1 := ho.frozen 1
  have f2 := ho.frozen 2
  have f3 := ho.frozen 3
  simp only [List.getElem?_cons_zero, List.getElem?_cons_succ] at c0 c1 c2 c3
  have HS := hide (res_set hp hgl r1 r2 (.int .i64 0) (.int .u64 0) (.string ⟨#[]⟩) (.bool false))
  clear r1 r2 ho HC
  go_wp2
  obtain ⟨w3, hw3, d0, d1, d2, d3, r3, r4⟩ := HS.out
  rw [← hw3]
  have R3 := hide r3
  have R4 := hide r4
  clear hw3 HS c0 c1 c2 c3 f0 f1 f2 f3 r3 r4
  refine bodyPost_ret (by simp [results, Try.results43, go_sem, d0, d1, d2, d3]; rfl) rfl ?_
  exact ⟨rfl, R3, R4⟩

/-- whichever method it is -/
theorem field_any (p g : Nat) (k : Int) (st : St) (w : World) (h : Rr w p 56 g st) (hgl : g < w.heap.size) :
    Calls Try.prog (howRead k) #[.pointer (some ⟨p, 0, none⟩)] w fun e w' => e = .returned (.agg #[.int .i64 (rfield k st).1.k, .int .u64 (rfield k st).1.n, .string (rfield k st).1.s, .bool (rfield k st).1.b]) ∧ Rr w' p 56 g (rfield k st).2 ∧ w.grownBy w' (some p) := by
  by_cases k1 : k = 1
  · subst k1
    exact numField_any p g st w h hgl
  · by_cases k2 : k = 2
    · subst k2
      exact textField_any p g st w h hgl
    · by_cases k3 : k = 3
      · subst k3
        exact flagField_any p g st w h hgl
      · have e1 : howRead k = 43 := by simp [howRead, k1, k2, k3]
        have e2 : rfield k st = (⟨0, 0, ⟨#[]⟩, false⟩, none) := by simp [rfield, k1, k2, k3]
        rw [e1, e2]
        exact noField_any p g st w h hgl
end Go.Proofs.Ytilklonjacjgbaa
