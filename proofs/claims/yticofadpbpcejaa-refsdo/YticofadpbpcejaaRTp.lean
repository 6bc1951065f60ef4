/- The program's table in memory: a map of refs by their Names. Over the translation. -/
import Derived.Test.YticofadpbpcejaaRNt
import Derived.Test.YticofadpbpcejaaRMs
import Derived.Carry
import Derived.Shelf.SlMaps.Clone
namespace Go.Proofs.Yticofadpbpcejaa
open Go.RowKit Apo
def aggR (x : Rf) : Value := .agg #[.string x.n, .bool x.t, .int .u64 x.i]
def zeroR : Rf := ⟨⟨#[]⟩, false, 0⟩
/-- what a map of the refs L has -/
def mR (L : List Rf) : ByteArray → Option Value := fun s => (getR L s).map aggR
/-- refs by Name, all of names that may be -/
structure Nok (L : List Rf) : Prop where
  ok : Rok L
  nm : ∀ r ∈ L, nameM r.n = true
theorem nameM_size {s : ByteArray} (h : nameM s = true) : 1 ≤ s.size ∧ s.size ≤ 20 := by
  unfold nameM at h
  simp only [Bool.and_eq_true, decide_eq_true_eq] at h
  exact h.2
theorem Nok.nil : Nok [] := ⟨Rok.nil, by simp⟩
theorem Nok.make {L : List Rf} (h : Nok L) (x : Rf) : Nok (makeL L x) := by
  refine ⟨h.ok.make x, ?_⟩
  by_cases h0 : makeE L x = 0
  · intro r hr
    rcases (make_mem h0).1 hr with q | q
    · rw [q]; exact (makeE_zero.1 h0).1
    · exact h.nm r q
  · unfold makeL
    rw [if_neg h0]
    exact h.nm
theorem set_mem {L : List Rf} {n : ByteArray} {old id : Int} (h0 : setE L n old = 0) {z : Rf} : z ∈ setL L n old id ↔ ∃ r ∈ L, (if r.n = n then { r with i := id } else r) = z := by
  unfold setL
  rw [if_pos h0, List.mem_map]
theorem Nok.set {L : List Rf} (h : Nok L) (n : ByteArray) (old id : Int) : Nok (setL L n old id) := by
  refine ⟨h.ok.set n old id, ?_⟩
  by_cases h0 : setE L n old = 0
  · intro r hr
    obtain ⟨r0, h1, rfl⟩ := (set_mem h0).1 hr
    split
    · exact h.nm r0 h1
    · exact h.nm r0 h1
  · unfold setL
    rw [if_neg h0]
    exact h.nm
theorem Nok.drop {L : List Rf} (h : Nok L) (n : ByteArray) : Nok (dropL L n) := ⟨h.ok.drop n, fun r hr => h.nm r (drop_mem.1 hr).1⟩
theorem Nok.new (l : List Rf) : Nok (newL l) := by
  have : ∀ (l : List Rf) (M : List Rf), Nok M → Nok (l.foldl makeL M) := by
    intro l
    induction l with
    | nil => exact fun M h => h
    | cons x l ih => exact fun M h => ih _ (h.make x)
  exact this l [] Nok.nil
theorem getR_put {L M : List Rf} (hL : Rok L) (hM : Rok M) {n : ByteArray} {x : Rf} (hx : x.n = n) (h : ∀ z, z ∈ M ↔ z = x ∨ (z ∈ L ∧ z.n ≠ n)) : mR M = updS (mR L) n (some (aggR x)) := by
  funext s
  by_cases q : s = n
  · subst q
    rw [updS_same]
    unfold mR
    rw [(getR_mem hM).2 ⟨(h x).2 (.inl rfl), hx⟩]
    rfl
  · rw [updS_other _ _ q]
    unfold mR
    congr 1
    cases hg : getR L s with
    | none =>
      rw [getR_none] at hg ⊢
      intro z hz e
      rcases (h z).1 hz with r | r
      · rw [r, hx] at e; exact q e.symm
      · exact hg z r.1 e
    | some y =>
      obtain ⟨h1, h2⟩ := (getR_mem hL).1 hg
      exact (getR_mem hM).2 ⟨(h y).2 (.inr ⟨h1, by rw [h2]; exact q⟩), h2⟩
theorem getR_del {L M : List Rf} (hL : Rok L) (hM : Rok M) {n : ByteArray} (h : ∀ z, z ∈ M ↔ z ∈ L ∧ z.n ≠ n) : mR M = updS (mR L) n none := by
  funext s
  by_cases q : s = n
  · subst q
    rw [updS_same]
    unfold mR
    rw [getR_none.2 (fun z hz => ((h z).1 hz).2)]
    rfl
  · rw [updS_other _ _ q]
    unfold mR
    congr 1
    cases hg : getR L s with
    | none =>
      rw [getR_none] at hg ⊢
      exact fun z hz e => hg z ((h z).1 hz).1 e
    | some y =>
      obtain ⟨h1, h2⟩ := (getR_mem hL).1 hg
      exact (getR_mem hM).2 ⟨(h y).2 ⟨h1, by rw [h2]; exact q⟩, h2⟩
theorem mR_make {L : List Rf} (h : Rok L) {x : Rf} (h0 : makeE L x = 0) : mR (makeL L x) = updS (mR L) x.n (some (aggR x)) := by
  refine getR_put h (h.make x) rfl (fun z => ?_)
  rw [make_mem h0]
  have := getR_none.1 (makeE_zero.1 h0).2.1
  constructor
  · rintro (q | q)
    · exact .inl q
    · exact .inr ⟨q, this z q⟩
  · rintro (q | q)
    · exact .inl q
    · exact .inr q.1
theorem setE_zero {L : List Rf} {n : ByteArray} {old : Int} : setE L n old = 0 ↔ ∃ r, getR L n = some r ∧ r.t = false ∧ r.i = old := by
  unfold setE
  cases hg : getR L n with
  | none => simp
  | some r =>
    cases ht : r.t with
    | true => simp [ht]
    | false =>
      by_cases hi : r.i = old
      · simp [hi, ht]
      · simp [hi, ht]
theorem mR_set {L : List Rf} (h : Rok L) {n : ByteArray} {old id : Int} {r : Rf} (h0 : setE L n old = 0) (hr : getR L n = some r) : mR (setL L n old id) = updS (mR L) n (some (aggR { r with i := id })) := by
  obtain ⟨h1, h2⟩ := (getR_mem h).1 hr
  refine getR_put h (h.set n old id) h2 (fun z => ?_)
  rw [set_mem h0]
  constructor
  · rintro ⟨y, hy, rfl⟩
    by_cases q : y.n = n
    · have : y = r := by
        have h3 := (getR_mem h).2 ⟨hy, q⟩
        rw [hr] at h3
        injection h3 with h3
        exact h3.symm
      subst this
      rw [if_pos q]
      exact .inl rfl
    · rw [if_neg q]
      exact .inr ⟨hy, q⟩
  · rintro (q | ⟨q, q2⟩)
    · exact ⟨r, h1, by rw [if_pos h2, q]⟩
    · exact ⟨z, q, by rw [if_neg q2]⟩
theorem mR_drop {L : List Rf} (h : Rok L) (n : ByteArray) : mR (dropL L n) = updS (mR L) n none := getR_del h (h.drop n) (fun _ => drop_mem)
theorem mR_nil : mR [] = fun _ => none := rfl
theorem mR_has {L : List Rf} (s : ByteArray) : (mR L s).isSome = true ↔ s ∈ L.map Rf.n := by
  unfold mR
  rw [Option.isSome_map, List.mem_map]
  cases hg : getR L s with
  | none =>
    rw [getR_none] at hg
    simp
    exact fun r hr => hg r hr
  | some r =>
    unfold getR at hg
    exact ⟨fun _ => ⟨r, List.mem_of_find?_eq_some hg, by simpa using List.find?_some hg⟩, fun _ => rfl⟩
theorem Rok.names {L : List Rf} (h : Rok L) : (L.map Rf.n).Nodup := by
  rw [List.nodup_iff_pairwise_ne, List.pairwise_map]
  refine h.rise.imp (fun {a b} q e => ?_)
  rw [e, sLt_irr] at q
  cases q
theorem Nok.small {L : List Rf} (h : Nok L) : ∀ s ∈ L.map Rf.n, s.size ≤ maxLen := by
  intro s hs
  obtain ⟨r, hr, rfl⟩ := List.mem_map.1 hs
  have := nameM_size (h.nm r hr)
  unfold maxLen
  omega
theorem kstr : Try.prog.underlying 9 = some .string := Try.underlying9
/-- the program's table at p, its map at b -/
structure Tp (w : World) (p b : Nat) (L : List Rf) : Prop where
  ob : Ob w p 56 [.map (some b)]
  ms : Ms Try.prog 9 w b L.length (mR L)
  ok : Nok L
theorem Tp.old {w w' : World} {p b : Nat} {L : List Rf} (h : Tp w p b L) (o : Below w.heap.size w w') : Tp w' p b L := { h with ob := h.ob.old o, ms := h.ms.below o }
theorem Tp.onl {F : Nat → Prop} {w w' : World} {p b : Nat} {L : List Rf} (h : Tp w p b L) (o : Onl F w w') (hp : ¬ F p) (hb : ¬ F b) : Tp w' p b L := { h with ob := h.ob.onl o hp, ms := h.ms.onl o hb }
theorem ms_cell {P : Program} {k : TypeId} {w : World} {b c : Nat} {M : ByteArray → Option Value} (h : Ms P k w b c M) (i : Nat) : w.cell? ⟨b, i, none⟩ = none := by
  obtain ⟨D, ⟨es, c, h1, _⟩, _⟩ := h
  unfold World.cell?
  rw [h1]
theorem Tp.ne {w : World} {p b : Nat} {L : List Rf} (h : Tp w p b L) : p ≠ b := by
  intro e
  have h1 := h.ob.cell 0
  rw [e, ms_cell h.ms] at h1
  cases h1
theorem Tp.lt {w : World} {p b : Nat} {L : List Rf} (h : Tp w p b L) : p < w.heap.size ∧ b < w.heap.size := ⟨h.ob.lt, h.ms.lt⟩
set_option maxRecDepth 100000 in
theorem zero_rf (W : World) : (zeroValue 32).run Try.prog W = .ok (aggR zeroR) W := by kernel_rfl
/-- a look-up, told whether it is there -/
theorem mr_look2 {w : World} {b c : Nat} {L : List Rf} (h : Ms Try.prog 9 w b c (mR L)) {s : ByteArray} (hs : s.size ≤ maxLen) :
    (Instr.lookup 54 (.map (some b)) (.string s) true).run Try.prog w = .ok (.tuple #[aggR ((getR L s).getD zeroR), .bool (getR L s).isSome]) w := by
  rw [h.look2 (z := aggR zeroR) kstr Try.underlying54 zero_rf hs]
  unfold mR
  cases getR L s <;> rfl
theorem mr_look {w : World} {b c : Nat} {L : List Rf} (h : Ms Try.prog 9 w b c (mR L)) {s : ByteArray} (hs : s.size ≤ maxLen) :
    (Instr.lookup 54 (.map (some b)) (.string s) false).run Try.prog w = .ok (aggR ((getR L s).getD zeroR)) w := by
  rw [h.look (z := aggR zeroR) kstr Try.underlying54 zero_rf hs]
  unfold mR
  cases getR L s <;> rfl
/-- one more -/
theorem Tp.put {w : World} {p b : Nat} {L M : List Rf} {n : ByteArray} {x : Rf} (h : Tp w p b L) (hn : n.size ≤ maxLen) (hM : Nok M) (e : mR M = updS (mR L) n (some (aggR x))) :
    ∃ w', (Instr.mapUpdate 54 (.map (some b)) (.string n) (aggR x)).run Try.prog w = .ok () w' ∧ Tp w' p b M ∧ Onl (fun i => i = b) w w' := by
  obtain ⟨w', R, m, t⟩ := h.ms.store kstr Try.underlying54 (by have := h.ok.ok.len; omega) hn (aggR x)
  have o : Onl (fun i => i = b) w w' := turned_onl t
  refine ⟨w', R, ⟨h.ob.onl o h.ne, ?_, hM⟩, o⟩
  rw [← e] at m
  have := m.fit kstr (fun s _ => mR_has s) hM.small hM.ok.names
  rw [List.length_map] at this
  exact this
theorem Tp.del {w : World} {p b : Nat} {L : List Rf} (h : Tp w p b L) {n : ByteArray} (hn : n.size ≤ maxLen) (ty : TypeId) :
    ∃ w', (Builtin.delete_ #[54, 9] ty #[.map (some b), .string n]).run Try.prog w = .ok (.tuple #[]) w' ∧ Tp w' p b (dropL L n) ∧ Onl (fun i => i = b) w w' := by
  obtain ⟨w', c', R, m, t⟩ := h.ms.drop kstr Try.underlying54 hn ty
  have o : Onl (fun i => i = b) w w' := turned_onl t
  have hM := h.ok.drop n
  refine ⟨w', R, ⟨h.ob.onl o h.ne, ?_, hM⟩, o⟩
  rw [← mR_drop h.ok.ok] at m
  have := m.fit kstr (fun s _ => mR_has s) hM.small hM.ok.names
  rw [List.length_map] at this
  exact this
theorem Tp.len {w : World} {p b : Nat} {L : List Rf} (h : Tp w p b L) (ty : TypeId) : (Builtin.len_ #[54] ty #[.map (some b)]).run Try.prog w = .ok (.int .i64 L.length) w := by
  have := h.ms.len kstr Try.underlying54 (fun s _ => mR_has s) h.ok.small h.ok.ok.names ty
  rw [List.length_map] at this
  exact this
/-- a map held against nil -/
theorem eql_mapR (w : World) (r : Option Nat) : (binOp .eql 54 (.map r) (.map none)).run Try.prog w = .ok (.bool r.isNone) w := run_eql_map_nil_sl w _ _ _ r Try.underlying54
end Go.Proofs.Yticofadpbpcejaa
