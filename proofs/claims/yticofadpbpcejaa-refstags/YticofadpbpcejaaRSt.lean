/- The document's Set. Over the translation. -/
import Derived.Test.YticofadpbpcejaaRMk
namespace Go.Proofs.Yticofadpbpcejaa
open Go.RowKit Apo
theorem gcells_set {L : List Rf} {k : Nat} {x : Rf} (hx : L[k]? = some x) (id : Int) : gcells cRf (L.set k { x with i := id }) = (gcells cRf L).set (k * 3 + 2) (.int .u64 id) := by
  induction L generalizing k with
  | nil => simp at hx
  | cons y L ih =>
    cases k with
    | zero =>
      simp at hx
      subst hx
      simp [gcells, cRf]
    | succ k =>
      have h1 := ih (k := k) (by simpa using hx)
      have h2 : (k + 1) * 3 + 2 = (k * 3 + 2) + 1 + 1 + 1 := by omega
      rw [h2]
      simp only [List.set_cons_succ]
      simp only [gcells, List.flatMap_cons, cRf, List.cons_append, List.nil_append, List.set_cons_succ, List.cons.injEq, true_and] at h1 ⊢
      exact h1
theorem Rok.apart {L : List Rf} (h : Rok L) {i j : Nat} {x y : Rf} (hx : L[i]? = some x) (hy : L[j]? = some y) (hn : x.n = y.n) : i = j := by
  obtain ⟨hi, rfl⟩ := List.getElem?_eq_some_iff.1 hx
  obtain ⟨hj, rfl⟩ := List.getElem?_eq_some_iff.1 hy
  have h1 := List.pairwise_iff_getElem.1 h.rise
  rcases Nat.lt_trichotomy i j with q | q | q
  · have := h1 i j hi hj q
    rw [hn, sLt_irr] at this
    cases this
  · exact q
  · have := h1 j i hj hi q
    rw [hn, sLt_irr] at this
    cases this
theorem setL_is {L : List Rf} (h : Rok L) {k : Nat} {x : Rf} (hx : L[k]? = some x) (id : Int) : L.map (fun r => if r.n = x.n then { r with i := id } else r) = L.set k { x with i := id } := by
  apply List.ext_getElem?
  intro j
  rw [List.getElem?_map, List.getElem?_set]
  by_cases q : k = j
  · subst q
    rw [if_pos rfl, if_pos (List.getElem?_eq_some_iff.1 hx).1, hx]
    simp
  · rw [if_neg q]
    cases hj : L[j]? with
    | none => rfl
    | some y =>
      have : y.n ≠ x.n := fun e => q (h.apart hx hj e.symm)
      simp [this]
/-- what Set answers, and what is there behind it -/
def StR (O : Nat → Prop) (w : World) (p : Nat) (L : List Rf) (n : ByteArray) (old id : Int) (e : Ending) (w' : World) : Prop := e = .returned (.int .i64 (setE L n old)) ∧ TbR (Gro O w w') w' p (setL L n old id) ∧ Onl O w w'
theorem stR_same {O : Nat → Prop} {w w' : World} {p : Nat} {L : List Rf} {n : ByteArray} {old id E : Int} (h : TbR O w p L) (hE : setE L n old = E) (h0 : E ≠ 0) (b : Below w.heap.size w w') : StR O w p L n old id (.returned (.int .i64 E)) w' :=
  ⟨by rw [hE], by unfold setL; rw [if_neg (by rw [hE]; exact h0)]; exact h.gro b, Onl.ofBelow b⟩
theorem stR_done {O : Nat → Prop} {w w' : World} {p g k : Nat} {L : List Rf} {x : Rf} {n : ByteArray} {old id : Int} {m cap : Nat} (hR : Rok L) (h : TbR O w p L) (hE : setE L n old = 0) (hx : L[k]? = some x) (hn : x.n = n) (b : Below w.heap.size w w')
    (ho : Ob w' p 46 [.slice (some ⟨g, 0, none⟩) m cap]) (row : RoT (fun g => O g ∧ g ≠ p) w' (some ⟨g, 0, none⟩) m cap L) :
    StR O w p L n old id (.returned (.int .i64 0)) (w'.setCell ⟨g, k * 3 + 2, none⟩ (.int .u64 id)) := by
  obtain ⟨g', ex, e1, ob, hO, hgp⟩ := row.at' _ rfl
  injection e1 with e1
  subst e1
  have o1 : Onl O w' (w'.setCell ⟨g, k * 3 + 2, none⟩ (.int .u64 id)) := (Onl.refl O w').set (p := g) (.inl hO) _
  have hsz : (w'.setCell ⟨g, k * 3 + 2, none⟩ (.int .u64 id)).heap.size = w'.heap.size := by simp [World.setCell]
  have hk := (List.getElem?_eq_some_iff.1 hx).1
  refine ⟨by rw [hE], ?_, (Onl.ofBelow b).trans o1⟩
  subst hn
  unfold setL
  rw [if_pos hE, setL_is hR hx]
  refine ⟨.inl h.op, Gro.lt h.lt (by rw [hsz]; exact b.size), ⟨_, m, cap, ho.set_other (fun q => hgp q.symm) _, ⟨by rw [List.length_set]; exact row.n, by rw [List.length_set]; exact row.le, row.mx, (fun e => by cases e), fun ad e => ?_⟩⟩, by rw [List.length_set]; exact h.len⟩
  injection e with e
  subst e
  refine ⟨g, ex, rfl, ?_, .inl hO, hgp⟩
  have h1 := ob.set (k * 3 + 2) (.int .u64 id)
  rw [List.set_append_left _ _ (by rw [gcells_len cRf_len]; omega), ← gcells_set hx] at h1
  exact h1
set_option maxRecDepth 100000 in
set_option maxHeartbeats 4000000 in
theorem rset_any {O : Nat → Prop} {w : World} {p : Nat} {L : List Rf} (hR : Rok L) (h : TbR O w p L) (n : ByteArray) (old id : Int) :
    Calls Try.prog 13 #[.pointer (some ⟨p, 0, none⟩), .string n, .int .u64 old, .int .u64 id] w (StR O w p L n old id) := by
  have HA := hide (rat_any h n)
  have HG := hide h
  have HR := hide hR
  have hpl := h.lt p h.op
  clear h hR
  go_enter Try.func13, Try.ntmps13
  go_wp2_with fail
  refine HA.out.mono ?_
  rintro e w1 ⟨rfl, b1⟩
  have HB1 := hide b1
  have HG1 := hide (HG.out.old b1)
  clear b1 HA
  rcases at_casesR L n with ⟨k, x, hx, hxn, hxb, h2, h3⟩ | ⟨h2, h3, hxb⟩
  · obtain ⟨a, m, cap, k0, row⟩ := HG1.out.mem
    have HROW := hide row
    have HOB := hide k0
    obtain ⟨g, o, ha, q0, q1, q2⟩ := rd_rf row.rd hx
    subst ha
    obtain ⟨g', ex, e1, ob, hO, hgp⟩ := row.at' _ rfl
    injection e1 with e1 e2
    subst e1 e2
    rw [Nat.zero_add] at q0 q1 q2
    have f2 := ob.frozen (k * 3 + 2)
    have x0 := k0.cell 0
    simp only [List.getElem?_cons_zero] at x0
    have hkl : k < m := by rw [row.n]; exact (List.getElem?_eq_some_iff.1 hx).1
    have hm : m ≤ 40 := by rw [row.n]; exact HG1.out.len
    rw [h3]
    cases ht : x.t with
    | true =>
      have HF := hide (stR_same (n := n) (old := old) (id := id) HG.out (E := 114) (by unfold setE; rw [h2]; simp [ht]) (by decide) HB1.out)
      rw [ht] at q1
      clear h2 h3 row k0 ob hx hxn hxb hO hgp ht
      go_wp2
      go_ret
      exact HF.out
    | false =>
      rw [ht] at q1
      by_cases hid : x.i = old
      · have HF := hide (stR_done (old := old) (id := id) HR.out HG.out (by unfold setE; rw [h2]; simp [ht, hid]) hx hxn HB1.out k0 row)
        have d : (x.i == old) = true := by simp [hid]
        clear h2 h3 row k0 ob hx hxn hxb hO hgp ht hid
        go_wp2
        go_ret
        exact HF.out
      · have HF := hide (stR_same (n := n) (old := old) (id := id) HG.out (E := 113) (by unfold setE; rw [h2]; simp [ht, hid]) (by decide) HB1.out)
        have d : (x.i == old) = false := by simp [hid]
        clear h2 h3 row k0 ob hx hxn hxb hO hgp ht hid
        go_wp2
        go_ret
        exact HF.out
  · have HF := hide (stR_same (n := n) (old := old) (id := id) HG.out (E := 111) (by unfold setE; rw [h2]) (by decide) HB1.out)
    rw [h3]
    clear h2 h3 hxb
    go_wp2
    go_ret
    exact HF.out
end Go.Proofs.Yticofadpbpcejaa
