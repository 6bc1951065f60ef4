/- The program's table: Set, Drop, New. Over the translation. -/
import Derived.Test.YticofadpbpcejaaRFn
import Derived.BigRegion
namespace Go.Proofs.Yticofadpbpcejaa
open Go.RowKit Apo
/-- what Set answers, and what is there behind it -/
def PsQ (w : World) (p b : Nat) (L : List Rf) (n : ByteArray) (old id : Int) (e : Ending) (w' : World) : Prop := e = .returned (.int .i64 (setE L n old)) ∧ Tp w' p b (setL L n old id) ∧ Onl (fun i => i = b) w w'
theorem psQ_same {w w' : World} {p b : Nat} {L : List Rf} {n : ByteArray} {old id E : Int} (h : Tp w p b L) (hE : setE L n old = E) (h0 : E ≠ 0) (o : Below w.heap.size w w') : PsQ w p b L n old id (.returned (.int .i64 E)) w' :=
  ⟨by rw [hE], by unfold setL; rw [if_neg (by rw [hE]; exact h0)]; exact h.old o, Onl.ofBelow o⟩
theorem psQ_more {w w3 : World} {p b : Nat} {L : List Rf} {n : ByteArray} {old id : Int} {r : Rf} (h : Tp w p b L) (hn : n.size ≤ maxLen) (hE : setE L n old = 0) (hr : getR L n = some r) (bW : Below w.heap.size w w3) :
    ∃ w4, (Instr.mapUpdate 54 (.map (some b)) (.string n) (.agg #[.string r.n, .bool r.t, .int .u64 id])).run Try.prog w3 = .ok () w4 ∧ PsQ w p b L n old id (.returned (.int .i64 0)) w4 ∧ Onl (fun i => i = b) w3 w4 := by
  obtain ⟨w4, R, t4, o4⟩ := (h.old bW).put (n := n) (x := { r with i := id }) hn (h.ok.set n old id) (mR_set h.ok.ok hE hr)
  exact ⟨w4, R, ⟨by rw [hE], t4, (Onl.ofBelow bW).trans o4⟩, o4⟩
set_option maxRecDepth 100000 in
set_option maxHeartbeats 4000000 in
theorem pset_any {w : World} {p b : Nat} {L : List Rf} (h : Tp w p b L) {n : ByteArray} (hn : n.size ≤ maxLen) (old id : Int) :
    Calls Try.prog 12 #[.pointer (some ⟨p, 0, none⟩), .string n, .int .u64 old, .int .u64 id] w (PsQ w p b L n old id) := by
  obtain ⟨x, hx⟩ : ∃ x, x = (getR L n).getD zeroR := ⟨_, rfl⟩
  obtain ⟨is, his⟩ : ∃ is, is = (getR L n).isSome := ⟨_, rfl⟩
  have HC : Hid (Calls Try.prog 20 #[.pointer (some ⟨p, 0, none⟩), .string n] w fun e w' => e = .returned (.tuple #[.agg #[.string x.n, .bool x.t, .int .u64 x.i], .bool is]) ∧ Below w.heap.size w w') := hide (by
    have := pget_any h hn
    unfold PgG aggR at this
    rw [← hx, ← his] at this
    exact this)
  have HG := hide h
  have HX := hide hx
  have HIS := hide his
  have HNS := hide hn
  clear h hx his hn
  go_enter Try.func12, Try.ntmps12
  go_wp2_with fail
  refine HC.out.mono ?_
  rintro e w1 ⟨rfl, b1⟩
  have b1' := hide b1
  have HB1 := hide (b1.alloc b1.size (.cells #[.string x.n, .bool x.t, .int .u64 x.i] 32))
  clear b1 HC
  cases is with
  | false =>
    have hg : getR L n = none := by
      have := HIS.out
      cases q : getR L n with
      | none => rfl
      | some r => rw [q] at this; cases this
    have HF := hide (psQ_same (id := id) HG.out (E := 111) (show setE L n old = 111 by unfold setE; rw [hg]) (by decide) HB1.out)
    clear hg
    go_wp2
    go_ret
    exact HF.out
  | true =>
  have hg : getR L n = some x := by
    have h1 := HIS.out
    have h2 := HX.out
    cases q : getR L n with
    | none => rw [q] at h1; cases h1
    | some r => rw [q] at h2; rw [h2]; rfl
  have HGE := hide hg
  clear hg
  cases ht : x.t with
  | true =>
    have HF := hide (psQ_same (id := id) HG.out (E := 114) (show setE L n old = 114 by unfold setE; rw [HGE.out]; simp [ht]) (by decide) HB1.out)
    rw [ht] at HF
    go_wp2
    go_ret
    exact HF.out
  | false =>
  by_cases hi : x.i = old
  · have HE : Hid (setE L n old = 0) := hide (by unfold setE; rw [HGE.out]; simp [ht, hi])
    have d1 : (x.i != old) = false := by simpa using hi
    have b3 : Below w.heap.size w (w1.alloc (.cells #[.string x.n, .bool false, .int .u64 id] 32)).drew := (b1'.out.alloc b1'.out.size _).drew
    have t1 := (HG.out.old b3).ob.cell 0
    simp only [List.getElem?_cons_zero] at t1
    obtain ⟨w4, R4, q4, o4⟩ := psQ_more (id := id) HG.out HNS.out HE.out HGE.out b3
    rw [ht] at R4
    have k3 := (Ob.new w1 [.string x.n, .bool false, .int .u64 id] 32).old ((Below.refl _ _).drew)
    have c0 := k3.cell 0
    have c1 := k3.cell 1
    have c2 := k3.cell 2
    simp only [List.getElem?_cons_zero, List.getElem?_cons_succ] at c0 c1 c2
    have HF := hide q4
    clear b3 q4 o4 k3 HE
    go_wp2
    go_region
    go_wp2
    go_ret
    exact HF.out
  · have HF := hide (psQ_same (id := id) HG.out (E := 113) (show setE L n old = 113 by unfold setE; rw [HGE.out]; simp [ht, hi]) (by decide) HB1.out)
    have d1 : (x.i != old) = true := by simpa using hi
    rw [ht] at HF
    clear hi
    go_wp2
    go_ret
    exact HF.out
end Go.Proofs.Yticofadpbpcejaa
