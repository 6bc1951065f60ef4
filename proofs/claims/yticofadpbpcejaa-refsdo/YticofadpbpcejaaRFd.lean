/- The program's table: Drop, New. Over the translation. -/
import Derived.Test.YticofadpbpcejaaRFs
namespace Go.Proofs.Yticofadpbpcejaa
open Go.RowKit Apo
/-- what Drop answers, and what is there behind it -/
def PdQ (w : World) (p b : Nat) (L : List Rf) (n : ByteArray) (e : Ending) (w' : World) : Prop := e = .returned (.int .i64 (dropE L n)) ∧ Tp w' p b (dropL L n) ∧ Onl (fun i => i = b) w w'
theorem drop_none {L : List Rf} {n : ByteArray} (h : getR L n = none) : dropL L n = L := by
  unfold dropL
  rw [List.filter_eq_self]
  intro x hx
  simpa using getR_none.1 h x hx
theorem pdQ_no {w w' : World} {p b : Nat} {L : List Rf} {n : ByteArray} (h : Tp w p b L) (hg : getR L n = none) (o : Below w.heap.size w w') : PdQ w p b L n (.returned (.int .i64 111)) w' :=
  ⟨by unfold dropE; rw [hg], by rw [drop_none hg]; exact h.old o, Onl.ofBelow o⟩
theorem pdQ_yes {w w3 : World} {p b : Nat} {L : List Rf} {n : ByteArray} {r : Rf} (h : Tp w p b L) (hn : n.size ≤ maxLen) (hr : getR L n = some r) (bW : Below w.heap.size w w3) (ty : TypeId) :
    ∃ w4, (Builtin.delete_ #[54, 9] ty #[.map (some b), .string n]).run Try.prog w3 = .ok (.tuple #[]) w4 ∧ PdQ w p b L n (.returned (.int .i64 0)) w4 ∧ Onl (fun i => i = b) w3 w4 := by
  obtain ⟨w4, R, t4, o4⟩ := (h.old bW).del hn ty
  exact ⟨w4, R, ⟨by unfold dropE; rw [hr], t4, (Onl.ofBelow bW).trans o4⟩, o4⟩
set_option maxRecDepth 100000 in
set_option maxHeartbeats 4000000 in
theorem pdrop_any {w : World} {p b : Nat} {L : List Rf} (h : Tp w p b L) {n : ByteArray} (hn : n.size ≤ maxLen) :
    Calls Try.prog 14 #[.pointer (some ⟨p, 0, none⟩), .string n] w (PdQ w p b L n) := by
  obtain ⟨x, hx⟩ : ∃ x, x = (getR L n).getD zeroR := ⟨_, rfl⟩
  obtain ⟨is, his⟩ : ∃ is, is = (getR L n).isSome := ⟨_, rfl⟩
  have HC : Hid (Calls Try.prog 20 #[.pointer (some ⟨p, 0, none⟩), .string n] w fun e w' => e = .returned (.tuple #[.agg #[.string x.n, .bool x.t, .int .u64 x.i], .bool is]) ∧ Below w.heap.size w w') := hide (by
    have := pget_any h hn
    unfold PgG aggR at this
    rw [← hx, ← his] at this
    exact this)
  have HG := hide h
  have HX := hide hx
  have HIS := hide his
  have HNS := hide hn
  clear h hx his hn
  go_enter Try.func14, Try.ntmps14
  go_wp2_with fail
  refine HC.out.mono ?_
  rintro e w1 ⟨rfl, b1⟩
  have HB1 := hide (b1.alloc b1.size (.cells #[.string x.n, .bool x.t, .int .u64 x.i] 32))
  clear b1 HC
  cases is with
  | false =>
    have hg : getR L n = none := by
      have := HIS.out
      cases q : getR L n with
      | none => rfl
      | some r => rw [q] at this; cases this
    have HF := hide (pdQ_no HG.out hg HB1.out)
    clear hg
    go_wp2
    go_ret
    exact HF.out
  | true =>
    have hg : ∃ r, getR L n = some r := by
      have h1 := HIS.out
      cases q : getR L n with
      | none => rw [q] at h1; cases h1
      | some r => exact ⟨r, rfl⟩
    obtain ⟨r, hg⟩ := hg
    have HGE := hide hg
    clear hg
    have b3 := HB1.out
    have t1 := (HG.out.old b3).ob.cell 0
    simp only [List.getElem?_cons_zero] at t1
    obtain ⟨w4, R4, q4, o4⟩ := pdQ_yes HG.out HNS.out HGE.out b3 0
    have HF := hide q4
    clear b3 q4 o4
    go_wp2
    go_ret
    exact HF.out
theorem tp_new (w : World) : Tp ((w.alloc (.map #[] 0)).alloc (.cells #[.map (some w.heap.size)] 56)) (w.heap.size + 1) w.heap.size [] := by
  refine ⟨?_, ?_, Nok.nil⟩
  · have := Ob.new (w.alloc (.map #[] 0)) [.map (some w.heap.size)] 56
    simpa using this
  · rw [mR_nil]
    exact (Ms.made w Try.prog 9).below ((Below.refl _ _).alloc (Nat.le_refl _) _)
/-- what New makes: a table of two blocks of its own -/
def PnQ (w : World) (L : List Rf) (e : Ending) (w' : World) : Prop := e = .returned (.pointer (some ⟨w.heap.size + 1, 0, none⟩)) ∧ Tp w' (w.heap.size + 1) w.heap.size L ∧ Below w.heap.size w w'
set_option maxRecDepth 100000 in
set_option maxHeartbeats 4000000 in
theorem pnew_any {w : World} {a : Option Addr} {cap : Nat} {l : List Rf} (rd : RdG cRf 3 w a l) (hl : l.length ≤ 1000000) (hn : ∀ x ∈ l, x.n.size ≤ 9223372036854775807) :
    Calls Try.prog 8 #[.slice a l.length cap] w (PnQ w (newL l)) := by
  have HR := hide rd
  have HN := hide hn
  have HT := hide (tp_new w)
  have b0 : Below w.heap.size w ((w.alloc (.map #[] 0)).alloc (.cells #[.map (some w.heap.size)] 56)) := ((Below.refl _ w).alloc (Nat.le_refl _) _).alloc (by simp) _
  have HB0 := hide b0
  have hmm := @run_makeMap Try.prog
  clear rd hn b0
  go_enter Try.func8, Try.ntmps8
  go_wp2
  go_loopw [11] (fun i wr => ∃ k : Nat, k ≤ l.length ∧ i = .int .i64 k ∧ Hid (Tp wr (w.heap.size + 1) w.heap.size (newL (l.take k))) ∧ Hid (Below w.heap.size w wr)) (fun i _ => l.length - (intOf i).toNat)
  case atStart => exact ⟨0, Nat.zero_le _, rfl, HT, HB0⟩
  case round =>
    obtain ⟨k, hk, rfl, HG, HB⟩ := hrel
    by_cases hlt : k < l.length
    · obtain ⟨x, hx⟩ : ∃ x, l[k]? = some x := ⟨l[k], List.getElem?_eq_getElem _⟩
      obtain ⟨g, o, rfl, q0, q1, q2⟩ := rd_rf (HR.out.below HB.out) hx
      have HX := hide hx
      have bA := (Below.refl wr.heap.size wr).alloc (Nat.le_refl _) (.cells #[.string x.n, .bool x.t, .int .u64 x.i] 32)
      have HBA := hide (HB.out.trans (bA.mono HB.out.size))
      have hxn := HN.out x (List.mem_of_getElem? hx)
      have HC := hide (pmake_any (HG.out.old bA) x hxn)
      clear hx bA hxn
      go_wp2_with fail
      refine HC.out.mono ?_
      rintro e w2 ⟨rfl, h1, o2⟩
      rw [← newL_step HX.out] at h1
      have H1 := hide h1
      have H2 := hide (Below.onl HBA.out o2 (fun i q => by omega) (Nat.le_refl _))
      clear h1 o2
      go_wp2
      go_roundw
      case rel => exact ⟨k + 1, by omega, by go_num, H1, H2⟩
      case measure => simp [intOf]; omega
    · have hE : Hid (l.take k = l) := hide (List.take_of_length_le (by omega))
      have HF : Hid (Tp wr (w.heap.size + 1) w.heap.size (newL l)) := by
        have := HG.out
        rw [hE.out] at this
        exact this
      go_wp2
      go_ret
      exact ⟨rfl, HF.out, HB.out⟩
end Go.Proofs.Yticofadpbpcejaa
