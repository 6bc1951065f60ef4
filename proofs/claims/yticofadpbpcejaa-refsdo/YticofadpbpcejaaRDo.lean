/- Law 16's two tables, side by side: the program's and the document's. Over the translation. -/
import Derived.Test.YticofadpbpcejaaRAw
import Derived.Test.YticofadpbpcejaaRGa
import Derived.Test.YticofadpbpcejaaRCy
import Derived.Test.YticofadpbpcejaaRSm
namespace Go.Proofs.Yticofadpbpcejaa
open Go.RowKit Apo
/-- the program's table at p, its map at b; the document's at q, its blocks of O: both of the refs L -/
structure DoS (w wr : World) (p b q : Nat) (L : List Rf) (O : Nat → Prop) : Prop where
  tp : Tp wr p b L
  tb : TbR O wr q L
  np : ¬ O p
  nb : ¬ O b
  lo : ∀ k, O k → w.heap.size ≤ k
  lp : w.heap.size ≤ p ∧ w.heap.size ≤ b
  bel : Below w.heap.size w wr
theorem DoS.old {w wr W : World} {p b q : Nat} {L : List Rf} {O : Nat → Prop} (h : DoS w wr p b q L O) (o : Below wr.heap.size wr W) : DoS w W p b q L O :=
  { h with tp := h.tp.old o, tb := h.tb.old o, bel := h.bel.trans (o.mono h.bel.size) }
/-- both behind a change of each -/
theorem DoS.both {w wr W w1 w2 : World} {p b q : Nat} {L M : List Rf} {O : Nat → Prop} (h : DoS w wr p b q L O) (hW : Below wr.heap.size wr W) (t1 : Tp w1 p b M) (o1 : Onl (fun i => i = b) W w1) (t2 : TbR (Gro O w1 w2) w2 q M) (o2 : Onl O w1 w2) : DoS w w2 p b q M (Gro O w1 w2) := by
  have hl := t1.lt
  have hs1 := o1.size
  have hW0 := hW.size
  have hw := h.bel.size
  refine ⟨t1.onl o2 h.np h.nb, t2, ?_, ?_, ?_, h.lp, ?_⟩
  · rintro (z | z)
    · exact h.np z
    · have := z.1; omega
  · rintro (z | z)
    · exact h.nb z
    · have := z.1; omega
  · rintro k (z | z)
    · exact h.lo k z
    · have := z.1; omega
  · exact Below.onl (Below.onl (h.bel.trans (hW.mono hw)) o1 (fun i z => by rw [z]; exact h.lp.2) (Nat.le_refl _)) o2 (fun i z => h.lo i z) (Nat.le_refl _)
/-- both do the same, one behind the other; what lies from D on stays -/
def DoStep (w : World) (p b q D : Nat) (M : List Rf) (E : Int) (fp fx : FuncId) (ap ax : Array Value) (W : World) : Prop :=
  Calls Try.prog fp ap W fun e w1 => e = .returned (.int .i64 E) ∧ Onl (fun i => i < D) W w1 ∧ Calls Try.prog fx ax w1 fun e w2 => e = .returned (.int .i64 E) ∧ Onl (fun i => i < D) w1 w2 ∧ ∃ O, DoS w w2 p b q M O
theorem do_make {w wr W : World} {p b q : Nat} {L : List Rf} {O : Nat → Prop} (h : DoS w wr p b q L O) (hW : Below wr.heap.size wr W) (x : Rf) (hx : x.n.size ≤ 9223372036854775807) :
    DoStep w p b q wr.heap.size (makeL L x) (makeE L x) 10 11 #[.pointer (some ⟨p, 0, none⟩), .agg #[.string x.n, .bool x.t, .int .u64 x.i]] #[.pointer (some ⟨q, 0, none⟩), .agg #[.string x.n, .bool x.t, .int .u64 x.i]] W := by
  have hl := h.tp.lt
  refine (pmake_any (h.old hW).tp x hx).mono ?_
  rintro e w1 ⟨rfl, t1, o1⟩
  refine ⟨rfl, o1.mono (fun i z => by omega), (rmake_any ((h.old hW).tb.onl o1 (fun k z e => h.nb (e ▸ z))) x hx).mono ?_⟩
  rintro e w2 ⟨rfl, t2, o2⟩
  exact ⟨rfl, o2.mono (fun i z => h.tb.lt i z), _, h.both hW t1 o1 t2 o2⟩
theorem do_set {w wr W : World} {p b q : Nat} {L : List Rf} {O : Nat → Prop} (h : DoS w wr p b q L O) (hW : Below wr.heap.size wr W) {n : ByteArray} (hn : n.size ≤ maxLen) (old id : Int) :
    DoStep w p b q wr.heap.size (setL L n old id) (setE L n old) 12 13 #[.pointer (some ⟨p, 0, none⟩), .string n, .int .u64 old, .int .u64 id] #[.pointer (some ⟨q, 0, none⟩), .string n, .int .u64 old, .int .u64 id] W := by
  have hl := h.tp.lt
  refine (pset_any (h.old hW).tp hn old id).mono ?_
  rintro e w1 ⟨rfl, t1, o1⟩
  refine ⟨rfl, o1.mono (fun i z => by omega), (rset_any h.tp.ok.ok ((h.old hW).tb.onl o1 (fun k z e => h.nb (e ▸ z))) n old id).mono ?_⟩
  rintro e w2 ⟨rfl, t2, o2⟩
  exact ⟨rfl, o2.mono (fun i z => h.tb.lt i z), _, h.both hW t1 o1 t2 o2⟩
theorem do_drop {w wr W : World} {p b q : Nat} {L : List Rf} {O : Nat → Prop} (h : DoS w wr p b q L O) (hW : Below wr.heap.size wr W) {n : ByteArray} (hn : n.size ≤ maxLen) :
    DoStep w p b q wr.heap.size (dropL L n) (dropE L n) 14 15 #[.pointer (some ⟨p, 0, none⟩), .string n] #[.pointer (some ⟨q, 0, none⟩), .string n] W := by
  have hl := h.tp.lt
  refine (pdrop_any (h.old hW).tp hn).mono ?_
  rintro e w1 ⟨rfl, t1, o1⟩
  refine ⟨rfl, o1.mono (fun i z => by omega), (rdrop_any h.tp.ok.ok ((h.old hW).tb.onl o1 (fun k z e => h.nb (e ▸ z))) n).mono ?_⟩
  rintro e w2 ⟨rfl, t2, o2⟩
  exact ⟨rfl, o2.mono (fun i z => h.tb.lt i z), _, h.both hW t1 o1 t2 o2⟩
theorem do_copy {w wr W : World} {p b q : Nat} {L : List Rf} {O : Nat → Prop} (h : DoS w wr p b q L O) (hW : Below wr.heap.size wr W) :
    Calls Try.prog 16 #[.pointer (some ⟨p, 0, none⟩)] W fun e w1 => ∃ p' b', e = .returned (.pointer (some ⟨p', 0, none⟩)) ∧ Below W.heap.size W w1 ∧ DoS w w1 p' b' q L O := by
  have h' := h.old hW
  refine (pcopy_any h'.tp).mono ?_
  rintro e w1 ⟨p', b', rfl, t1, hp, hb, b1⟩
  have := h'.bel.size
  exact ⟨p', b', rfl, b1, { h'.old b1 with tp := t1, np := fun z => by have := h'.tb.lt _ z; omega, nb := fun z => by have := h'.tb.lt _ z; omega, lp := ⟨by omega, by omega⟩ }⟩
/-- what both tell is held side by side -/
def DoTell (w : World) (p b q : Nat) (L : List Rf) (xa : Option Addr) (xn xc : Nat) (W : World) : Prop :=
  Calls Try.prog 18 #[.pointer (some ⟨p, 0, none⟩)] W fun e w1 => ∃ aa na ca, e = .returned (.slice aa na ca) ∧ w1.cell? ⟨q, 0, none⟩ = some (.slice xa xn xc) ∧
    Calls Try.prog 17 #[.slice aa na ca, .slice xa xn xc] w1 fun e w2 => e = .returned (.bool true) ∧ w2.cell? ⟨q, 0, none⟩ = some (.slice xa xn xc) ∧
      Calls Try.prog 19 #[.pointer (some ⟨p, 0, none⟩)] w2 fun e w3 => e = .returned (.int .i64 xn) ∧ w3.cell? ⟨q, 0, none⟩ = some (.slice xa xn xc) ∧ ∃ O, DoS w w3 p b q L O
theorem do_tell {w wr W : World} {p b q : Nat} {L : List Rf} {O : Nat → Prop} (h : DoS w wr p b q L O) (hW : Below wr.heap.size wr W) : ∃ xa xn xc, W.cell? ⟨q, 0, none⟩ = some (.slice xa xn xc) ∧ DoTell w p b q L xa xn xc W := by
  have h' := h.old hW
  obtain ⟨xa, xn, xc, ob, row⟩ := h'.tb.mem
  refine ⟨xa, xn, xc, ob.cell 0, ?_⟩
  refine (gall_any h'.tp.v).mono ?_
  rintro e w1 ⟨aa, na, ca, rfl, hna, ra, b1⟩
  refine ⟨aa, na, ca, rfl, (ob.old b1).cell 0, ?_⟩
  have hn := row.n
  have rdx := (row.old b1).rd
  obtain ⟨a1, c1, e1, rd1, _⟩ := rd_gcells (c := cRf) (k := 3) cRf_len ra
  subst hna
  injection e1 with e11 _ e13
  subst e11 e13 hn
  refine (rsame_refs aa ca L xa xc L w1 rd1 rdx (by have := h.tp.ok.ok.len; omega)).mono ?_
  rintro e w2 ⟨rfl, b2⟩
  have b12 := b1.trans (b2.mono b1.size)
  refine ⟨by simp, (ob.old b12).cell 0, ?_⟩
  refine (plen_any (h'.old b12).tp).mono ?_
  rintro e w3 ⟨rfl, rfl⟩
  exact ⟨rfl, (ob.old b12).cell 0, O, h'.old b12⟩
end Go.Proofs.Yticofadpbpcejaa
