/- The program's table: refs, Get, Make, Set, Drop, Len, New. Over the translation. -/
import Derived.Test.YticofadpbpcejaaRTp
import Derived.Test.YticofadpbpcejaaRPn
namespace Go.Proofs.Yticofadpbpcejaa
open Go.RowKit Apo
theorem refs_any {w : World} {p b : Nat} {L : List Rf} (h : Tp w p b L) :
    Calls Try.prog 24 #[.pointer (some ⟨p, 0, none⟩)] w fun e w' => e = .returned (.map (some b)) ∧ w = w' := by
  have x0 := h.ob.cell 0
  simp only [List.getElem?_cons_zero] at x0
  clear h
  go_enter Try.func24, Try.ntmps24
  go_wp2
  go_ret
  exact ⟨rfl, rfl⟩
theorem refs_nil (w : World) :
    Calls Try.prog 24 #[.pointer none] w fun e w' => e = .returned (.map none) ∧ w = w' := by
  go_enter Try.func24, Try.ntmps24
  go_wp2
  go_ret
  exact ⟨rfl, rfl⟩
theorem plen_any {w : World} {p b : Nat} {L : List Rf} (h : Tp w p b L) :
    Calls Try.prog 19 #[.pointer (some ⟨p, 0, none⟩)] w fun e w' => e = .returned (.int .i64 L.length) ∧ w = w' := by
  have HC := hide (refs_any h)
  have hl := h.len
  clear h
  go_enter Try.func19, Try.ntmps19
  go_wp2_with fail
  refine HC.out.mono ?_
  rintro e w1 ⟨rfl, rfl⟩
  go_wp2
  go_ret
  exact ⟨rfl, rfl⟩
/-- what Get answers -/
def PgG (L : List Rf) (n : ByteArray) (w : World) (e : Ending) (w' : World) : Prop :=
  e = .returned (.tuple #[aggR ((getR L n).getD zeroR), .bool (getR L n).isSome]) ∧ Below w.heap.size w w'
set_option maxRecDepth 100000 in
theorem fin_GetT {W : World} {g : Nat} {c0 c1 c2 er : Value} {tmps : Array Value} {Q : Ending → World → Prop} (k : Ob W g 32 [c0, c1, c2]) (h2 : tmps.getD 4 undef = .pointer (some ⟨g, 0, none⟩)) (h3 : tmps.getD 5 undef = er) (hq : Q (.returned (.tuple #[.agg #[c0, c1, c2], er])) W) :
    bodyPost Try.prog Try.f20 Q Exit.ret { tmps := tmps, defers := [] } W := by
  have hl := run_loadVar_row (P := Try.prog) W g 32 32 #[c0, c1, c2] (0, 0) _ k Try.underlying32 rfl (by rw [size_Rf]; rfl)
  have h2' : tmps[4]?.getD undef = .pointer (some ⟨g, 0, none⟩) := by simpa using h2
  have h3' : tmps[5]?.getD undef = er := by simpa using h3
  refine bodyPost_ret (v := .tuple #[.agg #[c0, c1, c2], er]) ?_ rfl hq
  simp [results, Try.results20, asAddr, h2', h3', hl]
theorem alloc_rf (w : World) : Below w.heap.size w (w.alloc (.cells #[.string ⟨#[]⟩, .bool false, .int .u64 0] 32)) := (Below.refl w.heap.size w).alloc (Nat.le_refl _) _
set_option maxRecDepth 100000 in
set_option maxHeartbeats 4000000 in
theorem pget_of {w : World} {v : Value} {m : Option Nat} {n : ByteArray} {x : Rf} {is : Bool} (hr : ∀ W, Below w.heap.size w W → Calls Try.prog 24 #[v] W fun e w' => e = .returned (.map m) ∧ W = w')
    (hl : ∀ W, Below w.heap.size w W → (Instr.lookup 54 (.map m) (.string n) true).run Try.prog W = .ok (.tuple #[.agg #[.string x.n, .bool x.t, .int .u64 x.i], .bool is]) W) :
    Calls Try.prog 20 #[v, .string n] w fun e w' => e = .returned (.tuple #[aggR x, .bool is]) ∧ Below w.heap.size w w' := by
  unfold aggR
  have HC := hide (hr _ (alloc_rf w))
  have hlk := hl _ (alloc_rf w)
  have HB := hide (alloc_rf w)
  have k1 := Ob.new w [.string ⟨#[]⟩, .bool false, .int .u64 0] 32
  have HK := hide k1
  clear hr hl k1
  go_enter Try.func20, Try.ntmps20
  go_wp2_with fail
  refine HC.out.mono ?_
  rintro e w1 ⟨rfl, rfl⟩
  have y0 := HK.out.cell 0
  have y1 := HK.out.cell 1
  have y2 := HK.out.cell 2
  have f0 := HK.out.frozen 0
  have f1 := HK.out.frozen 1
  have f2 := HK.out.frozen 2
  simp only [List.getElem?_cons_zero, List.getElem?_cons_succ] at y0 y1 y2
  go_wp2
  have kF : Ob ((w.alloc (.cells #[.string x.n, .bool x.t, .int .u64 x.i] 32)).alloc (.cells #[.string x.n, .bool x.t, .int .u64 x.i] 32)) w.heap.size 32 [.string x.n, .bool x.t, .int .u64 x.i] := (Ob.new w [.string x.n, .bool x.t, .int .u64 x.i] 32).alloc _
  exact fin_GetT kF rfl rfl ⟨rfl, ((Below.refl w.heap.size w).alloc (Nat.le_refl _) _).alloc (by simp) _⟩
theorem pget_any {w : World} {p b : Nat} {L : List Rf} (h : Tp w p b L) {n : ByteArray} (hn : n.size ≤ maxLen) :
    Calls Try.prog 20 #[.pointer (some ⟨p, 0, none⟩), .string n] w (PgG L n w) :=
  pget_of (fun _ b => refs_any (h.old b)) (fun _ b => mr_look2 (h.old b).ms hn)
set_option maxRecDepth 100000 in
/-- a look-up in nil -/
theorem nil_lookR (s : ByteArray) (w : World) : (Instr.lookup 54 (.map none) (.string s) true).run Try.prog w = .ok (.tuple #[aggR zeroR, .bool false]) w := by kernel_rfl
theorem pget_nil (n : ByteArray) (w : World) :
    Calls Try.prog 20 #[.pointer none, .string n] w fun e w' => e = .returned (.tuple #[aggR zeroR, .bool false]) ∧ Below w.heap.size w w' :=
  pget_of (fun W _ => refs_nil W) (fun W _ => nil_lookR n W)
theorem plen_nil (w : World) :
    Calls Try.prog 19 #[.pointer none] w fun e w' => e = .returned (.int .i64 0) ∧ w = w' := by
  go_enter Try.func19, Try.ntmps19
  go_wp2_with fail
  refine (refs_nil _).mono ?_
  rintro e w1 ⟨rfl, rfl⟩
  go_wp2
  go_ret
  exact ⟨rfl, rfl⟩
/-- what Make answers, and what is there behind it -/
def PmQ (w : World) (p b : Nat) (L : List Rf) (x : Rf) (e : Ending) (w' : World) : Prop := e = .returned (.int .i64 (makeE L x)) ∧ Tp w' p b (makeL L x) ∧ Onl (fun i => i = b) w w'
theorem pmQ_same {w w' : World} {p b : Nat} {L : List Rf} {x : Rf} {E : Int} (h : Tp w p b L) (hE : makeE L x = E) (h0 : E ≠ 0) (o : Below w.heap.size w w') : PmQ w p b L x (.returned (.int .i64 E)) w' :=
  ⟨by rw [hE], by unfold makeL; rw [if_neg (by rw [hE]; exact h0)]; exact h.old o, Onl.ofBelow o⟩
theorem pmQ_more {w w3 : World} {p b : Nat} {L : List Rf} {x : Rf} (h : Tp w p b L) (hE : makeE L x = 0) (bW : Below w.heap.size w w3) :
    ∃ w4, (Instr.mapUpdate 54 (.map (some b)) (.string x.n) (.agg #[.string x.n, .bool x.t, .int .u64 x.i])).run Try.prog w3 = .ok () w4 ∧ PmQ w p b L x (.returned (.int .i64 0)) w4 ∧ Onl (fun i => i = b) w3 w4 := by
  have hn := nameM_size (makeE_zero.1 hE).1
  obtain ⟨w4, R, t4, o4⟩ := (h.old bW).put (n := x.n) (x := x) (by unfold maxLen; omega) (h.ok.make x) (mR_make h.ok.ok hE)
  exact ⟨w4, R, ⟨by rw [hE], t4, (Onl.ofBelow bW).trans o4⟩, o4⟩
set_option maxRecDepth 100000 in
set_option maxHeartbeats 4000000 in
theorem pmake_any {w : World} {p b : Nat} {L : List Rf} (h : Tp w p b L) (x : Rf) (hx : x.n.size ≤ 9223372036854775807) :
    Calls Try.prog 10 #[.pointer (some ⟨p, 0, none⟩), .agg #[.string x.n, .bool x.t, .int .u64 x.i]] w (PmQ w p b L x) := by
  have bA := (Below.refl w.heap.size w).alloc (Nat.le_refl _) (.cells #[.string x.n, .bool x.t, .int .u64 x.i] 32)
  have hg1 := h.old bA
  have HC := hide (refs_any hg1)
  have HNM := hide (pname_any x.n (w.alloc (.cells #[.string x.n, .bool x.t, .int .u64 x.i] 32)) hx)
  have HK := hide (Ob.new w [.string x.n, .bool x.t, .int .u64 x.i] 32)
  have HB := hide bA
  have HG := hide h
  have k0x := HK.out.cell 0
  simp only [List.getElem?_cons_zero] at k0x
  have heq := fun W => eql_mapR W (some b)
  clear h hx bA hg1
  go_enter Try.func10, Try.ntmps10
  go_wp2_with fail
  refine HC.out.mono ?_
  rintro e w1 ⟨rfl, rfl⟩
  go_wp2_with fail
  refine HNM.out.mono ?_
  rintro e w1 ⟨rfl, rfl⟩
  cases hnm : nameM x.n with
  | false =>
    have HF := hide (pmQ_same (x := x) HG.out (E := 110) (by unfold makeE; rw [if_pos hnm]) (by decide) HB.out)
    clear hnm
    go_wp2
    go_ret
    exact HF.out
  | true =>
  have hns := nameM_size hnm
  have HE : Hid (makeE L x = if (getR L x.n).isSome then 112 else if 40 ≤ L.length then 4 else 0) := hide (by unfold makeE; rw [if_neg (by rw [hnm]; decide)])
  have hlk := mr_look2 (HG.out.old HB.out).ms (s := x.n) (by unfold maxLen; omega)
  clear hnm hns
  cases hg : getR L x.n with
  | some d =>
    rw [hg] at hlk
    have hlk2 : (Instr.lookup 54 (.map (some b)) (.string x.n) true).run Try.prog (w.alloc (.cells #[.string x.n, .bool x.t, .int .u64 x.i] 32)) = .ok (.tuple #[.agg #[.string d.n, .bool d.t, .int .u64 d.i], .bool true]) (w.alloc (.cells #[.string x.n, .bool x.t, .int .u64 x.i] 32)) := hlk
    have HF := hide (pmQ_same (x := x) HG.out (E := 112) (by rw [HE.out, if_pos (by rw [hg]; rfl)]) (by decide) (HB.out.alloc HB.out.size (.cells #[.string d.n, .bool d.t, .int .u64 d.i] 32)))
    clear hlk hg
    go_wp2
    go_ret
    exact HF.out
  | none =>
    rw [hg] at hlk
    have hlk2 : (Instr.lookup 54 (.map (some b)) (.string x.n) true).run Try.prog (w.alloc (.cells #[.string x.n, .bool x.t, .int .u64 x.i] 32)) = .ok (.tuple #[.agg #[.string ⟨#[]⟩, .bool false, .int .u64 0], .bool false]) (w.alloc (.cells #[.string x.n, .bool x.t, .int .u64 x.i] 32)) := hlk
    have b2 : Below w.heap.size w ((w.alloc (.cells #[.string x.n, .bool x.t, .int .u64 x.i] 32)).alloc (.cells #[.string ⟨#[]⟩, .bool false, .int .u64 0] 32)) := HB.out.alloc HB.out.size _
    have hlen := (HG.out.old b2).len
    have HE2 : Hid (makeE L x = if 40 ≤ L.length then 4 else 0) := hide (by rw [HE.out, if_neg (by rw [hg]; simp)])
    have hl40 := HG.out.ok.ok.len
    obtain ⟨m, hm⟩ : ∃ m, m = L.length := ⟨_, rfl⟩
    rw [← hm] at hlen hl40 HE2
    have k3 : Ob ((w.alloc (.cells #[.string x.n, .bool x.t, .int .u64 x.i] 32)).alloc (.cells #[.string ⟨#[]⟩, .bool false, .int .u64 0] 32)) w.heap.size 32 [.string x.n, .bool x.t, .int .u64 x.i] := HK.out.alloc _
    have c0 := k3.cell 0
    have c1 := k3.cell 1
    have c2 := k3.cell 2
    simp only [List.getElem?_cons_zero, List.getElem?_cons_succ] at c0 c1 c2
    clear hlk hg hm k3
    by_cases h40 : 40 ≤ m
    · have HF := hide (pmQ_same (x := x) HG.out (E := 4) (by rw [HE2.out, if_pos h40]) (by decide) b2)
      have d1 : decide ((40 : Int) ≤ (m : Int)) = true := by simp; omega
      clear HE HE2 b2
      go_wp2
      go_ret
      exact HF.out
    · have HE0 : Hid (makeE L x = 0) := hide (by rw [HE2.out, if_neg h40])
      have d1 : decide ((40 : Int) ≤ (m : Int)) = false := by simp; omega
      obtain ⟨w4, R4, q4, o4⟩ := pmQ_more HG.out HE0.out b2
      have HF := hide q4
      clear HE HE2 b2 q4
      go_wp2
      go_ret
      exact HF.out
end Go.Proofs.Yticofadpbpcejaa
