/- A row of edits that is sorted in place, over the translation: its cells, a swap; swapRangeCmpFunc. -/
import Derived.Test.YtbegiiihkmloiaaDSp
import Derived.Test.YtbegiiihkmloiaaGAg
import Derived.Shelf.SlSortCmp.QuietGrown
namespace Go.Proofs.Ytbegiiihkmloiaa
open Go.RowKit Apo
/-- block g holds the edits d, and what is behind them -/
def RoE (w : World) (g : Nat) (d : List Ed) (ex : List Value) : Prop := Ob w g 37 (gcells cEd d ++ ex)
def aggE (x : Ed) : Value := .agg #[.string x.k, .string x.v, .bool x.g]
section
variable {w w' : World} {g : Nat} {d : List Ed} {ex : List Value}
theorem RoE.lt (h : RoE w g d ex) : g < w.heap.size := Ob.lt h
theorem RoE.old (h : RoE w g d ex) (b : Below w.heap.size w w') : RoE w' g d ex := Ob.old h b
theorem RoE.drew (h : RoE w g d ex) : RoE w.drew g d ex := h.old (Below.refl _ _).drew
theorem RoE.at (h : RoE w g d ex) {i : Nat} {x : Ed} (hx : d[i]? = some x) (j : Nat) (u : Value) (hu : (cEd x)[j]? = some u) : w.cell? ⟨g, i * 3 + j, none⟩ = some u := by
  have hc := Ob.cell h (i * 3 + j)
  have := gcells_at cEd_len d hx hu
  rw [hc, List.getElem?_append_left (List.getElem?_eq_some_iff.1 this).1]
  exact this
theorem RoE.cells (h : RoE w g d ex) {i : Nat} {x : Ed} (hx : d[i]? = some x) : w.cell? ⟨g, i * 3, none⟩ = some (.string x.k) ∧ w.cell? ⟨g, i * 3 + 1, none⟩ = some (.string x.v) ∧ w.cell? ⟨g, i * 3 + 2, none⟩ = some (.bool x.g) :=
  ⟨h.at hx 0 _ rfl, h.at hx 1 _ rfl, h.at hx 2 _ rfl⟩
theorem gcells_set {α : Type} {c : α → List Value} {k : Nat} (hk : ∀ x, (c x).length = k) : ∀ (l : List α) (i : Nat) (y : α), i < l.length → over (gcells c l) (i * k) (c y) = gcells c (l.set i y)
  | [], _, _, h => by simp at h
  | x :: l, 0, y, _ => by
    simp [over, gcells, hk]
  | x :: l, i + 1, y, h => by
    have ih := gcells_set hk l i y (by simpa using h)
    have e1 : gcells c ((x :: l).set (i + 1) y) = c x ++ gcells c (l.set i y) := by simp [gcells]
    have e2 : gcells c (x :: l) = c x ++ gcells c l := by simp [gcells]
    rw [e1, e2, ← ih]
    unfold over
    rw [show (i + 1) * k = (c x).length + i * k by rw [hk, Nat.succ_mul]; omega, Nat.add_assoc, List.take_length_add_append, List.drop_length_add_append]
    simp [List.append_assoc]
set_option maxRecDepth 100000 in
theorem size_ed : (Try.prog.info? 37).map (·.size) = some 3 := by kernel_rfl
set_option maxRecDepth 100000 in
theorem RoE.load (h : RoE w g d ex) {i : Nat} {x : Ed} (hx : d[i]? = some x) : (Instr.loadAt 37 (.pointer (some ⟨g, i * 3, none⟩))).run Try.prog w = .ok (aggE x) w := by
  refine run_loadAt_cells (P := Try.prog) 37 _ Try.underlying37 rfl (cEd x) size_ed ⟨g, i * 3, none⟩ (fun j v hv => ?_)
  rw [show (⟨g, i * 3, none⟩ : Addr).add j = ⟨g, i * 3 + j, none⟩ by unfold Addr.add; split <;> simp_all]
  exact h.at hx j v hv
set_option maxRecDepth 100000 in
theorem RoE.store (h : RoE w g d ex) {i : Nat} (hi : i < d.length) (y : Ed) : ∃ w', (Instr.storeAt 37 (.pointer (some ⟨g, i * 3, none⟩)) (aggE y)).run Try.prog w = .ok () w' ∧ RoE w' g (d.set i y) ex ∧ Onl (fun k => k = g) w w' := by
  have hle : i * 3 + 3 ≤ d.length * 3 := by omega
  obtain ⟨w', h1, h2, h3⟩ := run_storeAt_cells (P := Try.prog) (w := w) 37 37 g (i * 3) (gcells cEd d ++ ex) (cEd y) size_ed (cEd_one y) h (by rw [List.length_append, gcells_len cEd_len, cEd_len]; omega)
  refine ⟨w', h1, ?_, h3⟩
  unfold RoE
  rw [← gcells_set cEd_len d i y hi]
  have : over (gcells cEd d ++ ex) (i * 3) (cEd y) = over (gcells cEd d) (i * 3) (cEd y) ++ ex := by
    unfold over
    rw [List.take_append_of_le_length (by rw [gcells_len cEd_len]; omega), List.drop_append_of_le_length (by rw [gcells_len cEd_len, cEd_len]; omega)]
    simp
  rw [← this]
  exact h2
/-- all that a walk asks of a swap -/
structure SwE (W : World) (g : Nat) (d : List Ed) (ex : List Value) (i j : Nat) (x y : Ed) (S1 S2 : World) : Prop where
  l1 : LdRuns Try.prog W 37 (.pointer (some ⟨g, i * 3, none⟩))
  l2 : ldVal Try.prog W 37 (.pointer (some ⟨g, i * 3, none⟩)) = aggE x
  l3 : LdRuns Try.prog W 37 (.pointer (some ⟨g, j * 3, none⟩))
  l4 : ldVal Try.prog W 37 (.pointer (some ⟨g, j * 3, none⟩)) = aggE y
  s1 : StRuns Try.prog W 37 (.pointer (some ⟨g, i * 3, none⟩)) (aggE y)
  s2 : stWld Try.prog W 37 (.pointer (some ⟨g, i * 3, none⟩)) (aggE y) = S1
  s3 : StRuns Try.prog S1 37 (.pointer (some ⟨g, j * 3, none⟩)) (aggE x)
  s4 : stWld Try.prog S1 37 (.pointer (some ⟨g, j * 3, none⟩)) (aggE x) = S2
  ro : RoE S2 g (swL d i j) ex
  on : Onl (fun k => k = g) W S2
theorem RoE.swap (h : RoE w g d ex) {i j : Nat} (hi : i < d.length) (hj : j < d.length) : ∃ x y S1 S2, SwE w g d ex i j x y S1 S2 := by
  have e1 : d[i]? = some d[i] := List.getElem?_eq_getElem hi
  have e2 : d[j]? = some d[j] := List.getElem?_eq_getElem hj
  obtain ⟨S1, a1, r1, o1⟩ := h.store hi d[j]
  obtain ⟨S2, a2, r2, o2⟩ := r1.store (i := j) (by simpa using hj) d[i]
  obtain ⟨b1, b2⟩ := ld_runs (h.load e1)
  obtain ⟨b3, b4⟩ := ld_runs (h.load e2)
  obtain ⟨c1, c2⟩ := st_runs a1
  obtain ⟨c3, c4⟩ := st_runs a2
  refine ⟨d[i], d[j], S1, S2, b1, b2, b3, b4, c1, c2, c3, c4, ?_, o1.trans o2⟩
  have : swL d i j = (d.set i d[j]).set j d[i] := by unfold swL; rw [e1, e2]
  rw [this]
  exact r2
end
/-- the same at the operation, for edits -/
theorem ldE_exec {P : Program} {w : World} {ρ : Operand → Value} {dst : Option Tmp} {x : Operand} {ty : TypeId} {pos : String} {after : Array Edge} {guard : Option (Nat × Bool)} (h : LdRuns P w 37 (ρ x)) :
    (execOp ρ { dst, op := .load 37 x, type := ty, pos, after, guard }).run P w = .ok (.value (ldVal P w 37 (ρ x))) w := ld_exec h
theorem stE_exec {P : Program} {w : World} {ρ : Operand → Value} {dst : Option Tmp} {x y : Operand} {ty : TypeId} {pos : String} {after : Array Edge} {guard : Option (Nat × Bool)} (h : StRuns P w 37 (ρ x) (ρ y)) :
    (execOp ρ { dst, op := .store 37 x y, type := ty, pos, after, guard }).run P w = .ok .skip (stWld P w 37 (ρ x) (ρ y)) := st_exec h
attribute [local go_sem ↓] ldE_exec stE_exec
/-- what a function that sorts within a row leaves -/
def SoP (w : World) (g : Nat) (ex : List Value) (R : List Ed → Prop) (e : Ending) (w' : World) : Prop := e = .returned (.tuple #[]) ∧ ∃ d', RoE w' g d' ex ∧ R d' ∧ Onl (fun j => j = g) w w'
/-- n places from a on change what they hold with those from b on -/
def swR (d : List Ed) (a b : Nat) : Nat → List Ed
  | 0 => d
  | n + 1 => swL (swR d a b n) (a + n) (b + n)
theorem swR_len (d : List Ed) (a b : Nat) : ∀ n, (swR d a b n).length = d.length
  | 0 => rfl
  | n + 1 => by unfold swR; rw [swL_len, swR_len d a b n]
set_option maxRecDepth 100000 in
set_option maxHeartbeats 4000000 in
theorem swr_any (w : World) (g cap : Nat) (d : List Ed) (ex : List Value) (F : Value) (h : RoE w g d ex) (hl : d.length ≤ 1000000) (a b n : Nat) (ha : a + n ≤ d.length) (hb : b + n ≤ d.length) :
    Calls Try.prog 37 #[.slice (some ⟨g, 0, none⟩) d.length cap, .int .i64 a, .int .i64 b, .int .i64 n, F] w (SoP w g ex (fun d' => d' = swR d a b n)) := by
  have HR := hide h
  obtain ⟨ln, hln⟩ : ∃ ln, ln = d.length := ⟨_, rfl⟩
  have HLN := hide hln
  rw [← hln] at ha hb hl ⊢
  clear h hln
  go_enter Try.func37, Try.ntmps37
  go_wp2
  go_loopw [10] (fun v wr => ∃ i : Nat, i ≤ n ∧ v = .int .i64 i ∧ Hid (RoE wr g (swR d a b i) ex) ∧ Hid (Onl (fun j => j = g) w wr)) (fun v _ => n - (intOf v).toNat)
  case atStart => exact ⟨0, Nat.zero_le _, rfl, HR, hide (Onl.refl _ _)⟩
  case round =>
    obtain ⟨i, hi, rfl, HRo, HO⟩ := hrel
    by_cases hin : i < n
    · obtain ⟨x, y, S1, S2, sw⟩ := (HRo.out.drew).swap (i := a + i) (j := b + i) (by rw [swR_len]; have := HLN.out; omega) (by rw [swR_len]; have := HLN.out; omega)
      obtain ⟨l1, l2, l3, l4, s1, s2, s3, s4, ro, on⟩ := sw
      have HF : Hid (RoE S2 g (swR d a b (i + 1)) ex) := hide ro
      have HO2 : Hid (Onl (fun j => j = g) w S2) := hide ((HO.out.drew).trans on)
      unfold aggE at l2 l4 s1 s2 s3 s4
      obtain ⟨ai, hai⟩ : ∃ ai, ai = a + i := ⟨_, rfl⟩
      obtain ⟨bi, hbi⟩ : ∃ bi, bi = b + i := ⟨_, rfl⟩
      rw [← hai] at l1 l2 s1 s2
      rw [← hbi] at l3 l4 s3 s4
      have w1 : IntKind.i64.wrap ((a : Int) + (i : Int)) = (ai : Int) := by rw [IntKind.wrap_i64]; omega
      have w2 : IntKind.i64.wrap ((b : Int) + (i : Int)) = (bi : Int) := by rw [IntKind.wrap_i64]; omega
      have w3 : (a : Int) + (i : Int) = (ai : Int) := by omega
      have w4 : (b : Int) + (i : Int) = (bi : Int) := by omega
      have h1 : ai < ln := by omega
      have h2 : bi < ln := by omega
      clear ro on HR HRo HO hai hbi
      go_wp2
      go_region
      go_wp2
      go_roundw
      case rel => exact ⟨i + 1, by omega, by simp, HF, HO2⟩
      case measure => simp [intOf]; omega
    · obtain rfl : i = n := by omega
      go_wp2
      go_end0
      exact ⟨rfl, _, HRo.out, rfl, HO.out⟩
end Go.Proofs.Ytbegiiihkmloiaa
