/- What the document's numbers and supers do, over the translation. -/
import Derived.Test.YtdpbkmbegjcgjaaSupM
import Derived.Test.YtdpbkmbegjcgjaaRFl
import Derived.Maps.AppendAt
import Derived.Lib.AppendStr
import Derived.Deep.RegionHeld3
namespace Go.Proofs.Ytdpbkmbegjcgjaa
open Go.RowKit Apo
attribute [local go_sem ↓] Apo.app_exec

set_option maxHeartbeats 1000000 in
theorem rnumber_any {w : World} (a : Option Addr) (cap : Nat) (l : List Int) (hr : Rd .u8 w a l) (hb : ∀ z ∈ l, 0 ≤ z ∧ z ≤ 255) (hl : l.length ≤ 8) :
    Calls Try.prog 24 #[.slice a l.length cap] w fun e w' => e = .returned (.int .u64 (numN l)) ∧ w = w' := by
  have HR := hide hr
  have HB := hide hb
  clear hr hb
  go_enter Try.func24, Try.ntmps24
  go_wp2
  go_loop [3, 8] (fun s i => ∃ k : Nat, k ≤ l.length ∧ i = .int .i64 k ∧ s = .int .u64 (numN (l.take k))) (fun _ i => l.length - (intOf i).toNat)
  case atStart => exact ⟨0, Nat.zero_le _, rfl, by simp [numN]⟩
  case round =>
    obtain ⟨k, hk, rfl, rfl⟩ := hrel
    by_cases hlt : k < l.length
    · obtain ⟨b, off, rfl, hc⟩ := HR.out k hlt
      have hz : l[k]? = some l[k] := List.getElem?_eq_getElem hlt
      have hbz := HB.out _ (List.getElem_mem hlt)
      have hgd : l.getD k 0 = l[k] := by simp [List.getD, hlt]
      rw [hgd] at hc
      have hsn := num_snoc hz
      generalize l[k] = x at hz hbz hc hsn
      have hn1 : numN (l.take (k + 1)) < 256 ^ 8 := by
        have := num_lt (l := l.take (k + 1)) (fun z hz => HB.out z (List.mem_of_mem_take hz))
        exact Nat.lt_of_lt_of_le this (Nat.pow_le_pow_right (by decide) (by simp; omega))
      have e8 : (256 : Nat) ^ 8 = 18446744073709551616 := by decide
      rw [e8] at hn1
      rw [hsn] at hn1
      have HZ := hide hz
      have HS := hide hsn
      clear hz hsn hgd e8
      go_wp2
      go_round
      case rel => exact ⟨k + 1, hlt, by simp, by rw [HS.out]; congr 1; omega⟩
      case measure => simp [intOf]; omega
    · go_wp2
      go_ret
      have ek : l.take k = l := List.take_of_length_le (by omega)
      rw [ek]
      exact ⟨rfl, rfl⟩

theorem be_at : ∀ {k j : Nat} (n : Nat), j < k → (be k n)[j]? = some ((n / 256 ^ (k - 1 - j) % 256 : Nat) : Int)
  | 0, _, _, h => by omega
  | k + 1, 0, n, _ => by simp [be]
  | k + 1, j + 1, n, h => by
    simp only [be, List.getElem?_cons_succ]
    rw [be_at n (by omega), show k + 1 - 1 - (j + 1) = k - 1 - j by omega]

set_option maxRecDepth 100000 in
set_option maxHeartbeats 1000000 in
theorem rbig_any {B : Nat} {w : World} (v : Value) (xs : List Int) (h : w.ownsRow B 5 1 v xs.length (xs.map (Value.int .u8))) (hB : B ≤ w.heap.size) (n k : Nat) (hk : k ≤ 8) (hx : xs.length ≤ 1000) :
    Calls Try.prog 27 #[v, .int .u64 n, .int .i64 k] w fun e w' => ∃ v', e = .returned v' ∧ w'.ownsRow B 5 1 v' (xs ++ be k n).length ((xs ++ be k n).map (Value.int .u8)) ∧ Below B w w' ∧ B ≤ w'.heap.size := by
  obtain ⟨i0, hi, hz0, hz1, hz2⟩ := info_parts info_u8
  have HO := hide h
  clear h
  go_enter Try.func27, Try.ntmps27
  go_wp2
  go_loopw [0, 7] (fun b i wr => ∃ j : Nat, j ≤ k ∧ i = .int .i64 ((k : Int) - 1 - j) ∧ Hid (wr.ownsRow B 5 1 b (xs ++ (be k n).take j).length ((xs ++ (be k n).take j).map (Value.int .u8))) ∧ Hid (Below B w wr)) (fun _ i _ => (intOf i + 1).toNat)
  case atStart => exact ⟨0, Nat.zero_le _, by simp, by show World.ownsRow _ _ _ _ _ _ _; simpa using HO.out, Below.refl _ _⟩
  case round =>
    obtain ⟨j, hj, rfl, hO, hBw⟩ := hrel
    by_cases hlt : j < k
    · have e1 : (k : Int) - 1 - (j : Int) = ((k - 1 - j : Nat) : Int) := by omega
      have hat := be_at n hlt
      have htk : (be k n).take (j + 1) = (be k n).take j ++ [((n / 256 ^ (k - 1 - j) % 256 : Nat) : Int)] := take_snoc hat
      rw [e1]
      generalize hm : k - 1 - j = m at *
      have hm8 : m < 8 := by omega
      have HM := hide hm
      have HT := hide htk
      clear hat htk hm e1
      have hv : ((n : Int) / 2 ^ (8 * m) % 256) = ((n / 256 ^ m % 256 : Nat) : Int) := by
        have h8 : m = 0 ∨ m = 1 ∨ m = 2 ∨ m = 3 ∨ m = 4 ∨ m = 5 ∨ m = 6 ∨ m = 7 := by omega
        clear HM HT
        rcases h8 with rfl | rfl | rfl | rfl | rfl | rfl | rfl | rfl <;> simp
      have hlen : (xs ++ (be k n).take j).length ≤ 1008 := by simp [be_len]; omega
      obtain ⟨a1, c1, hb1⟩ : ∃ a c, u0 = .slice a (xs ++ (be k n).take j).length c := own_len hO.out
      subst hb1
      obtain ⟨v', w1, R, r1, g1, _, _⟩ := run_append_own_at (P := Try.prog) (wr.alloc (.cells #[.int .u8 ((n : Int) / 2 ^ (8 * m) % 256)] 5)) B 26 26 5 i0 (.int .u8 0) 1 1 Try.underlying26 hi hz0 hz1 hz2 rfl (by decide) (.slice a1 (xs ++ (be k n).take j).length c1) _ _ (hO.out.alloc _) ⟨wr.heap.size, 0, none⟩ 1 1 [.int .u8 ((n : Int) / 2 ^ (8 * m) % 256)] rfl (cell_one_new _ _ _) (by simp [Value.oneCell']) (by unfold maxLen; omega) (by omega) (by have := hBw.out.size; simp; omega)
      obtain ⟨g2, c2, hv'⟩ := own_len r1
      subst hv'
      obtain ⟨x1, x2, x3⟩ := app_runs R
      have B1 : Below B w w1 := (hBw.out.alloc (Nat.le_trans hB hBw.out.size) _).grown g1 (by have := hBw.out.size; simp; omega) (fun q hq => (hO.out.lt q hq).1)
      have HR := hide r1
      have HB1 := hide B1
      have HV := hide hv
      clear R r1 g1 B1 hv hO
      generalize hL : (xs ++ (be k n).take j).length = L at *
      have HL := hide hL
      clear hL
      go_wp2
      go_roundw
      case rel =>
        refine ⟨j + 1, hlt, by have := HM.out; simp; omega, ?_, HB1⟩
        have := HR.out
        rw [HV.out, ← HL.out] at this
        show World.ownsRow _ _ _ _ _ _ _
        rw [HT.out, ← List.append_assoc, List.length_append, List.map_append, ← HL.out]
        exact this
      case measure => simp [intOf]
    · have ej : (be k n).take j = be k n := List.take_of_length_le (by rw [be_len]; omega)
      have hkj : j = k := by omega
      subst hkj
      have h1 := hO.out
      rw [ej] at h1
      have HR := hide h1
      obtain ⟨a1, c1, hb1⟩ := own_len h1
      subst hb1
      clear h1 hO
      generalize hL : (xs ++ be j n).length = L at *
      have HL := hide hL
      clear hL
      go_wp2
      go_ret
      exact ⟨_, rfl, by rw [HL.out]; exact HR.out, hBw.out, Nat.le_trans hB hBw.out.size⟩

/-- the same, the lengths as numbers of their own -/
theorem rbig_num {B : Nat} {w : World} (a : Option Addr) (c m : Nat) (xs : List Int) (hm : xs.length = m) (h : w.ownsRow B 5 1 (.slice a m c) m (xs.map (Value.int .u8))) (hB : B ≤ w.heap.size) (n k m' : Nat) (hk : k ≤ 8) (hx : m ≤ 1000) (hm' : m + k = m') :
    Calls Try.prog 27 #[.slice a m c, .int .u64 n, .int .i64 k] w fun e w' => ∃ a' c', e = .returned (.slice a' m' c') ∧ w'.ownsRow B 5 1 (.slice a' m' c') m' ((xs ++ be k n).map (Value.int .u8)) ∧ Below B w w' ∧ B ≤ w'.heap.size := by
  subst hm
  refine (rbig_any _ xs h hB n k hk hx).mono ?_
  rintro e w' ⟨v', rfl, r, b, hb⟩
  have hl : (xs ++ be k n).length = m' := by rw [List.length_append, be_len]; exact hm'
  rw [hl] at r
  obtain ⟨a', c', rfl⟩ := own_len r
  exact ⟨a', c', rfl, r, b, hb⟩

theorem apog_cells : Lib.strCells ⟨#[97, 112, 111, 103]⟩ = apog.map (Value.int .u8) := by rfl

set_option maxHeartbeats 4000000 in
theorem rsuper_any (s : Sup) (hs : s.Ok) (w : World) :
    Calls Try.prog 11 #[s.val] w fun e w' => ∃ v, e = .returned v ∧ w'.ownsRow w.heap.size 5 1 v 32 ((superB s).map (Value.int .u8)) ∧ Below w.heap.size w w' := by
  obtain ⟨i0, hi, hz0, hz1, hz2⟩ := info_parts info_u8
  have h1 := hs.st
  have h2 := hs.pg
  have h3 := hs.sz
  have wS : IntKind.u64.wrap (s.st : Int) = s.st := by simp [IntKind.wrap, IntKind.bits, IntKind.signed]; omega
  have wP : IntKind.u64.wrap (s.pg : Int) = s.pg := by simp [IntKind.wrap, IntKind.bits, IntKind.signed]; omega
  have wZ : IntKind.u64.wrap (s.sz : Int) = s.sz := by simp [IntKind.wrap, IntKind.bits, IntKind.signed]; omega
  have k0 : Ob (w.alloc (.cells s.cells.toArray 25)) w.heap.size 25 s.cells := Ob.new w s.cells 25
  have z0 : (w.alloc (.cells s.cells.toArray 25)).heap.size = w.heap.size + 1 := by simp
  have B0 : Below w.heap.size w (w.alloc (.cells s.cells.toArray 25)) := (Below.refl _ w).alloc (Nat.le_refl _) _
  unfold Sup.cells at k0 z0 B0
  unfold Sup.val Sup.cells
  generalize hW0 : w.alloc (.cells [.int .u64 s.e, .int .u32 s.st, .int .u32 s.pg, .int .u32 s.sz].toArray 25) = W0 at k0 z0 B0
  have c0 := k0.cell 0
  have c1 := k0.cell 1
  have c2 := k0.cell 2
  have c3 := k0.cell 3
  simp only [List.getElem?_cons_zero, List.getElem?_cons_succ] at c0 c1 c2 c3
  have HK0 := hide k0
  have HB0 := hide B0
  clear k0 B0
  go_enter Try.func11, Try.ntmps11
  go_wp2_with fail
  refine (rbig_num (B := w.heap.size + 1) none 0 0 [] rfl (World.ownsRow_nil _ _ _ _) (by omega) s.e 8 8 (by omega) (by omega) rfl).mono ?_
  rintro e w1 ⟨a1, p1, rfl, r1, b1, hB1⟩
  have k1 := HK0.out.below b1 (Nat.lt_succ_self _)
  have d1 := k1.cell 1
  have d2 := k1.cell 2
  have d3 := k1.cell 3
  simp only [List.getElem?_cons_zero, List.getElem?_cons_succ] at d1 d2 d3
  have HR1 : Hid (w1.drew.ownsRow (w.heap.size + 1) 5 1 (.slice a1 8 p1) 8 ((be 8 s.e).map (Value.int .u8))) := r1
  have HB1 := hide b1
  have HK1 : Hid (Ob w1.drew w.heap.size 25 [.int .u64 s.e, .int .u32 s.st, .int .u32 s.pg, .int .u32 s.sz]) := k1
  clear r1 b1 k1
  go_wp2
  go_region_held3 (fun W' => W'.cell? ⟨w.heap.size, 1, none⟩ = some (.int .u32 s.st) ∧ W'.cell? ⟨w.heap.size, 2, none⟩ = some (.int .u32 s.pg) ∧ W'.cell? ⟨w.heap.size, 3, none⟩ = some (.int .u32 s.sz)) (go_keep) (first
    | (go_at_call 27; refine (rbig_num (B := w.heap.size + 1) a3 p3 16 (be 8 s.e ++ be 4 s.st ++ be 4 s.pg) (by simp [be_len]) HR3.out hB3 s.sz 4 20 (by omega) (by omega) rfl).mono ?_; rintro e w4 ⟨a4, p4, rfl, r4, b4, hB4⟩; have k4 := HK3.out.below b4 (Nat.lt_succ_self _); have y1 := k4.cell 1; have y2 := k4.cell 2; have y3 := k4.cell 3; simp only [List.getElem?_cons_zero, List.getElem?_cons_succ] at y1 y2 y3; have HR4 := hide r4; have HB4 := hide (HB3.out.trans b4); have HK4 := hide k4; clear r4 b4 k4)
    | (go_at_call 27; refine (rbig_num (B := w.heap.size + 1) a2 p2 12 (be 8 s.e ++ be 4 s.st) (by simp [be_len]) HR2.out hB2 s.pg 4 16 (by omega) (by omega) rfl).mono ?_; rintro e w3 ⟨a3, p3, rfl, r3, b3, hB3⟩; have k3 := HK2.out.below b3 (Nat.lt_succ_self _); have y1 := k3.cell 1; have y2 := k3.cell 2; have y3 := k3.cell 3; simp only [List.getElem?_cons_zero, List.getElem?_cons_succ] at y1 y2 y3; have HR3 := hide r3; have HB3 := hide (HB2.out.trans b3); have HK3 := hide k3; clear r3 b3 k3)
    | (go_at_call 27; refine (rbig_num (B := w.heap.size + 1) (w := w1.drew) a1 p1 8 (be 8 s.e) (be_len _ _) HR1.out hB1 s.st 4 12 (by omega) (by omega) rfl).mono ?_; rintro e w2 ⟨a2, p2, rfl, r2, b2, hB2⟩; have k2 := HK1.out.below b2 (Nat.lt_succ_self _); have y1 := k2.cell 1; have y2 := k2.cell 2; have y3 := k2.cell 3; simp only [List.getElem?_cons_zero, List.getElem?_cons_succ] at y1 y2 y3; have HR2 := hide r2; have HB2 := hide (HB1.out.drew.trans b2); have HK2 := hide k2; clear r2 b2 k2))
  obtain ⟨v5, w5, R5, r5, g5, _⟩ := Lib.run_append_own_string (P := Try.prog) w4.drew (w.heap.size + 1) 26 9 26 5 i0 Try.underlying26 Try.underlying9 hi hz0 hz1 hz2 (.slice a4 20 p4) 20 _ HR4.out ⟨#[97, 112, 111, 103]⟩ (by decide) (by decide) hB4
  rw [apog_cells, ← List.map_append] at r5
  have r5' : w5.ownsRow (w.heap.size + 1) 5 1 v5 24 ((be 8 s.e ++ be 4 s.st ++ be 4 s.pg ++ be 4 s.sz ++ apog).map (Value.int .u8)) := r5
  obtain ⟨a5, p5, hv5⟩ := own_len r5'
  subst hv5
  obtain ⟨x1, x2, x3⟩ := app_runs R5
  have b5 : Below (w.heap.size + 1) w4.drew w5 := (Below.refl _ _).grown g5 hB4 (fun q hq => (HR4.out.lt q hq).1)
  have k4d : Ob w4.drew w.heap.size 25 [.int .u64 s.e, .int .u32 s.st, .int .u32 s.pg, .int .u32 s.sz] := HK4.out
  have k5 := k4d.below b5 (Nat.lt_succ_self _)
  have u4 := k4d.cell 0
  have u5 := k5.cell 0
  simp only [List.getElem?_cons_zero] at u4 u5
  have hB5 : w.heap.size + 1 ≤ w5.heap.size := Nat.le_trans hB4 b5.size
  have HR5 := hide r5'
  have HB5 := hide (HB4.out.drew.trans b5)
  have HK5 := hide k5
  clear R5 r5 r5' g5 b5 k4d k5
  go_wp2
  go_region_held3 (fun W' => W'.cell? ⟨w.heap.size, 0, none⟩ = some (.int .u64 s.e)) (go_keep) (first
    | (go_at_call 27; refine (rbig_num (B := w.heap.size + 1) a5 p5 24 (be 8 s.e ++ be 4 s.st ++ be 4 s.pg ++ be 4 s.sz ++ apog) (by simp [be_len, apog]) HR5.out hB5 s.e 8 32 (by omega) (by omega) rfl).mono ?_; rintro e w6 ⟨a6, p6, rfl, r6, b6, hB6⟩; have k6 := HK5.out.below b6 (Nat.lt_succ_self _); have u6 := k6.cell 0; simp only [List.getElem?_cons_zero] at u6; have HR6 := hide r6; have HB6 := hide (HB5.out.trans b6); clear r6 b6 k6))
  go_wp2
  go_ret
  refine ⟨_, rfl, ?_, ?_⟩
  · have := HR6.out.mono (base' := w.heap.size) (Nat.le_succ _)
    simpa [superB] using this
  · exact HB0.out.trans (HB6.out.mono (Nat.le_succ _))
end Go.Proofs.Ytdpbkmbegjcgjaa
