/- What the program's super.Put does, over the translation. -/
import Derived.Test.YtdpbkmbegjcgjaaCFo
import Derived.Test.YtdpbkmbegjcgjaaClo
import Derived.Laws.EntriesVeiled
namespace Go.Proofs.Ytdpbkmbegjcgjaa
open Go.RowKit Apo

theorem be8 (n : Nat) : be 8 n = be 4 (n / 4294967296) ++ be 4 n := by
  simp [be, Nat.div_div_eq_div_mul]

theorem four_z {w : World} {p : Nat} (l : List Int) (n : Nat) (z : Int) (hz : z = n) (hl : l.length + 4 ≤ 32) (h : Ob w p 59 (wcells l)) :
    Calls Try.prog 41 #[.pointer (some ⟨p, 0, none⟩), .int .u64 z] w fun e w' => e = .returned (.tuple #[]) ∧ Ob w' p 59 (wcells (l ++ be 4 n)) ∧ w.grownBy w' (some p) := by
  subst hz
  exact four_any l n hl h

set_option maxRecDepth 100000 in
set_option maxHeartbeats 1000000 in
theorem eight_any {w : World} {p : Nat} (l : List Int) (n : Nat) (hl : l.length + 8 ≤ 32) (h : Ob w p 59 (wcells l)) :
    Calls Try.prog 40 #[.pointer (some ⟨p, 0, none⟩), .int .u64 n] w fun e w' => e = .returned (.tuple #[]) ∧ Ob w' p 59 (wcells (l ++ be 8 n)) ∧ w.grownBy w' (some p) := by
  have HO := hide h
  have HD : Hid ((n : Int) / 4294967296 = ((n / 4294967296 : Nat) : Int)) := by
    show _ = _
    simp
  clear h
  go_enter Try.func40, Try.ntmps40
  go_wp2_with fail
  refine (four_z l (n / 4294967296) _ HD.out (by omega) HO.out).mono ?_
  rintro e w1 ⟨rfl, h1, g1⟩
  have H1 := hide h1
  have G1 := hide g1
  clear h1 g1
  go_wp2_with fail
  refine (four_z (l ++ be 4 (n / 4294967296)) n _ rfl (by rw [List.length_append, be_len]; omega) H1.out).mono ?_
  rintro e w2 ⟨rfl, h2, g2⟩
  have H2 := hide h2
  have G2 := hide (grew_trans G1.out g2)
  clear h2 g2
  go_wp2
  go_end0
  refine ⟨rfl, ?_, G2.out⟩
  rw [be8, ← List.append_assoc]
  exact H2.out

def fnV (k : Nat) : Value := .func (.func k) #[] #[]
def pcells (s : Sup) : List Value := [fnV 40, .int .u64 s.e, fnV 41, .int .u64 s.st, fnV 41, .int .u64 s.pg, fnV 41, .int .u64 s.sz, fnV 41, .int .u64 1634758503, fnV 40, .int .u64 s.e]

set_option maxRecDepth 100000 in
set_option maxHeartbeats 1000000 in
theorem parts_any (s : Sup) (hs : s.Ok) (w : World) :
    Calls Try.prog 25 #[s.val] w fun e w' => e = .returned (.slice (some ⟨w.heap.size + 1, 0, none⟩) 6 6) ∧ Ob w' (w.heap.size + 1) 64 (pcells s) ∧ Below w.heap.size w w' ∧ w'.heap.size = w.heap.size + 2 := by
  have h1 := hs.st
  have h2 := hs.pg
  have h3 := hs.sz
  have wS : IntKind.u64.wrap (s.st : Int) = s.st := by simp [IntKind.wrap, IntKind.bits, IntKind.signed]; omega
  have wP : IntKind.u64.wrap (s.pg : Int) = s.pg := by simp [IntKind.wrap, IntKind.bits, IntKind.signed]; omega
  have wZ : IntKind.u64.wrap (s.sz : Int) = s.sz := by simp [IntKind.wrap, IntKind.bits, IntKind.signed]; omega
  unfold Sup.val Sup.cells
  go_enter Try.func25, Try.ntmps25
  go_wp2
  go_ret
  refine ⟨rfl, ?_, ((Below.refl _ w).alloc (Nat.le_refl _) _).alloc (by simp) _, by simp⟩
  have := Ob.new (w.alloc (.cells #[.int .u64 s.e, .int .u32 s.st, .int .u32 s.pg, .int .u32 s.sz] 25)) (pcells s) 64
  rw [World.size_alloc] at this
  exact this

theorem superB_step (s : Sup) (i k n : Nat) (h : ((superB s).drop i).take k = be k n) : (superB s).take i ++ be k n = (superB s).take (i + k) := by
  rw [List.take_add, h]
theorem rd_wcells {w : World} {p : Nat} {l : List Int} (h : Ob w p 59 (wcells l)) : Rd .u8 w (some ⟨p, 0, none⟩) l := by
  intro i hi
  refine ⟨p, 0, rfl, ?_⟩
  rw [Nat.zero_add, h.cell i]
  unfold wcells
  rw [List.append_assoc, List.getElem?_append_left (by simpa using hi)]
  simp [List.getD, hi]
theorem own_base {w : World} {B B' e len : Nat} {v : Value} {vs : List Value} (h : w.ownsRow B e 1 v len vs) (hb : B' ≤ B) : w.ownsRow B' e 1 v len vs := by
  refine ⟨h.1, ?_⟩
  rcases h.2 with h2 | ⟨g, c, cur, h1, h2, h3⟩
  · exact Or.inl h2
  · exact Or.inr ⟨g, c, cur, h1, Nat.le_trans hb h2, h3⟩

set_option maxRecDepth 100000 in
set_option maxHeartbeats 4000000 in
theorem put_any (s : Sup) (hs : s.Ok) (w : World) :
    Calls Try.prog 10 #[s.val] w fun e w' => ∃ v, e = .returned v ∧ w'.ownsRow w.heap.size 5 1 v 32 ((superB s).map (Value.int .u8)) ∧ Below w.heap.size w w' := by
  have k1 : Ob ((w.alloc (.cells #[.int .u64 s.e, .int .u32 s.st, .int .u32 s.pg, .int .u32 s.sz] 25)).alloc (.cells (wcells []).toArray 59)) (w.heap.size + 1) 59 (wcells []) := by
    have := Ob.new (w.alloc (.cells #[.int .u64 s.e, .int .u32 s.st, .int .u32 s.pg, .int .u32 s.sz] 25)) (wcells []) 59
    rw [World.size_alloc] at this
    exact this
  have z1 : ((w.alloc (.cells #[.int .u64 s.e, .int .u32 s.st, .int .u32 s.pg, .int .u32 s.sz] 25)).alloc (.cells (wcells []).toArray 59)).heap.size = w.heap.size + 2 := by simp
  have b1 : Below w.heap.size w ((w.alloc (.cells #[.int .u64 s.e, .int .u32 s.st, .int .u32 s.pg, .int .u32 s.sz] 25)).alloc (.cells (wcells []).toArray 59)) := ((Below.refl _ w).alloc (Nat.le_refl _) _).alloc (by simp) _
  have hc := parts_any s hs ((w.alloc (.cells #[.int .u64 s.e, .int .u32 s.st, .int .u32 s.pg, .int .u32 s.sz] 25)).alloc (.cells (wcells []).toArray 59))
  unfold Sup.val Sup.cells at hc ⊢
  rw [z1] at hc
  have K1 := hide k1
  have B1 := hide b1
  have HC := hide hc
  clear k1 b1 hc
  go_enter Try.func10, Try.ntmps10
  go_wp2_with fail
  refine HC.out.mono ?_
  rintro e w2 ⟨rfl, hp, hb, hz⟩
  have K2 := hide (K1.out.below hb (by omega))
  have P2 := hide hp
  have B2 := hide (B1.out.trans (hb.mono (by omega)))
  clear hp hb z1
  go_wp2
  go_loopw [11] (fun i wr => ∃ k : Nat, k ≤ 6 ∧ i = .int .i64 k ∧ Hid (Ob wr (w.heap.size + 1) 59 (wcells ((superB s).take ([0, 8, 12, 16, 20, 24, 32].getD k 0)))) ∧ Hid (Ob wr (w.heap.size + 2 + 1) 64 (pcells s)) ∧ Hid (Below w.heap.size w wr)) (fun i _ => (6 - intOf i).toNat)
  case atStart => exact ⟨0, by omega, rfl, K2, P2, B2⟩
  case round =>
    obtain ⟨k, hk, rfl, hM, hP, hB⟩ := hrel
    by_cases hlt : k < 6
    · have k6 : k = 0 ∨ k = 1 ∨ k = 2 ∨ k = 3 ∨ k = 4 ∨ k = 5 := by omega
      rcases k6 with rfl | rfl | rfl | rfl | rfl | rfl
      · have c0 := hP.out.cell 0
        have c1 := hP.out.cell 1
        unfold pcells fnV at c0 c1
        simp only [List.getElem?_cons_zero, List.getElem?_cons_succ] at c0 c1
        have HM : Hid (Ob (wr.alloc (.cells #[.func (.func 40) #[] #[], .int .u64 s.e] 64)) (w.heap.size + 1) 59 (wcells ((superB s).take 0))) := hM.out.alloc _
        have HE : Hid ((superB s).take 0 ++ be 8 s.e = (superB s).take 8) := superB_step s 0 8 _ (by first | rfl | decide)
        go_wp2_with fail
        refine (eight_any _ s.e (by simp) HM.out).mono ?_
        rintro e w3 ⟨rfl, m3, g3⟩
        rw [HE.out] at m3
        have M3 := hide m3
        have P3 := hide ((hP.out.alloc (.cells #[.func (.func 40) #[] #[], .int .u64 s.e] 64)).kept g3 (by intro e; injection e; omega))
        have B3 := hide (below_grew (hB.out.alloc hB.out.size (.cells #[.func (.func 40) #[] #[], .int .u64 s.e] 64)) g3 (by have := hB.out.size; simp; omega) (by omega))
        clear m3 g3
        go_wp2
        go_roundw
        case rel => exact ⟨1, by omega, by simp, M3, P3, B3⟩
        case measure => simp [intOf]
      · have c0 := hP.out.cell 2
        have c1 := hP.out.cell 3
        unfold pcells fnV at c0 c1
        simp only [List.getElem?_cons_zero, List.getElem?_cons_succ] at c0 c1
        have HM : Hid (Ob (wr.alloc (.cells #[.func (.func 41) #[] #[], .int .u64 s.st] 64)) (w.heap.size + 1) 59 (wcells ((superB s).take 8))) := hM.out.alloc _
        have HE : Hid ((superB s).take 8 ++ be 4 s.st = (superB s).take 12) := superB_step s 8 4 _ (by first | rfl | decide)
        go_wp2_with fail
        refine (four_z _ s.st _ rfl (by simp [superB_len]) HM.out).mono ?_
        rintro e w3 ⟨rfl, m3, g3⟩
        rw [HE.out] at m3
        have M3 := hide m3
        have P3 := hide ((hP.out.alloc (.cells #[.func (.func 41) #[] #[], .int .u64 s.st] 64)).kept g3 (by intro e; injection e; omega))
        have B3 := hide (below_grew (hB.out.alloc hB.out.size (.cells #[.func (.func 41) #[] #[], .int .u64 s.st] 64)) g3 (by have := hB.out.size; simp; omega) (by omega))
        clear m3 g3
        go_wp2
        go_roundw
        case rel => exact ⟨2, by omega, by simp, M3, P3, B3⟩
        case measure => simp [intOf]
      · have c0 := hP.out.cell 4
        have c1 := hP.out.cell 5
        unfold pcells fnV at c0 c1
        simp only [List.getElem?_cons_zero, List.getElem?_cons_succ] at c0 c1
        have HM : Hid (Ob (wr.alloc (.cells #[.func (.func 41) #[] #[], .int .u64 s.pg] 64)) (w.heap.size + 1) 59 (wcells ((superB s).take 12))) := hM.out.alloc _
        have HE : Hid ((superB s).take 12 ++ be 4 s.pg = (superB s).take 16) := superB_step s 12 4 _ (by first | rfl | decide)
        go_wp2_with fail
        refine (four_z _ s.pg _ rfl (by simp [superB_len]) HM.out).mono ?_
        rintro e w3 ⟨rfl, m3, g3⟩
        rw [HE.out] at m3
        have M3 := hide m3
        have P3 := hide ((hP.out.alloc (.cells #[.func (.func 41) #[] #[], .int .u64 s.pg] 64)).kept g3 (by intro e; injection e; omega))
        have B3 := hide (below_grew (hB.out.alloc hB.out.size (.cells #[.func (.func 41) #[] #[], .int .u64 s.pg] 64)) g3 (by have := hB.out.size; simp; omega) (by omega))
        clear m3 g3
        go_wp2
        go_roundw
        case rel => exact ⟨3, by omega, by simp, M3, P3, B3⟩
        case measure => simp [intOf]
      · have c0 := hP.out.cell 6
        have c1 := hP.out.cell 7
        unfold pcells fnV at c0 c1
        simp only [List.getElem?_cons_zero, List.getElem?_cons_succ] at c0 c1
        have HM : Hid (Ob (wr.alloc (.cells #[.func (.func 41) #[] #[], .int .u64 s.sz] 64)) (w.heap.size + 1) 59 (wcells ((superB s).take 16))) := hM.out.alloc _
        have HE : Hid ((superB s).take 16 ++ be 4 s.sz = (superB s).take 20) := superB_step s 16 4 _ (by first | rfl | decide)
        go_wp2_with fail
        refine (four_z _ s.sz _ rfl (by simp [superB_len]) HM.out).mono ?_
        rintro e w3 ⟨rfl, m3, g3⟩
        rw [HE.out] at m3
        have M3 := hide m3
        have P3 := hide ((hP.out.alloc (.cells #[.func (.func 41) #[] #[], .int .u64 s.sz] 64)).kept g3 (by intro e; injection e; omega))
        have B3 := hide (below_grew (hB.out.alloc hB.out.size (.cells #[.func (.func 41) #[] #[], .int .u64 s.sz] 64)) g3 (by have := hB.out.size; simp; omega) (by omega))
        clear m3 g3
        go_wp2
        go_roundw
        case rel => exact ⟨4, by omega, by simp, M3, P3, B3⟩
        case measure => simp [intOf]
      · have c0 := hP.out.cell 8
        have c1 := hP.out.cell 9
        unfold pcells fnV at c0 c1
        simp only [List.getElem?_cons_zero, List.getElem?_cons_succ] at c0 c1
        have HM : Hid (Ob (wr.alloc (.cells #[.func (.func 41) #[] #[], .int .u64 1634758503] 64)) (w.heap.size + 1) 59 (wcells ((superB s).take 20))) := hM.out.alloc _
        have HE : Hid ((superB s).take 20 ++ be 4 1634758503 = (superB s).take 24) := superB_step s 20 4 _ (by first | rfl | decide)
        go_wp2_with fail
        refine (four_z _ 1634758503 _ rfl (by simp [superB_len]) HM.out).mono ?_
        rintro e w3 ⟨rfl, m3, g3⟩
        rw [HE.out] at m3
        have M3 := hide m3
        have P3 := hide ((hP.out.alloc (.cells #[.func (.func 41) #[] #[], .int .u64 1634758503] 64)).kept g3 (by intro e; injection e; omega))
        have B3 := hide (below_grew (hB.out.alloc hB.out.size (.cells #[.func (.func 41) #[] #[], .int .u64 1634758503] 64)) g3 (by have := hB.out.size; simp; omega) (by omega))
        clear m3 g3
        go_wp2
        go_roundw
        case rel => exact ⟨5, by omega, by simp, M3, P3, B3⟩
        case measure => simp [intOf]
      · have c0 := hP.out.cell 10
        have c1 := hP.out.cell 11
        unfold pcells fnV at c0 c1
        simp only [List.getElem?_cons_zero, List.getElem?_cons_succ] at c0 c1
        have HM : Hid (Ob (wr.alloc (.cells #[.func (.func 40) #[] #[], .int .u64 s.e] 64)) (w.heap.size + 1) 59 (wcells ((superB s).take 24))) := hM.out.alloc _
        have HE : Hid ((superB s).take 24 ++ be 8 s.e = (superB s).take 32) := superB_step s 24 8 _ (by first | rfl | decide)
        go_wp2_with fail
        refine (eight_any _ s.e (by simp [superB_len]) HM.out).mono ?_
        rintro e w3 ⟨rfl, m3, g3⟩
        rw [HE.out] at m3
        have M3 := hide m3
        have P3 := hide ((hP.out.alloc (.cells #[.func (.func 40) #[] #[], .int .u64 s.e] 64)).kept g3 (by intro e; injection e; omega))
        have B3 := hide (below_grew (hB.out.alloc hB.out.size (.cells #[.func (.func 40) #[] #[], .int .u64 s.e] 64)) g3 (by have := hB.out.size; simp; omega) (by omega))
        clear m3 g3
        go_wp2
        go_roundw
        case rel => exact ⟨6, by omega, by simp, M3, P3, B3⟩
        case measure => simp [intOf]
    · have ek : k = 6 := by omega
      subst ek
      have hT : (superB s).take ([0, 8, 12, 16, 20, 24, 32].getD 6 0) = superB s := List.take_of_length_le (by rw [superB_len]; decide)
      rw [hT] at hM
      have HC2 := hide (clone_any (some ⟨w.heap.size + 1, 0, none⟩) 32 (superB s) wr (rd_wcells hM.out) (fun h => by cases h) (by rw [superB_len]; decide))
      rw [superB_len] at HC2
      go_wp2_with fail
      refine HC2.out.mono ?_
      rintro e w3 ⟨v3, rfl, r3, b3⟩
      obtain ⟨a3, c3, hv3⟩ := own_len r3
      subst hv3
      have R3 := hide r3
      have B3 := hide (hB.out.trans (b3.mono hB.out.size))
      clear r3 b3
      go_wp2
      go_ret
      exact ⟨_, rfl, own_base R3.out hB.out.size, B3.out⟩
end Go.Proofs.Ytdpbkmbegjcgjaa
