/- Rows that are read, and whether two are alike, over the translation. -/
import Derived.Test.YtlomnpeelpmhiaaRSp
import Derived.Laws.StructEq
namespace Go.Proofs.Ytlomnpeelpmhiaa
open Go.RowKit Apo

/-- the slice's cells, from its address on, hold the rows R -/
def RdP (w : World) (a : Option Addr) (R : List (Nat × Nat)) : Prop :=
  ∀ i x, R[i]? = some x → ∃ b off, a = some ⟨b, off, none⟩ ∧ w.cell? ⟨b, off + i * 2, none⟩ = some (.int .i64 x.1) ∧ w.cell? ⟨b, off + i * 2 + 1, none⟩ = some (.int .i64 x.2)
theorem RdP.below {w w' : World} {a : Option Addr} {R : List (Nat × Nat)} (h : RdP w a R) (hb : Below w.heap.size w w') : RdP w' a R := by
  intro i x hi
  obtain ⟨b, off, ha, c0, c1⟩ := h i x hi
  have hlt := World.block_lt_of_cell? w _ c0
  exact ⟨b, off, ha, (hb.cell (by exact hlt)).trans c0, (hb.cell (by exact hlt)).trans c1⟩
theorem RdP.own {w : World} {base e : Nat} {a : Option Addr} {n cap : Nat} {R : List (Nat × Nat)} (h : w.ownsRow base e 2 (.slice a n cap) R.length (rcells R)) : RdP w a R ∧ n = R.length := by
  rcases h.2 with ⟨hv, hz⟩ | ⟨g, c, cur, hv, _⟩
  · cases hv
    have : R = [] := List.eq_nil_of_length_eq_zero hz
    subst this
    exact ⟨fun i x hi => by simp at hi, rfl⟩
  · cases hv
    refine ⟨fun i x hi => ⟨g, 0, rfl, ?_⟩, rfl⟩
    have hl := (List.getElem?_eq_some_iff.1 hi).1
    obtain ⟨h1, h2⟩ := rcells_at hi
    rw [Nat.zero_add, h.cellAt (i * 2) (by omega), h.cellAt (i * 2 + 1) (by omega)]
    exact ⟨h1, h2⟩
theorem neP (x y : Nat × Nat) (w : World) : (binOp .neq 29 (.agg #[.int .i64 x.1, .int .i64 x.2]) (.agg #[.int .i64 y.1, .int .i64 y.2])).run Try.prog w = .ok (.bool (!decide (x = y))) w := by
  have u3 := Try.underlying3
  have hS : Try.prog.underlying 29 = some (.struct (Try.prog.fieldsOf 29)) := by kernel_rfl
  have hp : Try.prog.stoodInHeld 29 = false := by kernel_rfl
  rw [run_neq_struct, show (10000 : Nat) = 9999 + 1 from rfl, run_equalIn_agg w 9999 29 _ _ hS hp]
  simp only [Program.fieldsOf, Try.underlying29]
  go_simp
  obtain ⟨x1, x2⟩ := x
  obtain ⟨y1, y2⟩ := y
  by_cases h1 : x1 = y1
  · by_cases h2 : x2 = y2
    · subst h1 h2; simp
    · have h2' : ¬ (x2 : Int) = y2 := by omega
      simp [h1, h2, h2']
  · have h1' : ¬ (x1 : Int) = y1 := by omega
    simp [h1, h1']

set_option maxRecDepth 100000 in
set_option maxHeartbeats 4000000 in
theorem same_any {w : World} (a a' : Option Addr) (c c' : Nat) (R R' : List (Nat × Nat)) (hr : RdP w a R) (hr' : RdP w a' R') (hlen : R.length ≤ 1099511627776) :
    Calls Try.prog 20 #[.slice a R.length c, .slice a' R'.length c'] w fun e w' => e = .returned (.bool (decide (R = R'))) ∧ Below w.heap.size w w' := by
  have HR := hide hr
  have HR' := hide hr'
  clear hr hr'
  have hm : Try.prog.eqGuardType Try.prog.depth 29 = false := by kernel_rfl
  by_cases hl : R.length = R'.length
  · have hlb : ((R.length : Int) != (R'.length : Int)) = false := by simp [hl]
    have HL := hide hl
    clear hl
    go_enter Try.func20, Try.ntmps20
    go_wp2
    go_loopw [13] (fun i wr => ∃ I : Nat, I ≤ R.length ∧ i = .int .i64 I ∧ Hid (∀ j, j < I → R[j]? = R'[j]?) ∧ Hid (Below w.heap.size w wr)) (fun i _ => R.length - (intOf i).toNat)
    case atStart => exact ⟨0, Nat.zero_le _, rfl, fun j hj => by omega, Below.refl _ _⟩
    case round =>
      obtain ⟨I, hI, rfl, hq, hB⟩ := hrel
      by_cases hlt : I < R.length
      · have hlt' : I < R'.length := by have := HL.out; omega
        obtain ⟨x, hx⟩ : ∃ x, R[I]? = some x := ⟨_, List.getElem?_eq_getElem hlt⟩
        obtain ⟨y, hy⟩ : ∃ y, R'[I]? = some y := ⟨_, List.getElem?_eq_getElem hlt'⟩
        obtain ⟨b, off, rfl, c0, c1⟩ := HR.out.below hB.out I x hx
        obtain ⟨b', off', rfl, d0, d1⟩ := HR'.out.below hB.out I y hy
        have hne := neP x y
        have HX := hide hx
        have HY := hide hy
        clear hx hy
        by_cases hxy : x = y
        · rw [decide_eq_true hxy] at hne
          have HXY := hide hxy
          clear hxy
          go_wp2
          go_quiet (fail)
          go_wp2
          go_roundw
          case rel =>
            refine ⟨I + 1, hlt, by simp, fun j hj => ?_, below_drewN hB.out nq⟩
            rcases Nat.lt_or_ge j I with q | q
            · exact hq.out j q
            · rw [show j = I by omega, HX.out, HY.out, HXY.out]
          case measure => simp [intOf]; omega
        · rw [decide_eq_false hxy] at hne
          have hRR : decide (R = R') = false := decide_eq_false (fun e => hxy (by have h1 := HX.out; rw [e, HY.out] at h1; simpa using h1.symm))
          have HRR := hide hRR
          clear hxy hRR
          go_wp2
          go_quiet (fail)
          go_wp2
          go_ret
          refine ⟨?_, below_drewN hB.out nq⟩
          rw [HRR.out]
          rfl
      · have hRR : R = R' := by
          refine List.ext_getElem? (fun j => ?_)
          rcases Nat.lt_or_ge j I with q | q
          · exact hq.out j q
          · rw [List.getElem?_eq_none (by omega), List.getElem?_eq_none (by have := HL.out; omega)]
        have HRR := hide (decide_eq_true hRR)
        clear hRR
        go_wp2
        go_ret
        refine ⟨?_, hB.out⟩
        rw [HRR.out]
        rfl
  · have hlb : ((R.length : Int) != (R'.length : Int)) = true := by simp; omega
    have HRR := hide (decide_eq_false (p := R = R') (fun e => hl (by rw [e])))
    clear hl
    go_enter Try.func20, Try.ntmps20
    go_wp2
    go_ret
    refine ⟨?_, Below.refl _ _⟩
    rw [HRR.out]
    rfl
end Go.Proofs.Ytlomnpeelpmhiaa
