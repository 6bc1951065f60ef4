/- Chapter 5's example, for whatever Put and Of do as the document's; supers that are compared. -/
import Derived.Test.YtdpbkmbegjcgjaaRows
import Derived.Test.YtdpbkmbegjcgjaaSupM
import Derived.Test.YtdpbkmbegjcgjaaObj
import Derived.Test.YtdpbkmbegjcgjaaLit
import Derived.Test.YtdpbkmbegjcgjaaRd
import Derived.WalkKit
import Derived.Handy
import Derived.Laws.StructEq
import Derived.BigRegion
import Derived.BigQuiet
import Derived.Deep.RegionLaw
import Derived.Deep.QuietTactic
namespace Go.Proofs.Ytdpbkmbegjcgjaa
open Go.RowKit Apo

/-- Put does what the document's Put does -/
def PutDoes : Prop := ∀ (s : Sup), s.Ok → ∀ w : World,
  Calls Try.prog 10 #[s.val] w fun e w' => ∃ v, e = .returned v ∧ w'.ownsRow w.heap.size 5 1 v 32 ((superB s).map (Value.int .u8)) ∧ Below w.heap.size w w'
/-- Of does what the document's Of does -/
def OfDoes : Prop := ∀ (w : World) (a : Option Addr) (cap : Nat) (l : List Int), Rd .u8 w a l → (∀ z ∈ l, 0 ≤ z ∧ z ≤ 255) → l.length ≤ cap →
  Calls Try.prog 8 #[.slice a l.length cap] w fun e w' => e = .returned (.tuple #[(supOf l).val, .bool (isSup l)]) ∧ Below w.heap.size w w'

theorem sup_ext {s t : Sup} (h1 : s.e = t.e) (h2 : s.st = t.st) (h3 : s.pg = t.pg) (h4 : s.sz = t.sz) : s = t := by
  cases s; cases t; simp_all
instance : DecidableEq Sup := fun a b => decidable_of_iff (a.e = b.e ∧ a.st = b.st ∧ a.pg = b.pg ∧ a.sz = b.sz) ⟨fun h => sup_ext h.1 h.2.1 h.2.2.1 h.2.2.2, fun h => by subst h; exact ⟨rfl, rfl, rfl, rfl⟩⟩
theorem eqS (f g : Sup) (w : World) : (binOp .eql 25 (.agg #[.int .u64 f.e, .int .u32 f.st, .int .u32 f.pg, .int .u32 f.sz]) (.agg #[.int .u64 g.e, .int .u32 g.st, .int .u32 g.pg, .int .u32 g.sz])).run Try.prog w = .ok (.bool (decide (f = g))) w := by
  have u3 := Try.underlying22
  have u36 := Try.underlying23
  have hS : Try.prog.underlying 25 = some (.struct (Try.prog.fieldsOf 25)) := by kernel_rfl
  have hp : Try.prog.stoodInHeld 25 = false := by kernel_rfl
  rw [run_eql_struct, show (10000 : Nat) = 9999 + 1 from rfl, run_equalIn_agg w 9999 25 _ _ hS hp]
  simp only [Program.fieldsOf, Try.underlying25]
  go_simp
  by_cases h1 : f.e = g.e
  · by_cases h2 : f.st = g.st
    · by_cases h3 : f.pg = g.pg
      · by_cases h4 : f.sz = g.sz
        · have : f = g := sup_ext h1 h2 h3 h4
          subst this
          simp
        · have : f ≠ g := fun e => h4 (by rw [e])
          have h4' : ¬ (f.sz : Int) = g.sz := by omega
          simp [h1, h2, h3, h4', this]
      · have : f ≠ g := fun e => h3 (by rw [e])
        have h4' : ¬ (f.pg : Int) = g.pg := by omega
        simp [h1, h2, h4', this]
    · have : f ≠ g := fun e => h2 (by rw [e])
      have h4' : ¬ (f.st : Int) = g.st := by omega
      simp [h1, h4', this]
  · have : f ≠ g := fun e => h1 (by rw [e])
    have h4' : ¬ (f.e : Int) = g.e := by omega
    simp [h4', this]

def s7 : Sup := ⟨7, 1, 2, 3⟩
theorem s7_ok : s7.Ok := ⟨by decide, by decide, by decide, by decide⟩
set_option maxHeartbeats 1000000 in
theorem awake_any (hp : PutDoes) (ho : OfDoes) (w : World) : Calls Try.prog 7 #[] w fun e w' => e = .returned (.bool true) ∧ Below w.heap.size w w' := by
  have HP := hide hp
  have HO := hide ho
  clear hp ho
  have k0 : Ob (w.alloc (.cells #[.int .u64 7, .int .u32 1, .int .u32 2, .int .u32 3] 25)) w.heap.size 25 [.int .u64 7, .int .u32 1, .int .u32 2, .int .u32 3] := Ob.new w [.int .u64 7, .int .u32 1, .int .u32 2, .int .u32 3] 25
  have B0 : Below w.heap.size w (w.alloc (.cells #[.int .u64 7, .int .u32 1, .int .u32 2, .int .u32 3] 25)) := (Below.refl _ w).alloc (Nat.le_refl _) _
  have x0 := k0.cell 0
  have x1 := k0.cell 1
  have x2 := k0.cell 2
  have x3 := k0.cell 3
  simp only [List.getElem?_cons_zero, List.getElem?_cons_succ] at x0 x1 x2 x3
  generalize hW0 : w.alloc (.cells #[.int .u64 7, .int .u32 1, .int .u32 2, .int .u32 3] 25) = W0 at k0 B0 x0 x1 x2 x3
  have HK0 := hide k0
  have HB0 := hide B0
  clear k0 B0
  go_enter Try.func7, Try.ntmps7
  go_wp2_with fail
  refine (HP.out s7 s7_ok W0).mono ?_
  rintro e w1 ⟨v, rfl, r1, b1⟩
  have k1 := HK0.out.old b1
  have B1 := HB0.out.trans (b1.mono HB0.out.size)
  obtain ⟨a1, c1, rfl, hc1⟩ : ∃ a' c', v = .slice a' (superB s7).length c' ∧ (superB s7).length ≤ c' := by
    rcases r1.2 with ⟨h, hz⟩ | ⟨g, c, cur, h, _, _, hn, _⟩
    · simp at hz
    · exact ⟨_, c, h, hn⟩
  have q1 := (Rd.own r1).1
  have HK1 := hide k1
  have HB1 := hide B1
  have HQ1 := hide q1
  clear k1 B1 q1 r1 b1
  go_wp2_with fail
  refine (HO.out w1 a1 c1 (superB s7) HQ1.out (superB_byt s7) hc1).mono ?_
  rintro e w2 ⟨rfl, b2⟩
  have k2 := HK1.out.old b2
  have B2 := HB1.out.trans (b2.mono HB1.out.size)
  rw [show (supOf (superB s7)).val = .agg #[.int .u64 7, .int .u32 1, .int .u32 2, .int .u32 3] by rw [supOf_superB s7_ok (by decide)]; rfl, show isSup (superB s7) = true by rw [isSup_superB s7_ok]; rfl]
  have k3 := k2.old ((Below.refl w2.heap.size w2).alloc (Nat.le_refl _) (.cells #[.int .u64 7, .int .u32 1, .int .u32 2, .int .u32 3] 25))
  have B3 : Below w.heap.size w (w2.alloc (.cells #[.int .u64 7, .int .u32 1, .int .u32 2, .int .u32 3] 25)) := B2.alloc B2.size _
  have j3 : Ob (w2.alloc (.cells #[.int .u64 7, .int .u32 1, .int .u32 2, .int .u32 3] 25)) w2.heap.size 25 [.int .u64 7, .int .u32 1, .int .u32 2, .int .u32 3] := Ob.new w2 [.int .u64 7, .int .u32 1, .int .u32 2, .int .u32 3] 25
  generalize hW3 : w2.alloc (.cells #[.int .u64 7, .int .u32 1, .int .u32 2, .int .u32 3] 25) = W3 at k3 B3 j3
  have y0 := k3.cell 0
  have y1 := k3.cell 1
  have y2 := k3.cell 2
  have y3 := k3.cell 3
  have z0 := j3.cell 0
  have z1 := j3.cell 1
  have z2 := j3.cell 2
  have z3 := j3.cell 3
  simp only [List.getElem?_cons_zero, List.getElem?_cons_succ] at y0 y1 y2 y3 z0 z1 z2 z3
  have HB3 := hide B3
  clear k2 B2 k3 B3 j3 b2
  have hm : Try.prog.eqGuardType Try.prog.depth 25 = false := by kernel_rfl
  have hcmp := eqS s7 s7
  rw [decide_eq_true (rfl : s7 = s7)] at hcmp
  have hcmp' : ∀ w : World, (binOp .eql 25 (.agg #[.int .u64 7, .int .u32 1, .int .u32 2, .int .u32 3]) (.agg #[.int .u64 7, .int .u32 1, .int .u32 2, .int .u32 3])).run Try.prog w = .ok (.bool true) w := hcmp
  clear hcmp
  go_wp2_with fail
  go_ret
  exact ⟨rfl, HB3.out⟩
end Go.Proofs.Ytdpbkmbegjcgjaa
