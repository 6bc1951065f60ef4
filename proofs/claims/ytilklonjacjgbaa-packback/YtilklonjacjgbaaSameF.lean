/- The document's own SameFields, over the translation. -/
import Derived.Test.YtilklonjacjgbaaRows
import Derived.Test.YtilklonjacjgbaaFld
import Derived.WalkKit
import Derived.Handy
import Derived.Laws.StructEq
import Derived.BigQuiet
import Derived.Deep.QuietTactic
namespace Go.Proofs.Ytilklonjacjgbaa
open Go.RowKit Apo
theorem hide3 {p : Prop} (h : p) : Hid p := h

theorem fld_ext {f g : Fld} (h1 : f.k = g.k) (h2 : f.n = g.n) (h3 : f.s = g.s) (h4 : f.b = g.b) : f = g := by
  cases f; cases g; simp_all

theorem bytes_of_list {a b : ByteArray} (h : a.toList = b.toList) : a = b := by
  rw [ByteArray.toList_eq, ByteArray.toList_eq] at h
  exact ByteArray.ext (Array.ext' h)

open Classical in
theorem neqF (f g : Fld) (w : World) : (binOp .neq 38 (.agg #[.int .i64 f.k, .int .u64 f.n, .string f.s, .bool f.b]) (.agg #[.int .i64 g.k, .int .u64 g.n, .string g.s, .bool g.b])).run Try.prog w = .ok (.bool (!decide (f = g))) w := by
  have u3 := Try.underlying3
  have u36 := Try.underlying36
  have u9 := Try.underlying9
  have u4 := Try.underlying4
  have hS : Try.prog.underlying 38 = some (.struct (Try.prog.fieldsOf 38)) := by kernel_rfl
  have hp : Try.prog.stoodInHeld 38 = false := by kernel_rfl
  rw [run_neq_struct, show (10000 : Nat) = 9999 + 1 from rfl, run_equalIn_agg w 9999 38 _ _ hS hp]
  simp only [Program.fieldsOf, Try.underlying38]
  go_simp
  have hsx : f.s.toList = g.s.toList → f.s = g.s := bytes_of_list
  by_cases h1 : f.k = g.k
  · by_cases h2 : f.n = g.n
    · by_cases h3 : f.s = g.s
      · by_cases h4 : f.b = g.b
        · have : f = g := fld_ext h1 h2 h3 h4
          subst this
          simp
        · have : f ≠ g := fun e => h4 (by rw [e])
          simp [h1, h2, h3, h4, this]
      · have : f ≠ g := fun e => h3 (by rw [e])
        have h3' : ¬ f.s.toList = g.s.toList := fun e => h3 (hsx e)
        simp [h1, h2, h3', this]
    · have : f ≠ g := fun e => h2 (by rw [e])
      simp [h1, h2, this]
  · have : f ≠ g := fun e => h1 (by rw [e])
    simp [h1, this]

open Classical in
set_option maxHeartbeats 1000000 in
theorem sameF_any (a : Option Addr) (acap : Nat) (l : List Fld) (b : Option Addr) (bcap : Nat) (m : List Fld) (w : World) (ha : RdF w a l) (hb : RdF w b m) (hl : l.length ≤ 9223372036854775807) :
    Calls Try.prog 13 #[.slice a l.length acap, .slice b m.length bcap] w fun e w' => e = .returned (.bool (decide (l = m))) ∧ Below w.heap.size w w' := by
  have hA := hide3 ha
  have hB := hide3 hb
  clear ha hb
  by_cases hlen : l.length = m.length
  · rw [← hlen]
    have HL := hide3 hlen
    clear hlen
    go_enter Try.func13, Try.ntmps13
    go_wp2
    go_loopw [13] (fun i wr => ∃ k : Nat, k ≤ l.length ∧ i = .int .i64 k ∧ Hid (l.take k = m.take k) ∧ Below w.heap.size w wr) (fun i _ => l.length - (intOf i).toNat)
    case atStart => exact ⟨0, Nat.zero_le _, rfl, rfl, Below.refl _ _⟩
    case round =>
      obtain ⟨k, hk, rfl, hE, hbr⟩ := hrel
      by_cases hlt : k < l.length
      · have hz : l[k]? = some l[k] := List.getElem?_eq_getElem hlt
        have hlt2 : k < m.length := by rw [← HL.out]; exact hlt
        have hy : m[k]? = some m[k] := List.getElem?_eq_getElem hlt2
        generalize l[k] = f at hz
        generalize m[k] = g at hy
        obtain ⟨p, off, rfl, c0, c1, c2, c3⟩ := (hA.out.below hbr) k f hz
        obtain ⟨p', off', rfl, d0, d1, d2, d3⟩ := (hB.out.below hbr) k g hy
        have HZ := hide3 hz
        have HY := hide3 hy
        clear hz hy
        have hm : Try.prog.eqGuardType Try.prog.depth 38 = false := by kernel_rfl
        have hcmp := neqF f g
        by_cases hfg : f = g
        · subst hfg
          simp only [decide_true, Bool.not_true] at hcmp
          have hE' : Hid (l.take (k + 1) = m.take (k + 1)) := by
            show _ = _
            rw [List.take_add_one, List.take_add_one, HZ.out, HY.out, hE.out]
          go_wp2
          go_quiet (fail)
          go_wp2
          go_roundw
          case rel => exact ⟨k + 1, by omega, by go_num, hE', below_drewN hbr _⟩
          case measure => simp [intOf]; omega
        · have hd : decide (f = g) = false := by simp [hfg]
          simp only [hd, Bool.not_false] at hcmp
          have hE' : Hid (l ≠ m) := by
            intro e
            have h1 := HZ.out
            rw [e, HY.out] at h1
            exact hfg (by cases h1; rfl)
          go_wp2
          go_quiet (fail)
          go_wp2
          go_ret
          exact ⟨by simp [hE'.out], below_drewN hbr _⟩
      · have hE' : Hid (l = m) := by
          have h1 := hE.out
          rw [List.take_of_length_le (by omega), List.take_of_length_le (by rw [← HL.out]; omega)] at h1
          exact h1
        go_wp2
        go_ret
        exact ⟨by simp [hE'.out], hbr⟩
  · have hne : l ≠ m := fun e => hlen (by rw [e])
    have hN := hide3 hne
    have hlb : ((l.length : Int) == (m.length : Int)) = false := by simp; omega
    clear hne
    go_enter Try.func13, Try.ntmps13
    go_wp2
    go_ret
    exact ⟨by simp [hN.out], Below.refl _ _⟩
end Go.Proofs.Ytilklonjacjgbaa
