/- Clashes in memory; the document's SameClashes, over the translation. -/
import Derived.Test.YtjmjcmejneljgaaMSi
import Derived.BigQuiet
import Derived.Deep.QuietTactic
namespace Apo
open Go Go.RowKit
/-- a clash -/
structure Cl where
  k : ByteArray
  a : Si
  b : Si
  c : Si
def cCl (x : Cl) : List Value := [.string x.k, .bool x.a.b, .string x.a.v, .bool x.b.b, .string x.b.v, .bool x.c.b, .string x.c.v]
theorem cCl_len (x : Cl) : (cCl x).length = 7 := rfl
theorem cCl_one (x : Cl) : ∀ u ∈ cCl x, u.oneCell' = true := by simp [cCl, Value.oneCell']
def noS : Si := ⟨false, ⟨#[]⟩⟩
theorem RdG.cl {w : World} {a : Option Addr} {l : List Cl} (h : RdG cCl 7 w a l) {i : Nat} {x : Cl} (hi : l[i]? = some x) : ∃ g o, a = some ⟨g, o, none⟩ ∧ w.cell? ⟨g, o + i * 7, none⟩ = some (.string x.k) ∧ w.cell? ⟨g, o + i * 7 + 1, none⟩ = some (.bool x.a.b) ∧ w.cell? ⟨g, o + i * 7 + 2, none⟩ = some (.string x.a.v) ∧ w.cell? ⟨g, o + i * 7 + 3, none⟩ = some (.bool x.b.b) ∧ w.cell? ⟨g, o + i * 7 + 4, none⟩ = some (.string x.b.v) ∧ w.cell? ⟨g, o + i * 7 + 5, none⟩ = some (.bool x.c.b) ∧ w.cell? ⟨g, o + i * 7 + 6, none⟩ = some (.string x.c.v) := by
  obtain ⟨g, o, h1, h2⟩ := h i x hi
  exact ⟨g, o, h1, h2 0 _ rfl, h2 1 _ rfl, h2 2 _ rfl, h2 3 _ rfl, h2 4 _ rfl, h2 5 _ rfl, h2 6 _ rfl⟩
end Apo
namespace Go.Proofs.Ytjmjcmejneljgaa
open Go.RowKit Apo
set_option maxRecDepth 100000 in
theorem info_cl : (Try.prog.info? 45).map (fun i => (i.zero, i.size, i.bytes)) = some (some (.agg #[.string ByteArray.empty, .bool false, .string ByteArray.empty, .bool false, .string ByteArray.empty, .bool false, .string ByteArray.empty]), 7, 88) := by kernel_rfl
section
variable {O : Nat → Prop} {W : World} {v : Value} {y : Addr} {cp : Nat}
set_option maxRecDepth 100000 in
theorem app_cl {l xs : List Cl} (h : Row O W 45 7 v l.length (gcells cCl l)) (hn : l.length + xs.length ≤ 100000000) (hr : RdG cCl 7 W (some y) xs) :
    ∃ v' w', (Builtin.append_ #[22, 22] 22 #[v, .slice (some y) xs.length cp]).run Try.prog W = .ok v' w' ∧ Row (fun g => O g ∨ g = W.heap.size) w' 45 7 v' (l ++ xs).length (gcells cCl (l ++ xs)) ∧ Onl (fun g => v.ownBlock = some g) W w' ∧ ∀ g, v'.ownBlock = some g → v.ownBlock = some g ∨ g = W.heap.size :=
  app_G cCl_len (by decide) cCl_one Try.underlying22 info_cl rfl (by decide) h hn hr
end
open Classical in
set_option maxRecDepth 100000 in
set_option maxHeartbeats 1000000 in
theorem neqCl (f g : Cl) (w : World) : (binOp .neq 45 (.agg #[.string f.k, .bool f.a.b, .string f.a.v, .bool f.b.b, .string f.b.v, .bool f.c.b, .string f.c.v]) (.agg #[.string g.k, .bool g.a.b, .string g.a.v, .bool g.b.b, .string g.b.v, .bool g.c.b, .string g.c.v])).run Try.prog w = .ok (.bool (!decide (f = g))) w := by
  have u9 := Try.underlying9
  have u4 := Try.underlying4
  have hS : Try.prog.underlying 45 = some (.struct (Try.prog.fieldsOf 45)) := by kernel_rfl
  have hp : Try.prog.stoodInHeld 45 = false := by kernel_rfl
  have hS2 : Try.prog.underlying 43 = some (.struct (Try.prog.fieldsOf 43)) := by kernel_rfl
  have hp2 : Try.prog.stoodInHeld 43 = false := by kernel_rfl
  rw [run_neq_struct, show (10000 : Nat) = 9997 + 1 + 1 + 1 from rfl]
  generalize 9997 = n
  have hsd : ∀ (b b' : Bool) (v v' : ByteArray) (w : World), (Op.equalIn (n + 1 + 1) 43 (.agg #[.bool b, .string v]) (.agg #[.bool b', .string v'])).run Try.prog w = .ok (decide ((b, v) = (b', v'))) w := fun b b' v v' w => by
    rw [run_equalIn_agg w (n + 1) 43 _ _ hS2 hp2]
    simp only [Program.fieldsOf, Try.underlying43]
    clear hS hS2
    go_simp
    by_cases h1 : b = b'
    · by_cases h2 : v = v'
      · simp [h1, h2]
      · have h2' : ¬ v.toList = v'.toList := fun e => h2 (bytes_of_list e)
        simp [h1, h2, h2']
    · simp [h1]
  rw [run_equalIn_agg w (n + 1 + 1) 45 _ _ hS hp]
  simp only [Program.fieldsOf, Try.underlying45]
  clear hS hS2 hp2
  go_simp
  obtain ⟨fk, ⟨fa, fa'⟩, ⟨fb, fb'⟩, ⟨fc, fc'⟩⟩ := f
  obtain ⟨gk, ⟨ga, ga'⟩, ⟨gb, gb'⟩, ⟨gc, gc'⟩⟩ := g
  simp only
  by_cases h1 : fk = gk
  · subst h1
    by_cases h2 : fa = ga ∧ fa' = ga'
    · obtain ⟨rfl, rfl⟩ := h2
      by_cases h3 : fb = gb ∧ fb' = gb'
      · obtain ⟨rfl, rfl⟩ := h3
        by_cases h4 : fc = gc ∧ fc' = gc'
        · obtain ⟨rfl, rfl⟩ := h4
          simp
        · rw [if_pos rfl, if_neg (by simp), if_neg (by simp), if_pos (fun q z => h4 ⟨q, z⟩)]
          simp only [Cl.mk.injEq, Si.mk.injEq, true_and]
          rw [decide_eq_false h4]
          rfl
      · rw [if_pos rfl, if_neg (by simp), if_pos (fun q z => h3 ⟨q, z⟩)]
        rw [decide_eq_false (fun e => h3 (by simp only [Cl.mk.injEq, Si.mk.injEq] at e; exact e.2.2.1))]
        rfl
    · rw [if_pos rfl, if_pos (fun q z => h2 ⟨q, z⟩)]
      rw [decide_eq_false (fun e => h2 (by simp only [Cl.mk.injEq, Si.mk.injEq] at e; exact e.2.1))]
      rfl
  · have h1' : ¬ fk.toList = gk.toList := fun e => h1 (bytes_of_list e)
    rw [if_neg h1', decide_eq_false (fun e => h1 (by simp only [Cl.mk.injEq] at e; exact e.1))]
    rfl
open Classical in
set_option maxRecDepth 100000 in
set_option maxHeartbeats 1000000 in
theorem sameCl_any (a : Option Addr) (acap : Nat) (l : List Cl) (b : Option Addr) (bcap : Nat) (m : List Cl) (w : World) (ha : RdG cCl 7 w a l) (hb : RdG cCl 7 w b m) (hl : l.length ≤ 9223372036854775807) :
    Calls Try.prog 14 #[.slice a l.length acap, .slice b m.length bcap] w fun e w' => e = .returned (.bool (decide (l = m))) ∧ Below w.heap.size w w' := by
  have hA := hide ha
  have hB := hide hb
  clear ha hb
  by_cases hlen : l.length = m.length
  · rw [← hlen]
    have HL := hide hlen
    clear hlen
    go_enter Try.func14, Try.ntmps14
    go_wp2
    go_loopw [13] (fun i wr => ∃ k : Nat, k ≤ l.length ∧ i = .int .i64 k ∧ Hid (l.take k = m.take k) ∧ Below w.heap.size w wr) (fun i _ => l.length - (intOf i).toNat)
    case atStart => exact ⟨0, Nat.zero_le _, rfl, rfl, Below.refl _ _⟩
    case round =>
      obtain ⟨k, hk, rfl, hE, hbr⟩ := hrel
      by_cases hlt : k < l.length
      · have hz : l[k]? = some l[k] := List.getElem?_eq_getElem hlt
        have hlt2 : k < m.length := by rw [← HL.out]; exact hlt
        have hy : m[k]? = some m[k] := List.getElem?_eq_getElem hlt2
        generalize l[k] = f at hz
        generalize m[k] = g at hy
        obtain ⟨p, off, rfl, c0, c1, c2, c3, c4, c5, c6⟩ := (hA.out.below hbr).cl hz
        obtain ⟨p', off', rfl, d0, d1, d2, d3, d4, d5, d6⟩ := (hB.out.below hbr).cl hy
        have HZ := hide hz
        have HY := hide hy
        clear hz hy
        have hm : Try.prog.eqGuardType Try.prog.depth 45 = false := by kernel_rfl
        have hcmp := neqCl f g
        by_cases hfg : f = g
        · subst hfg
          simp only [decide_true, Bool.not_true] at hcmp
          have hE' : Hid (l.take (k + 1) = m.take (k + 1)) := by
            show _ = _
            rw [List.take_add_one, List.take_add_one, HZ.out, HY.out, hE.out]
          go_wp2
          go_quiet (fail)
          go_wp2
          go_roundw
          case rel => exact ⟨k + 1, by omega, by go_num, hE', below_drewN hbr _⟩
          case measure => simp [intOf]; omega
        · have hd : decide (f = g) = false := by simp [hfg]
          simp only [hd, Bool.not_false] at hcmp
          have hE' : Hid (l ≠ m) := by
            intro e
            have h1 := HZ.out
            rw [e, HY.out] at h1
            exact hfg (by cases h1; rfl)
          go_wp2
          go_quiet (fail)
          go_wp2
          go_ret
          exact ⟨by simp [hE'.out], below_drewN hbr _⟩
      · have hE' : Hid (l = m) := by
          have h1 := hE.out
          rw [List.take_of_length_le (by omega), List.take_of_length_le (by rw [← HL.out]; omega)] at h1
          exact h1
        go_wp2
        go_ret
        exact ⟨by simp [hE'.out], hbr⟩
  · have hne : l ≠ m := fun e => hlen (by rw [e])
    have hN := hide hne
    have hlb : ((l.length : Int) == (m.length : Int)) = false := by simp; omega
    clear hne
    go_enter Try.func14, Try.ntmps14
    go_wp2
    go_ret
    exact ⟨by simp [hN.out], Below.refl _ _⟩
end Go.Proofs.Ytjmjcmejneljgaa
