/- The document's Made, SameMade. Over the translation. -/
import Derived.BigQuiet
import Derived.Test.YtgjhmpmjbedjoaaQSDa
namespace Go.Proofs.Ytgjhmpmjbedjoaa
open Go.RowKit Apo
set_option maxRecDepth 100000 in
set_option maxHeartbeats 4000000 in
theorem rmade_of (c0 c1 c2 c3 c4 c6 : Value) (a : Option Addr) (cap : Nat) (l : List Mk) (id : Int) (w : World) (h : RdG cMk 2 w a l) (hl : l.length ≤ 9223372036854775807) :
    Calls Try.prog 11 #[.agg #[c0, c1, c2, c3, c4, .slice a l.length cap, c6], .int .u64 id] w fun e w' => e = .returned (.tuple #[.int .u64 (chG l id), .bool (madeG l id).isSome]) ∧ Below w.heap.size w w' := by
  have HB0 := hide ((Below.refl w.heap.size w).alloc (Nat.le_refl _) (.cells #[c0, c1, c2, c3, c4, .slice a l.length cap, c6] 27))
  have HR := hide (h.below HB0.out)
  obtain ⟨n, hn⟩ : ∃ n, n = l.length := ⟨_, rfl⟩
  have HN := hide hn
  rw [← hn] at hl ⊢
  rw [← hn] at HB0 HR
  clear h hn
  go_enter Try.func11, Try.ntmps11
  go_wp2
  go_loopw [11] (fun i wr => ∃ k : Nat, k ≤ n ∧ i = .int .i64 k ∧ Hid (∀ j x, j < k → l[j]? = some x → x.id ≠ id) ∧ Hid (Below (w.alloc (.cells #[c0, c1, c2, c3, c4, .slice a n cap, c6] 27)).heap.size (w.alloc (.cells #[c0, c1, c2, c3, c4, .slice a n cap, c6] 27)) wr)) (fun i _ => n - (intOf i).toNat)
  case atStart => exact ⟨0, Nat.zero_le _, rfl, hide (fun j x hj => by omega), hide (Below.refl _ _)⟩
  case round =>
    obtain ⟨k, hk, rfl, HS, HB⟩ := hrel
    by_cases hlt : k < n
    · obtain ⟨x, hx⟩ : ∃ x, l[k]? = some x := ⟨l[k]'(by have := HN.out; omega), List.getElem?_eq_getElem _⟩
      obtain ⟨g, o, rfl, q0, q1⟩ := rd_mk (HR.out.below HB.out) hx
      have HBA := hide (HB.out.alloc HB.out.size (.cells #[.int .u64 x.id, .int .u64 x.ch] 60))
      by_cases he : x.id = id
      · have d : (x.id == id) = true := by simpa using he
        have HX := hide (madeG_at hx he HS.out)
        have HF := hide (HB0.out.trans (HBA.out.mono HB0.out.size))
        clear hx he
        go_wp2
        refine bodyPost_ret (v := .tuple #[.int .u64 x.ch, .bool true]) (by simp [results, Try.results11, go_sem]) rfl ?_
        refine ⟨?_, HF.out⟩
        unfold chG
        rw [HX.out]
        rfl
      · have d : (x.id == id) = false := by simpa using he
        have HS2 : Hid (∀ j y, j < k + 1 → l[j]? = some y → y.id ≠ id) := hide (fun j y hj hy => by
          by_cases q : j = k
          · subst q
            rw [hx] at hy
            injection hy with hy
            rw [← hy]
            exact he
          · exact HS.out j y (by omega) hy)
        clear hx he
        go_wp2
        go_roundw
        case rel => exact ⟨k + 1, by omega, by simp, HS2, HBA⟩
        case measure => simp [intOf]; omega
    · obtain rfl : k = n := by omega
      have HX : Hid (madeG l id = none) := hide (madeG_no (fun x hx => by
        obtain ⟨j, hj, hv⟩ := List.getElem_of_mem hx
        exact HS.out j x (by have := HN.out; omega) (by rw [← hv]; exact List.getElem?_eq_getElem _)))
      have HF := hide (HB0.out.trans (HB.out.mono HB0.out.size))
      go_wp2
      refine bodyPost_ret (v := .tuple #[.int .u64 0, .bool false]) (by simp [results, Try.results11, go_sem]) rfl ?_
      refine ⟨?_, HF.out⟩
      unfold chG
      rw [HX.out]
      rfl
open Classical in
set_option maxRecDepth 100000 in
theorem neqMk (f g : Mk) (w : World) : (binOp .neq 60 (.agg #[.int .u64 f.id, .int .u64 f.ch]) (.agg #[.int .u64 g.id, .int .u64 g.ch])).run Try.prog w = .ok (.bool (!decide (f = g))) w := by
  have u30 := Try.underlying22
  have hS : Try.prog.underlying 60 = some (.struct (Try.prog.fieldsOf 60)) := by kernel_rfl
  have hp : Try.prog.stoodInHeld 60 = false := by kernel_rfl
  rw [run_neq_struct, show (10000 : Nat) = 9999 + 1 from rfl, run_equalIn_agg w 9999 60 _ _ hS hp]
  simp only [Program.fieldsOf, Try.underlying60]
  go_simp
  obtain ⟨fn, fi⟩ := f
  obtain ⟨gn, gi⟩ := g
  simp only
  by_cases h1 : fn = gn
  · by_cases h3 : fi = gi
    · simp [h1, h3]
    · simp [h1, h3]
  · simp [h1]
open Classical in
set_option maxRecDepth 100000 in
set_option maxHeartbeats 1000000 in
theorem rsame_made (a : Option Addr) (acap : Nat) (l : List Mk) (b : Option Addr) (bcap : Nat) (m : List Mk) (w : World) (ha : RdG cMk 2 w a l) (hb : RdG cMk 2 w b m) (hl : l.length ≤ 9223372036854775807) :
    Calls Try.prog 39 #[.slice a l.length acap, .slice b m.length bcap] w fun e w' => e = .returned (.bool (decide (l = m))) ∧ Below w.heap.size w w' := by
  have hA := hide ha
  have hB := hide hb
  clear ha hb
  by_cases hlen : l.length = m.length
  · rw [← hlen]
    have HL := hide hlen
    clear hlen
    go_enter Try.func39, Try.ntmps39
    go_wp2
    go_loopw [13] (fun i wr => ∃ k : Nat, k ≤ l.length ∧ i = .int .i64 k ∧ Hid (l.take k = m.take k) ∧ Below w.heap.size w wr) (fun i _ => l.length - (intOf i).toNat)
    case atStart => exact ⟨0, Nat.zero_le _, rfl, rfl, Below.refl _ _⟩
    case round =>
      obtain ⟨k, hk, rfl, hE, hbr⟩ := hrel
      by_cases hlt : k < l.length
      · have hz : l[k]? = some l[k] := List.getElem?_eq_getElem hlt
        have hlt2 : k < m.length := by rw [← HL.out]; exact hlt
        have hy : m[k]? = some m[k] := List.getElem?_eq_getElem hlt2
        generalize l[k] = f at hz
        generalize m[k] = g at hy
        obtain ⟨p, off, rfl, c0, c1⟩ := rd_mk (hA.out.below hbr) hz
        obtain ⟨p', off', rfl, d0, d1⟩ := rd_mk (hB.out.below hbr) hy
        have HZ := hide hz
        have HY := hide hy
        clear hz hy
        have hm : Try.prog.eqGuardType Try.prog.depth 60 = false := by kernel_rfl
        have hcmp := neqMk f g
        by_cases hfg : f = g
        · subst hfg
          simp only [decide_true, Bool.not_true] at hcmp
          have hE' : Hid (l.take (k + 1) = m.take (k + 1)) := by
            show _ = _
            rw [List.take_add_one, List.take_add_one, HZ.out, HY.out, hE.out]
          go_wp2
          go_quiet (fail)
          go_wp2
          go_roundw
          case rel => exact ⟨k + 1, by omega, by go_num, hE', below_drewN hbr _⟩
          case measure => simp [intOf]; omega
        · have hd : decide (f = g) = false := by simp [hfg]
          simp only [hd, Bool.not_false] at hcmp
          have hE' : Hid (l ≠ m) := by
            intro e
            have h1 := HZ.out
            rw [e, HY.out] at h1
            exact hfg (by cases h1; rfl)
          go_wp2
          go_quiet (fail)
          go_wp2
          go_ret
          exact ⟨by simp [hE'.out], below_drewN hbr _⟩
      · have hE' : Hid (l = m) := by
          have h1 := hE.out
          rw [List.take_of_length_le (by omega), List.take_of_length_le (by rw [← HL.out]; omega)] at h1
          exact h1
        go_wp2
        go_ret
        exact ⟨by simp [hE'.out], hbr⟩
  · have hne : l ≠ m := fun e => hlen (by rw [e])
    have hN := hide hne
    have hlb : ((l.length : Int) == (m.length : Int)) = false := by simp; omega
    clear hne
    go_enter Try.func39, Try.ntmps39
    go_wp2
    go_ret
    exact ⟨by simp [hN.out], Below.refl _ _⟩
end Go.Proofs.Ytgjhmpmjbedjoaa
