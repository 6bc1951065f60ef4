/- state.Find. Over the translation. (Written by tools/genz.py.) -/
import Derived.Test.YtgjhmpmjbedjoaaQSMd
namespace Go.Proofs.Ytgjhmpmjbedjoaa
open Go.RowKit Apo
set_option maxRecDepth 100000 in
set_option maxHeartbeats 4000000 in
theorem find_of (c0 c1 c2 c3 c4 c6 : Value) (a : Option Addr) (cap : Nat) (l : List Mk) (id : Int) (w : World) (h : RdG cMk 2 w a l) (hl : l.length ≤ 9223372036854775807) :
    Calls Try.prog 10 #[.agg #[c0, c1, c2, c3, c4, .slice a l.length cap, c6], .int .u64 id] w fun e w' => e = .returned (.tuple #[.int .u64 (chG l id), .bool (madeG l id).isSome]) ∧ Below w.heap.size w w' := by
  have HB0 := hide ((Below.refl w.heap.size w).alloc (Nat.le_refl _) (.cells #[c0, c1, c2, c3, c4, .slice a l.length cap, c6] 27))
  have HR := hide (h.below HB0.out)
  obtain ⟨n, hn⟩ : ∃ n, n = l.length := ⟨_, rfl⟩
  have HN := hide hn
  rw [← hn] at hl ⊢
  rw [← hn] at HB0 HR
  clear h hn
  go_enter Try.func10, Try.ntmps10
  go_wp2
  go_loopw [11] (fun i wr => ∃ k : Nat, k ≤ n ∧ i = .int .i64 k ∧ Hid (∀ j x, j < k → l[j]? = some x → x.id ≠ id) ∧ Hid (Below (w.alloc (.cells #[c0, c1, c2, c3, c4, .slice a n cap, c6] 27)).heap.size (w.alloc (.cells #[c0, c1, c2, c3, c4, .slice a n cap, c6] 27)) wr)) (fun i _ => n - (intOf i).toNat)
  case atStart => exact ⟨0, Nat.zero_le _, rfl, hide (fun j x hj => by omega), hide (Below.refl _ _)⟩
  case round =>
    obtain ⟨k, hk, rfl, HS, HB⟩ := hrel
    by_cases hlt : k < n
    · obtain ⟨x, hx⟩ : ∃ x, l[k]? = some x := ⟨l[k]'(by have := HN.out; omega), List.getElem?_eq_getElem _⟩
      obtain ⟨g, o, rfl, q0, q1⟩ := rd_mk (HR.out.below HB.out) hx
      have HBA := hide (HB.out.alloc HB.out.size (.cells #[.int .u64 x.id, .int .u64 x.ch] 60))
      by_cases he : x.id = id
      · have d : (x.id == id) = true := by simpa using he
        have HX := hide (madeG_at hx he HS.out)
        have HF := hide (HB0.out.trans (HBA.out.mono HB0.out.size))
        clear hx he
        go_wp2
        refine bodyPost_ret (v := .tuple #[.int .u64 x.ch, .bool true]) (by simp [results, Try.results10, go_sem]) rfl ?_
        refine ⟨?_, HF.out⟩
        unfold chG
        rw [HX.out]
        rfl
      · have d : (x.id == id) = false := by simpa using he
        have HS2 : Hid (∀ j y, j < k + 1 → l[j]? = some y → y.id ≠ id) := hide (fun j y hj hy => by
          by_cases q : j = k
          · subst q
            rw [hx] at hy
            injection hy with hy
            rw [← hy]
            exact he
          · exact HS.out j y (by omega) hy)
        clear hx he
        go_wp2
        go_roundw
        case rel => exact ⟨k + 1, by omega, by simp, HS2, HBA⟩
        case measure => simp [intOf]; omega
    · obtain rfl : k = n := by omega
      have HX : Hid (madeG l id = none) := hide (madeG_no (fun x hx => by
        obtain ⟨j, hj, hv⟩ := List.getElem_of_mem hx
        exact HS.out j x (by have := HN.out; omega) (by rw [← hv]; exact List.getElem?_eq_getElem _)))
      have HF := hide (HB0.out.trans (HB.out.mono HB0.out.size))
      go_wp2
      refine bodyPost_ret (v := .tuple #[.int .u64 0, .bool false]) (by simp [results, Try.results10, go_sem]) rfl ?_
      refine ⟨?_, HF.out⟩
      unfold chG
      rw [HX.out]
      rfl
end Go.Proofs.Ytgjhmpmjbedjoaa
