/- The document's SameCommits. Over the translation. -/
import Derived.Deep.RegionHeld3
import Derived.Deep.RegionLaw
import Derived.Test.YtmkafoidfgaokaaQA6
namespace Go.Proofs.Ytmkafoidfgaokaa
open Go.RowKit Apo
theorem sameCm_ne {c d : Cm} (h : sameCm c d = false) : c ≠ d := fun e => by
  rw [e, sameCm_refl] at h
  cases h
set_option maxRecDepth 100000 in
set_option maxHeartbeats 4000000 in
theorem rsames_any {w0 w : World} (a : Option Addr) (acap : Nat) (S : List CmA) (b : Option Addr) (bcap : Nat) (T : List CmA) (hb0 : Below w0.heap.size w0 w) (ha : RdG cCm 5 w a S) (hb : RdG cCm 5 w b T) (hs : ∀ x ∈ S, CmR w0 x.c x.a x.cap ∧ x.c.ps.length ≤ 1099511627776) (ht : ∀ x ∈ T, CmR w0 x.c x.a x.cap) (hl : S.length ≤ 1000000) :
    Calls Try.prog 26 #[.slice a S.length acap, .slice b T.length bcap] w fun e w' => (∃ r : Bool, e = .returned (.bool r) ∧ (r = true ↔ S.map CmA.c = T.map CmA.c)) ∧ Below w.heap.size w w' := by
  have hA := hide ha
  have hB := hide hb
  have HS := hide hs
  have HT := hide ht
  have H0 := hide hb0
  clear ha hb hs ht hb0
  by_cases hlen : S.length = T.length
  · obtain ⟨n, hn⟩ : ∃ n, n = S.length := ⟨_, rfl⟩
    have HL := hide hlen
    have HN := hide hn
    rw [← hlen, ← hn]
    rw [← hn] at hl
    clear hlen hn
    go_enter Try.func26, Try.ntmps26
    go_wp2
    go_loopw [13] (fun i wr => ∃ k : Nat, k ≤ n ∧ i = .int .i64 k ∧ Hid ((S.map CmA.c).take k = (T.map CmA.c).take k) ∧ Hid (Below w.heap.size w wr)) (fun i _ => n - (intOf i).toNat)
    case atStart => exact ⟨0, Nat.zero_le _, rfl, hide rfl, hide (Below.refl _ _)⟩
    case round =>
      obtain ⟨k, hk, rfl, HE, HB⟩ := hrel
      by_cases hlt : k < n
      · obtain ⟨x, hx⟩ : ∃ x, S[k]? = some x := ⟨S[k]'(by have := HN.out; omega), List.getElem?_eq_getElem _⟩
        obtain ⟨y, hy⟩ : ∃ y, T[k]? = some y := ⟨T[k]'(by have := HN.out; have := HL.out; omega), List.getElem?_eq_getElem _⟩
        obtain ⟨g, o, rfl, q0, q1, q2, q3, q4⟩ := rd_cm (hA.out.below HB.out) hx
        obtain ⟨g', o', rfl, r0, r1, r2, r3, r4⟩ := rd_cm (hB.out.below HB.out) hy
        have hcx := HS.out x (List.mem_of_getElem? hx)
        have hcy := HT.out y (List.mem_of_getElem? hy)
        have hxc : (S.map CmA.c)[k]? = some x.c := by rw [List.getElem?_map, hx]; rfl
        have hyc : (T.map CmA.c)[k]? = some y.c := by rw [List.getElem?_map, hy]; rfl
        have b2 : Below w0.heap.size w0 wr := H0.out.trans (HB.out.mono H0.out.size)
        have bD : Below wr.heap.size wr wr.drew := (Below.refl _ _).drew
        have HC := hide (rsame14 x.c y.c x.a y.a x.cap y.cap wr.drew (hcx.1.rd.below (b2.trans (bD.mono b2.size))) (hcy.rd.below (b2.trans (bD.mono b2.size))) hcx.2)
        have HKC : Hid (∀ W', Below wr.heap.size wr W' → W'.cell? ⟨g, o + k * 5, none⟩ = some (.int .u64 x.c.id) ∧ W'.cell? ⟨g, o + k * 5 + 1, none⟩ = some (.slice x.a x.c.ps.length x.cap) ∧ W'.cell? ⟨g, o + k * 5 + 2, none⟩ = some (.int .u64 x.c.gen) ∧ W'.cell? ⟨g, o + k * 5 + 3, none⟩ = some (.int .u64 x.c.root) ∧ W'.cell? ⟨g, o + k * 5 + 4, none⟩ = some (.string x.c.tx) ∧ W'.cell? ⟨g', o' + k * 5, none⟩ = some (.int .u64 y.c.id) ∧ W'.cell? ⟨g', o' + k * 5 + 1, none⟩ = some (.slice y.a y.c.ps.length y.cap) ∧ W'.cell? ⟨g', o' + k * 5 + 2, none⟩ = some (.int .u64 y.c.gen) ∧ W'.cell? ⟨g', o' + k * 5 + 3, none⟩ = some (.int .u64 y.c.root) ∧ W'.cell? ⟨g', o' + k * 5 + 4, none⟩ = some (.string y.c.tx)) := hide (fun W' hb => by
          obtain ⟨g1, o1, e1, z0, z1, z2, z3, z4⟩ := rd_cm (hA.out.below (HB.out.trans (hb.mono HB.out.size))) hx
          obtain ⟨g2, o2, e2, y0, y1, y2, y3, y4⟩ := rd_cm (hB.out.below (HB.out.trans (hb.mono HB.out.size))) hy
          injection e1 with e1
          injection e1 with e1 e3
          injection e2 with e2
          injection e2 with e2 e4
          subst e1 e2 e3 e4
          exact ⟨z0, z1, z2, z3, z4, y0, y1, y2, y3, y4⟩)
        have HBD := hide bD
        have hcell := HKC.out _ bD
        unfold cmV at HC
        cases hd : sameCm x.c y.c with
        | true =>
          rw [hd] at HC
          have HE2 : Hid ((S.map CmA.c).take (k + 1) = (T.map CmA.c).take (k + 1)) := hide (by
            rw [List.take_add_one, List.take_add_one, hxc, hyc, HE.out, sameCm_eq hd])
          clear hx hy hcx hcy hxc hyc b2 hd bD q0 q1 q2 q3 q4 r0 r1 r2 r3 r4
          go_wp2_with fail
          go_region_held3 (fun W' => W'.cell? ⟨g, o + k * 5, none⟩ = some (.int .u64 x.c.id) ∧ W'.cell? ⟨g, o + k * 5 + 1, none⟩ = some (.slice x.a x.c.ps.length x.cap) ∧ W'.cell? ⟨g, o + k * 5 + 2, none⟩ = some (.int .u64 x.c.gen) ∧ W'.cell? ⟨g, o + k * 5 + 3, none⟩ = some (.int .u64 x.c.root) ∧ W'.cell? ⟨g, o + k * 5 + 4, none⟩ = some (.string x.c.tx) ∧ W'.cell? ⟨g', o' + k * 5, none⟩ = some (.int .u64 y.c.id) ∧ W'.cell? ⟨g', o' + k * 5 + 1, none⟩ = some (.slice y.a y.c.ps.length y.cap) ∧ W'.cell? ⟨g', o' + k * 5 + 2, none⟩ = some (.int .u64 y.c.gen) ∧ W'.cell? ⟨g', o' + k * 5 + 3, none⟩ = some (.int .u64 y.c.root) ∧ W'.cell? ⟨g', o' + k * 5 + 4, none⟩ = some (.string y.c.tx)) (first | assumption | go_keep) (first
            | (go_at_call 14; (with_reducible refine HC.out.mono ?_); rintro e w2 ⟨rfl, b2⟩; have HB2 := hide (HBD.out.trans (b2.mono HBD.out.size)); have hcel2 := HKC.out _ HB2.out; clear b2))
          have HB3 := hide (HB.out.trans (HB2.out.mono HB.out.size))
          go_wp2
          go_roundw
          case rel => exact ⟨k + 1, by omega, by simp, HE2, HB3⟩
          case measure => simp [intOf]; omega
        | false =>
          rw [hd] at HC
          have HNE : Hid (S.map CmA.c ≠ T.map CmA.c) := hide (by
            intro e
            rw [e, hyc] at hxc
            injection hxc with hxc
            exact sameCm_ne hd hxc.symm)
          clear hx hy hcx hcy hxc hyc b2 hd bD q0 q1 q2 q3 q4 r0 r1 r2 r3 r4
          go_wp2_with fail
          go_region_held3 (fun W' => W'.cell? ⟨g, o + k * 5, none⟩ = some (.int .u64 x.c.id) ∧ W'.cell? ⟨g, o + k * 5 + 1, none⟩ = some (.slice x.a x.c.ps.length x.cap) ∧ W'.cell? ⟨g, o + k * 5 + 2, none⟩ = some (.int .u64 x.c.gen) ∧ W'.cell? ⟨g, o + k * 5 + 3, none⟩ = some (.int .u64 x.c.root) ∧ W'.cell? ⟨g, o + k * 5 + 4, none⟩ = some (.string x.c.tx) ∧ W'.cell? ⟨g', o' + k * 5, none⟩ = some (.int .u64 y.c.id) ∧ W'.cell? ⟨g', o' + k * 5 + 1, none⟩ = some (.slice y.a y.c.ps.length y.cap) ∧ W'.cell? ⟨g', o' + k * 5 + 2, none⟩ = some (.int .u64 y.c.gen) ∧ W'.cell? ⟨g', o' + k * 5 + 3, none⟩ = some (.int .u64 y.c.root) ∧ W'.cell? ⟨g', o' + k * 5 + 4, none⟩ = some (.string y.c.tx)) (first | assumption | go_keep) (first
            | (go_at_call 14; (with_reducible refine HC.out.mono ?_); rintro e w2 ⟨rfl, b2⟩; have HB2 := hide (HBD.out.trans (b2.mono HBD.out.size)); have hcel2 := HKC.out _ HB2.out; clear b2))
          have HB3 := hide (HB.out.trans (HB2.out.mono HB.out.size))
          go_wp2
          go_ret
          exact ⟨⟨false, rfl, by simp [HNE.out]⟩, HB3.out⟩
      · have HE2 : Hid (S.map CmA.c = T.map CmA.c) := hide (by
          have h1 := HE.out
          rw [List.take_of_length_le (by rw [List.length_map]; have := HN.out; omega), List.take_of_length_le (by rw [List.length_map]; have := HN.out; have := HL.out; omega)] at h1
          exact h1)
        go_wp2
        go_ret
        exact ⟨⟨true, rfl, by simp [HE2.out]⟩, HB.out⟩
  · have HNE : Hid (S.map CmA.c ≠ T.map CmA.c) := hide (by
      intro e
      have := congrArg List.length e
      rw [List.length_map, List.length_map] at this
      exact hlen this)
    have hne : ((S.length : Int) != (T.length : Int)) = true := by
      rw [bne_iff_ne]
      omega
    clear hlen
    go_enter Try.func26, Try.ntmps26
    go_wp2
    go_ret
    exact ⟨⟨false, rfl, by simp [HNE.out]⟩, Below.refl _ _⟩
end Go.Proofs.Ytmkafoidfgaokaa
