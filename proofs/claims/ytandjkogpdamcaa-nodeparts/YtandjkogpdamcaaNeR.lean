/- The program's rise, Right and Last of layer 9, over the translation. -/
import Derived.Test.YtandjkogpdamcaaNeY
import Derived.Test.YtandjkogpdamcaaNdP
namespace Apo
open Go Go.RowKit
theorem badAt_ok {lv : Int} {ks : List ByteArray} {i : Nat} (h : badAt lv ks i = false) : (0 < i → sLt (ks.getD (i - 1) ByteArray.empty) (ks.getD i ByteArray.empty) = true) ∧ (i + 1 < ks.length → endsN lv (ks.getD i ByteArray.empty) = false) := by
  unfold badAt at h
  rw [Bool.or_eq_false_iff, Bool.and_eq_false_iff, Bool.and_eq_false_iff] at h
  refine ⟨fun q => ?_, fun q => ?_⟩
  · rcases h.1 with z | z
    · simp at z; omega
    · simpa using z
  · rcases h.2 with z | z
    · simp at z; omega
    · exact z
theorem badAt_of {lv : Int} {ks : List ByteArray} {i : Nat} (h1 : 0 < i → sLt (ks.getD (i - 1) ByteArray.empty) (ks.getD i ByteArray.empty) = true) (h2 : i + 1 < ks.length → endsN lv (ks.getD i ByteArray.empty) = false) : badAt lv ks i = false := by
  unfold badAt
  rw [Bool.or_eq_false_iff, Bool.and_eq_false_iff, Bool.and_eq_false_iff]
  refine ⟨?_, ?_⟩
  · by_cases q : 0 < i
    · exact .inr (by rw [h1 q]; rfl)
    · exact .inl (by simpa using q)
  · by_cases q : i + 1 < ks.length
    · exact .inr (h2 q)
    · exact .inl (by simpa using q)
end Apo
namespace Go.Proofs.Ytandjkogpdamcaa
open Go.RowKit Apo
/-- what rise tells -/
def RiP (w : World) (lv : Int) (l : List ByteArray) (e : Ending) (w' : World) : Prop := ∃ b : Bool, e = .returned (.bool b) ∧ (b = true ↔ ∀ i, i < l.length → badAt lv l i = false) ∧ Below w.heap.size w w'
set_option maxRecDepth 100000 in
set_option maxHeartbeats 4000000 in
theorem rise_any (w : World) (lv : Int) (B : Nat) (va : Option Addr) (vc : Nat) (l : List ByteArray) (h : w.ownsRow B 9 1 (.slice va l.length vc) l.length (strs l)) (hl : l.length ≤ 10000000) (hz : ∀ s ∈ l, s.size ≤ 1099511627776) :
    Calls Try.prog 42 #[.int .i64 lv, .slice va l.length vc] w (RiP w lv l) := by
  obtain ⟨n, hn⟩ : ∃ n, n = l.length := ⟨_, rfl⟩
  have HN := hide hn
  have HO := hide h
  have HZ := hide hz
  rw [← hn] at hl ⊢
  rw [← hn] at HO
  clear h hn hz
  go_enter Try.func42, Try.ntmps42
  go_wp2
  go_loopw [5] (fun v wr => ∃ i : Nat, 1 ≤ i ∧ (i ≤ n ∨ i = 1) ∧ v = .int .i64 i ∧ Hid (∀ t, t < i → (0 < t → sLt (l.getD (t - 1) ByteArray.empty) (l.getD t ByteArray.empty) = true) ∧ (t + 1 < i → endsN lv (l.getD t ByteArray.empty) = false)) ∧ Hid (Below w.heap.size w wr)) (fun v _ => n - (intOf v).toNat)
  case atStart => exact ⟨1, Nat.le_refl _, Or.inr rfl, rfl, hide (fun t ht => ⟨fun q => absurd q (by omega), fun q => absurd q (by omega)⟩), hide (Below.refl _ _)⟩
  case round =>
    obtain ⟨i, hi1, hi2, rfl, HS, HB⟩ := hrel
    have hib : i ≤ 10000000 := by omega
    by_cases hin : i < n
    · obtain ⟨s2, hs2⟩ : ∃ s, l[i]? = some s := ⟨l[i]'(by have := HN.out; omega), List.getElem?_eq_getElem _⟩
      obtain ⟨s1, hs1⟩ : ∃ s, l[i - 1]? = some s := ⟨l[i - 1]'(by have := HN.out; omega), List.getElem?_eq_getElem _⟩
      obtain ⟨g, rfl, q2, hcap⟩ := own_str HO.out hs2
      obtain ⟨g', hgg, q1, _⟩ := own_str HO.out hs1
      obtain rfl : g = g' := by injection hgg with e; injection e
      have q1' := (HB.out.cell (p := ⟨g, i - 1, none⟩) (World.block_lt_of_cell? _ _ q1)).trans q1
      have q2' := (HB.out.cell (p := ⟨g, i, none⟩) (World.block_lt_of_cell? _ _ q2)).trans q2
      have hsz := HZ.out s1 (List.mem_of_getElem? hs1)
      have hwi : IntKind.i64.wrap ((i : Int) - 1) = ((i - 1 : Nat) : Int) := by rw [IntKind.wrap_i64]; omega
      obtain ⟨i1, hi1'⟩ : ∃ i1, i1 = i - 1 := ⟨_, rfl⟩
      rw [← hi1'] at q1' hwi
      have HI1 := hide hi1'
      have hsub : (i : Int) - 1 = (i1 : Int) := by omega
      have hg1 : l.getD (i - 1) ByteArray.empty = s1 := by rw [List.getD_eq_getElem?_getD, hs1]; rfl
      have hg2 : l.getD i ByteArray.empty = s2 := by rw [List.getD_eq_getElem?_getD, hs2]; rfl
      have HG := hide (And.intro hg1 hg2)
      have hi1n : i1 < n := by omega
      clear q1 q2 hs1 hs2 hg1 hg2 hgg hi1'
      cases hb1 : sLt s1 s2
      · have hbl : Op.bytesLess s1.toList s2.toList = false := hb1
        have HX : Hid (¬ ∀ t, t < l.length → badAt lv l t = false) := by
          refine hide (fun z => ?_)
          have q := (badAt_ok (z i (by have := HN.out; omega))).1 (by omega)
          rw [HG.out.1, HG.out.2, hb1] at q
          cases q
        go_wp2
        go_quiet (fail)
        go_wp2
        go_ret
        exact ⟨false, rfl, ⟨fun q => (by cases q), fun q => absurd q HX.out⟩, below_drewN HB.out _⟩
      · have hbl : Op.bytesLess s1.toList s2.toList = true := hb1
        have HCE := hide (endsN_any lv s1 wr.drew hsz)
        have hw3 : IntKind.i64.wrap (i1 : Int) = (i1 : Int) := by rw [IntKind.wrap_i64]; omega
        have hb5 : (0 : Int) ≤ (i1 : Int) := by omega
        have hb6 : (i1 : Int) < (n : Int) := by omega
        have hb7 : (0 : Int) ≤ (i : Int) := by omega
        have hb8 : (i : Int) < (n : Int) := by omega
        have HS3 : Hid (endsN lv s1 = false → ∀ t, t < i + 1 → (0 < t → sLt (l.getD (t - 1) ByteArray.empty) (l.getD t ByteArray.empty) = true) ∧ (t + 1 < i + 1 → endsN lv (l.getD t ByteArray.empty) = false)) := by
          refine hide (fun hf t ht => ⟨fun q => ?_, fun q => ?_⟩)
          · by_cases z : t < i
            · exact (HS.out t z).1 q
            · obtain rfl : t = i := by omega
              rw [HG.out.1, HG.out.2]
              exact hb1
          · by_cases z : t + 1 < i
            · exact (HS.out t (by omega)).2 z
            · obtain rfl : t = i - 1 := by omega
              rw [HG.out.1]
              exact hf
        have HX : Hid (endsN lv s1 = true → ¬ ∀ t, t < l.length → badAt lv l t = false) := by
          refine hide (fun hf z => ?_)
          have q := (badAt_ok (z (i - 1) (by have := HN.out; omega))).2 (by have := HN.out; omega)
          rw [HG.out.1, hf] at q
          cases q
        clear hb1
        cases hb : endsN lv s1
        all_goals
          rw [hb] at HCE HS3 HX
          clear hb
          go_wp2
          go_region_held3 (fun W' => W'.cell? ⟨g, i1, none⟩ = some (.string s1) ∧ W'.cell? ⟨g, i, none⟩ = some (.string s2)) (go_keep) (first
            | (go_at_call 46; refine HCE.out.mono ?_; rintro en w9 ⟨rfl, b9⟩; have HB9 := hide (HB.out.drew.trans (b9.mono HB.out.size)); have z1 := (b9.cell (p := ⟨g, i1, none⟩) (World.block_lt_of_cell? _ _ q1')).trans q1'; have z2 := (b9.cell (p := ⟨g, i, none⟩) (World.block_lt_of_cell? _ _ q2')).trans q2'; clear b9))
        · go_wp2
          go_roundw
          case rel => exact ⟨i + 1, by omega, Or.inl (by omega), by simp, hide (HS3.out (by simp)), HB9⟩
          case measure => simp [intOf]; omega
        · go_wp2
          go_ret
          exact ⟨false, rfl, ⟨fun q => (by cases q), fun q => absurd q (HX.out (by simp))⟩, HB9.out⟩
    · have HX : Hid (∀ t, t < l.length → badAt lv l t = false) := by
        refine hide (fun t ht => ?_)
        have := HN.out
        exact badAt_of (fun q => (HS.out t (by omega)).1 q) (fun q => (HS.out t (by omega)).2 (by omega))
      go_wp2
      go_ret
      exact ⟨true, rfl, ⟨fun _ => HX.out, fun _ => rfl⟩, HB.out⟩
/-- what Last tells -/
def lastK (n : Nd) : ByteArray := n.keys.getLast?.getD ByteArray.empty
set_option maxRecDepth 100000 in
set_option maxHeartbeats 4000000 in
theorem last_any (w : World) (x : NdA) (hx : OkN w x) (he : x.n.es.length ≤ 1000000) (hk : x.n.ks.length ≤ 1000000) :
    Calls Try.prog 16 #[.agg x.cells.toArray] w fun e w' => e = .returned (.string (lastK x.n)) ∧ Below w.heap.size w w' := by
  obtain ⟨W0, hW0⟩ : ∃ W0, W0 = w.alloc (.cells x.cells.toArray 25) := ⟨_, rfl⟩
  have b0 : Below w.heap.size w W0 := by rw [hW0]; exact (Below.refl _ w).alloc (Nat.le_refl _) _
  have HC := hide (keys_any W0 x (hx.below b0) he hk)
  have hkl : x.n.keys.length ≤ 10000000 := by unfold Nd.keys; simp; omega
  have HB0 := hide b0
  unfold lastK
  generalize x.n.keys = KS at *
  obtain ⟨⟨lv, es, ks⟩, ea, ec, ka, kc⟩ := x
  simp only [NdA.cells] at *
  rw [hW0] at HC HB0
  clear hx b0 hW0
  go_enter Try.func16, Try.ntmps16
  go_wp2_with fail
  refine HC.out.mono ?_
  rintro e w1 ⟨va, vc, rfl, o1, b1⟩
  have HB1 := hide (HB0.out.trans (b1.mono HB0.out.size))
  have HO := hide o1
  clear b1 o1 HC
  obtain ⟨n, hn⟩ : ∃ n, n = KS.length := ⟨_, rfl⟩
  rw [← hn] at HO hkl ⊢
  by_cases h0 : n = 0
  · have hK : KS = [] := List.eq_nil_of_length_eq_zero (by omega)
    subst hK
    subst h0
    clear hn
    go_wp2
    go_ret
    exact ⟨rfl, HB1.out⟩
  · obtain ⟨s2, hs2⟩ : ∃ s, KS[n - 1]? = some s := ⟨KS[n - 1]'(by omega), List.getElem?_eq_getElem _⟩
    obtain ⟨g, rfl, q2, hcap⟩ := own_str HO.out hs2
    have HL : Hid (KS.getLast?.getD ByteArray.empty = s2) := hide (by rw [List.getLast?_eq_getElem?, ← hn, hs2]; rfl)
    have hd1 : ((n : Int) == 0) = false := by rw [beq_eq_false_iff_ne]; omega
    have hd2 : (n == 0) = false := by rw [beq_eq_false_iff_ne]; omega
    obtain ⟨i1, hi1⟩ : ∃ i1, i1 = n - 1 := ⟨_, rfl⟩
    have hwi : IntKind.i64.wrap ((n : Int) - 1) = (i1 : Int) := by rw [IntKind.wrap_i64]; omega
    have hsub : (n : Int) - 1 = (i1 : Int) := by omega
    have hin : i1 < n := by omega
    rw [← hi1] at q2
    clear hn hs2 hi1
    go_wp2
    go_ret
    rw [HL.out]
    exact ⟨rfl, HB1.out⟩
end Go.Proofs.Ytandjkogpdamcaa
