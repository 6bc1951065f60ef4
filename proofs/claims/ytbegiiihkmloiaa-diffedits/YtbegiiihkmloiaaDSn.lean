/- symMergeCmpFunc where the other side has one edit, over the translation. -/
import Derived.Test.YtbegiiihkmloiaaDSm
namespace Go.Proofs.Ytbegiiihkmloiaa
open Go.RowKit Apo Go.Sort
attribute [local go_sem ↓] ldE_exec stE_exec
set_option maxRecDepth 100000 in
set_option maxHeartbeats 8000000 in
theorem sym_last (cf : Nat) (hcf : CmpE cf) (w : World) (g cap : Nat) (d : List Ed) (ex : List Value) (h : RoE w g d ex) (hl : d.length ≤ 1000000) (a m b : Nat) (ham : a + 1 < m) (hm : b = m + 1) (hb : b ≤ d.length) (hs : SrtIn d a m) :
    Calls Try.prog 34 #[.slice (some ⟨g, 0, none⟩) d.length cap, .int .i64 a, .int .i64 m, .int .i64 b, .func (.func cf) #[] #[]] w (InP w g ex d a b) := by
  have eg := hcf.en
  have HC := hide hcf
  have HS := hide hs
  obtain ⟨ln, hln⟩ : ∃ ln, ln = d.length := ⟨_, rfl⟩
  have HLN := hide hln
  have HK0 : Hid (Kee w g ex d a b d w) := hide ⟨h, Stb.refl _, Out.refl _ _ _, Frm.refl _ _ _, Onl.refl _ _⟩
  rw [← hln] at hb hl ⊢
  obtain ⟨ma, hma⟩ : ∃ ma, ma = m - a := ⟨_, rfl⟩
  have w0 : IntKind.i64.wrap ((m : Int) - (a : Int)) = (ma : Int) := by rw [IntKind.wrap_i64]; omega
  have w0' : (m : Int) - (a : Int) = (ma : Int) := by omega
  have w0'' : IntKind.i64.wrap (ma : Int) = (ma : Int) := by rw [IntKind.wrap_i64]; omega
  have hma1 : ((ma : Int) == 1) = false := by simp; omega
  have hma2 : (ma == 1) = false := by simp; omega
  have hma3 : ¬ ma = 1 := by omega
  have w1 : IntKind.i64.wrap ((b : Int) - (m : Int)) = 1 := by rw [IntKind.wrap_i64]; omega
  have w1' : (b : Int) - (m : Int) = 1 := by omega
  have HM := hide hm
  have mixed : Try.prog.follows .mixedOrders = true := by kernel_rfl
  have hmb : m < b := by omega
  clear h hln hcf hs hm hma
  go_enter Try.func34, Try.ntmps34
  go_wp2
  go_loopw [14, 15] (fun u v wr => ∃ i j : Nat, a ≤ i ∧ i ≤ j ∧ j ≤ m ∧ u = .int .i64 i ∧ v = .int .i64 j ∧ Hid (∀ h, a ≤ h → h < i → leK (kAt d h) (kAt d m)) ∧ Hid (∀ h, j ≤ h → h < m → sLt (kAt d m) (kAt d h) = true) ∧ Hid (Kee w g ex d a b d wr)) (fun u v _ => (intOf v).toNat - (intOf u).toNat)
  case atStart => exact ⟨a, m, Nat.le_refl _, by omega, Nat.le_refl _, rfl, rfl, hide (fun h h1 h2 => by omega), hide (fun h h1 h2 => by omega), HK0⟩
  case round =>
    obtain ⟨i, j, hmi, hij, hjb, rfl, rfl, H1, H2, HK⟩ := hrel
    have hlen := HLN.out
    by_cases hlt : i < j
    · obtain ⟨c, hc⟩ : ∃ c, c = (i + j) / 2 := ⟨_, rfl⟩
      have hci : i ≤ c := by omega
      have hcj : c < j := by omega
      obtain ⟨xc, hxc⟩ : ∃ x, d[c]? = some x := ⟨d[c]'(by omega), List.getElem?_eq_getElem _⟩
      obtain ⟨xa, hxa⟩ : ∃ x, d[m]? = some x := ⟨d[m]'(by omega), List.getElem?_eq_getElem _⟩
      obtain ⟨j1, j2, j3⟩ := HK.out.ro.grown hxc
      obtain ⟨p1, p2, p3⟩ := HK.out.ro.grown hxa
      have HX := hide (And.intro (kAt_some hxc) (kAt_some hxa))
      have hcg : ∀ n os, Calls Try.prog cf #[aggE xa, aggE xc] (grow (wr.drewN n) os) fun e w' => e = .returned (.int .i64 (cmpS xa.k xc.k)) ∧ ∃ q os', w' = grow ((grow (wr.drewN n) os).drewN q) os' := fun n os => HC.out.gives xa xc _
      have HLE : Hid (cmpS xa.k xc.k < 0 ↔ sLt xa.k xc.k = true) := hide cmpS_lt
      obtain ⟨z, hz⟩ : ∃ z, z = cmpS xa.k xc.k := ⟨_, rfl⟩
      rw [← hz] at hcg HLE
      unfold aggE at hcg
      have g1 : c < ln := by omega
      have g2 : m < ln := by omega
      have e1 : ((i : Int) + (j : Int)) / 2 = (c : Int) := by omega
      have HG : Hid (∀ n os, Below wr.heap.size wr (grow (wr.drewN n) os)) := hide (fun n os => below_grown_sl _ wr n os (Nat.le_refl _))
      clear hxc hxa hz hlen hc
      by_cases hneg : z < 0
      · have hd : decide (z < 0) = true := decide_eq_true hneg
        have HN1 : Hid (∀ h, c ≤ h → h < m → sLt (kAt d m) (kAt d h) = true) := hide (fun t h1 h2 => by
          have hx : sLt (kAt d m) (kAt d c) = true := by rw [HX.out.1, HX.out.2]; exact HLE.out.1 hneg
          exact lt_leK hx (HS.out.le (by omega) h1 h2))
        go_wp2_with fail
        go_quiet_grown (first | (go_at_fn cf; refine Calls.grown_of (hcg _ _)))
        go_wp2
        go_roundw
        case rel => exact ⟨i, c, hmi, by omega, by omega, rfl, by simp, H1, HN1, hide (HK.out.grown (HG.out nq osq))⟩
        case measure => simp [intOf]; omega
      · have hd : decide (z < 0) = false := decide_eq_false hneg
        have HN2 : Hid (∀ h, a ≤ h → h < c + 1 → leK (kAt d h) (kAt d m)) := hide (fun t h1 h2 => by
          have hx : leK (kAt d c) (kAt d m) := by
            rw [HX.out.1, HX.out.2]
            cases q : sLt xa.k xc.k with
            | false => exact q
            | true => exact absurd (HLE.out.2 q) hneg
          exact leK_trans (HS.out.le h1 (by omega) (by omega)) hx)
        go_wp2_with fail
        go_quiet_grown (first | (go_at_fn cf; refine Calls.grown_of (hcg _ _)))
        go_wp2
        go_roundw
        case rel => exact ⟨c + 1, j, by omega, by omega, hjb, by simp, rfl, HN2, H2, hide (HK.out.grown (HG.out nq osq))⟩
        case measure => simp [intOf]; omega
    · obtain rfl : i = j := by omega
      obtain ⟨w2, rfl⟩ : ∃ w2, w2 = wr := ⟨_, rfl⟩
      clear hlen
      go_wp2
      go_loopw [17] (fun v wr => ∃ (k : Nat) (d' : List Ed), i ≤ k ∧ k ≤ m ∧ v = .int .i64 k ∧ Hid (Kee w g ex d a b d' wr ∧ MvL d d' m k)) (fun v _ => (intOf v).toNat)
      case atStart => exact ⟨m, d, hjb, Nat.le_refl _, rfl, hide ⟨HK.out, fun t => by rw [if_neg (by omega)]; split <;> simp_all⟩⟩
      case round =>
        obtain ⟨k, d', hak, hki, rfl, HK3⟩ := hrel
        have hlen := HLN.out
        have hl3 := HK3.out.1.len
        by_cases hkl : i < k
        · obtain ⟨k1, hk1⟩ : ∃ k1, k1 = k - 1 := ⟨_, rfl⟩
          obtain ⟨x, y, S1, S2, sw⟩ := (HK3.out.1.ro.drew).swap (i := k) (j := k1) (by omega) (by omega)
          obtain ⟨l1, l2, l3, l4, s1, s2, s3, s4, ro, on⟩ := sw
          have HF : Hid (Kee w g ex d a b (swL d' k k1) S2 ∧ MvL d (swL d' k k1) m k1) := by
            obtain rfl : k = k1 + 1 := by omega
            have hne : kAt d' k1 ≠ kAt d' (k1 + 1) := by
              rw [HK3.out.2 k1, HK3.out.2 (k1 + 1), if_neg (by omega), if_neg (by omega), if_neg (by omega), if_pos rfl]
              exact fun q => neK_lt (H2.out k1 (by omega) (by omega)) q.symm
            exact hide ⟨HK3.out.1.swap ro ((Onl.refl _ wr).drew.trans on) (by omega) (by omega) (by omega) hne, HK3.out.2.step hki (by omega)⟩
          have wk : IntKind.i64.wrap ((k : Int) - 1) = (k1 : Int) := by rw [IntKind.wrap_i64]; omega
          have wk2 : (k : Int) - 1 = (k1 : Int) := by omega
          have wk3 : IntKind.i64.wrap (k1 : Int) = (k1 : Int) := by rw [IntKind.wrap_i64]; omega
          have hd : decide ((i : Int) < (k : Int)) = true := decide_eq_true (by omega)
          have g1 : k < ln := by omega
          have g2 : k1 < ln := by omega
          have HK1 := hide hk1
          unfold aggE at l2 l4 s1 s2 s3 s4
          clear ro on hlen hl3 hk1 HK3
          go_wp2
          go_region
          go_wp2
          go_roundw
          case rel => exact ⟨k1, _, by have := HK1.out; omega, by have := HK1.out; omega, by simp, HF⟩
          case measure => have := HK1.out; simp [intOf]; omega
        · obtain rfl : k = i := by omega
          have hd : decide ((k : Int) < (k : Int)) = false := decide_eq_false (by omega)
          have HF : Hid (InP w g ex d a b (.returned (.tuple #[])) wr) := by
            refine hide (SoP.kee HK3.out.1 ?_)
            have hm := HM.out
            subst hm
            exact HK3.out.2.done hmi hki HS.out H1.out H2.out
          clear hlen hl3
          go_wp2
          go_end0
          exact HF.out
end Go.Proofs.Ytbegiiihkmloiaa
