/- What leb.total and leb.Put answer, over the translation. -/
import Derived.Test.YtapomhpahdmekaaLSz
import Derived.Test.YtapomhpahdmekaaGPu
namespace Go.Proofs.Ytapomhpahdmekaa
open Go.RowKit Apo

set_option maxRecDepth 100000 in
set_option maxHeartbeats 400000 in
theorem total_any (a : Option Addr) (cap : Nat) (l : List Int) (w : World) (hr : Rd .u64 w a l) (hu : InU l) (hl : l.length ≤ 1099511627776) :
    Calls Try.prog 40 #[.slice a l.length cap] w fun e w' => e = .returned (.int .i64 ((encs l).length : Nat)) ∧ w = w' := by
  have hN : Hid (∀ k, (encs (l.take k)).length ≤ 10 * l.length) := by
    intro k
    have h1 := (encs_len (l.take k)).2
    have h2 : (l.take k).length ≤ l.length := by simp; omega
    omega
  have hR : Hid (Rd .u64 w a l) := hr
  clear hr
  go_enter Try.func40, Try.ntmps40
  go_wp2
  go_loop [3, 8] (fun t i => ∃ k : Nat, k ≤ l.length ∧ i = .int .i64 k ∧ t = .int .i64 ((encs (l.take k)).length : Nat)) (fun _ i => l.length - (intOf i).toNat)
  case atStart => exact ⟨0, Nat.zero_le _, rfl, rfl⟩
  case round =>
    obtain ⟨k, hk, rfl, rfl⟩ := hrel
    by_cases hlt : k < l.length
    · obtain ⟨b, off, z, rfl, hc, hz, hm⟩ := hR.out.at hlt
      have hzb := hu z hm
      have hzl := enc_len z.toNat
      have hT := hN.out k
      have HS : Hid ((encs (l.take (k + 1))).length = (encs (l.take k)).length + (enc z.toNat).length) := by
        show _ = _
        rw [encs_take hz.out, List.length_append]
      clear hm
      generalize (encs (l.take k)).length = T at *
      go_wp2_with (go_at_call 42; refine (size_any _ _ (by omega) (by omega)).mono ?_; rintro e w' ⟨rfl, rfl⟩)
      go_round
      case rel => exact ⟨k + 1, by omega, by go_num, by rw [HS.out]; go_num⟩
      case measure => simp [intOf]; omega
    · go_wp2
      go_ret
      exact ⟨ret_int (by rw [List.take_of_length_le (by omega)]), rfl⟩

set_option maxRecDepth 100000 in
theorem infoU8 : (Try.prog.info? 5).map (fun i => (i.zero, i.size, i.bytes)) = some (some (.int .u8 0), 1, 1) := by kernel_rfl

set_option maxRecDepth 100000 in
/-- one number more, byte by byte -/
theorem or128 (m : Int) (h0 : 0 ≤ m) : bits .or .u8 (m % 256) 128 = m % 128 + 128 := by
  obtain ⟨n, rfl⟩ := Int.eq_ofNat_of_zero_le h0
  have e : ((n : Int) % 256) = ((n % 256 : Nat) : Int) := by omega
  have e2 := u8_or_nat (n % 256) 128 (by omega) (by omega)
  have e3 : (n % 256 ||| 128) = n % 128 + 128 := by
    have : ∀ q : Fin 256, (q.1 ||| 128) = q.1 % 128 + 128 := by decide +kernel
    have := this ⟨n % 256, by omega⟩
    simp only at this
    rw [this]; omega
  rw [e3] at e2
  rw [e]
  exact e2.trans (by omega)

set_option maxRecDepth 100000 in
/-- the bytes go on: one byte of a number is laid, the rest of it is still to come -/
theorem put_step {m : Int} {cur all : List Int} (h0 : 128 ≤ m) (h1 : m ≤ 18446744073709551615) (h : cur ++ enc m.toNat = all) : (cur ++ [m % 128 + 128]) ++ enc (m / 128).toNat = all := by
  have e := enc_ge (n := m.toNat) (by omega) (by unfold top; omega)
  have e2 : (m / 128).toNat = m.toNat / 128 := by omega
  have e3 : ((m.toNat % 128 + 128 : Nat) : Int) = m % 128 + 128 := by omega
  rw [← h, e, e2, e3]
  simp

set_option maxRecDepth 100000 in
set_option maxHeartbeats 1000000 in
theorem lput_any (a0 : Option Addr) (cap0 : Nat) (l0 : List Int) (a : Option Addr) (cap : Nat) (l : List Int) (w : World) (hr0 : Rd .u8 w a0 l0) (hn0 : a0 = none → cap0 = 0) (hr : Rd .u64 w a l) (hu : InU l)
    (hl0 : l0.length ≤ 1099511627776) (hl : l.length ≤ 1099511627776) :
    Calls Try.prog 34 #[.slice a0 l0.length cap0, .slice a l.length cap] w fun e w' => ∃ v, e = .returned v ∧ w'.ownsRow w.heap.size 5 1 v (l0 ++ encs l).length ((l0 ++ encs l).map (Value.int .u8)) ∧ Below w.heap.size w w' := by
  obtain ⟨i0, hi, hz0, hz1, hz2⟩ := info_parts infoU8
  have hT := encs_len l
  have hTk : Hid (∀ k, (l0 ++ encs (l.take k)).length ≤ l0.length + 10 * l.length) := by
    intro k
    have h1 := (encs_len (l.take k)).2
    have h2 : (l.take k).length ≤ l.length := by simp; omega
    rw [List.length_append]
    omega
  have hR : Hid (Rd .u64 w a l) := hr
  have hR0 : Hid (Rd .u8 w a0 l0) := hr0
  clear hr hr0
  have hnone : Hid (a0 = none → l0.length = 0 ∧ cap0 = 0) := by
    intro h
    refine ⟨?_, hn0 h⟩
    rcases Nat.eq_zero_or_pos l0.length with h' | h'
    · exact h'
    · obtain ⟨_, _, e, _⟩ := hR0.out 0 h'
      rw [h] at e; cases e
  clear hn0
  go_enter Try.func34, Try.ntmps34
  go_wp2_with (first | (go_at_call 40; refine (total_any _ _ _ _ hR.out hu hl).mono ?_; rintro e w' ⟨rfl, rfl⟩) | (at_make; refine wpList_make_own _ rfl _ _ 26 rfl w.heap.size 5 i0 (.int .u8 0) 1 Try.underlying26 hi hz0 hz1 _ _ _ (l0.length + (encs l).length) rfl rfl (by omega) (by rw [hz2]; omega) (by unfold maxLen; omega) (Nat.le_refl _) ?_; intro w1 hown1 hgrow1; have hb1 : Below w.heap.size w w1 := (Below.refl _ _).grown hgrow1 (Nat.le_refl _) (by intro k hk; cases hk); have hs1 := hgrow1.size) | (at_builtin; refine wpList_append_fits_any _ rfl _ _ 26 rfl w.heap.size 5 i0 1 Try.underlying26 hi hz1 w.heap.size 0 (l0.length + (encs l).length) [] rfl hown1 a0 l0.length cap0 (l0.map (Value.int .u8)) rfl (by simp) hnone.out (fun ad had => by subst had; exact (hR0.out.below hb1).news) (ints_oneCell _ _) (by omega) ?_))
  intro w2 hown2 hgrow2
  have hb2 : Below w.heap.size w w2 := hb1.grown hgrow2 hs1 (by intro k hk; simp at hk; omega)
  clear hown1 hgrow1 hgrow2 hb1 hs1 hnone
  go_wp2
  go_loopw [5, 19] (fun v i wr => ∃ k : Nat, k ≤ l.length ∧ i = .int .i64 k ∧ wr.ownsRow w.heap.size 5 1 v (l0 ++ encs (l.take k)).length ((l0 ++ encs (l.take k)).map (Value.int .u8)) ∧ Below w.heap.size w wr) (fun _ i _ => l.length - (intOf i).toNat)
  case atStart => exact ⟨0, Nat.zero_le _, rfl, by simpa [encs] using hown2, hb2⟩
  case round =>
    obtain ⟨k, hk, rfl, hown, hbr⟩ := hrel
    by_cases hlt : k < l.length
    · obtain ⟨b, off, z, rfl, hc0, hz, hm⟩ := hR.out.at hlt
      have hc : wr.cell? ⟨b, off + k, none⟩ = some (.int .u64 z) := (hbr.cell (by exact World.block_lt_of_cell? _ _ hc0)).trans hc0
      have hzb := hu z hm
      have HS : Hid (l0 ++ encs (l.take k) ++ enc z.toNat = l0 ++ encs (l.take (k + 1))) := by
        show _ = _
        rw [encs_take hz.out, List.append_assoc]
      have hT1 := hTk.out (k + 1)
      clear hm hc0 hz
      go_wp2
      go_loopw [5, 7] (fun v t wi => ∃ m : Int, 0 ≤ m ∧ m ≤ 18446744073709551615 ∧ t = .int .u64 m ∧ ∃ cur : List Int, wi.ownsRow w.heap.size 5 1 v cur.length (cur.map (Value.int .u8)) ∧ Hid (cur ++ enc m.toNat = l0 ++ encs (l.take (k + 1))) ∧ Below w.heap.size w wi) (fun _ t _ => (intOf t).toNat)
      case atStart => exact ⟨z, hzb.1, hzb.2, rfl, _, hown, HS, hbr⟩
      case round =>
        clear hown hbr hc
        obtain ⟨m, hm0, hm1, rfl, cur, hown, hC, hbr⟩ := hrel
        have hcl : cur.length + 1 ≤ l0.length + 10 * l.length := by
          have e := congrArg List.length hC.out
          have := enc_len m.toNat
          rw [List.length_append] at e
          omega
        by_cases hge : 128 ≤ m
        · have hor := or128 m hm0
          have hsz := hbr.size
          go_wp2_with (at_builtin; refine wpList_append_own _ rfl _ _ 26 rfl w.heap.size 5 i0 (.int .u8 0) 1 1 Try.underlying26 hi hz0 hz1 hz2 rfl (by decide) _ cur.length (cur.map (Value.int .u8)) rfl (hown.alloc _) ⟨wr.heap.size, 0, none⟩ 1 1 [.int .u8 (m % 128 + 128)] rfl rfl (cell_one_new _ _ _) (ints_oneCell _ [m % 128 + 128]) (by unfold maxLen; omega) (by omega) (by simp; omega) ?_)
          intro v3 w3 hown3 hgrow3 _
          have hb3 : Below w.heap.size w w3 := (hbr.alloc hsz _).grown hgrow3 (by simp; omega) (fun q hq => (hown.lt q hq).1)
          have P3 := put_step hge hm1 hC.out
          have HO : Hid (w3.ownsRow w.heap.size 5 1 v3 (cur ++ [m % 128 + 128]).length ((cur ++ [m % 128 + 128]).map (Value.int .u8))) := by
            show World.ownsRow _ _ _ _ _ _ _
            simpa using hown3
          have HP : Hid ((cur ++ [m % 128 + 128]) ++ enc (m / 128).toNat = l0 ++ encs (l.take (k + 1))) := P3
          clear hown3 hgrow3 hown hC hbr P3 hor
          go_wp2
          go_roundw
          case rel => exact ⟨m / 128, by omega, by omega, rfl, cur ++ [m % 128 + 128], HO, HP, hb3⟩
          case measure => simp [intOf]; omega
        · have hsz := hbr.size
          have hmm : m % 256 = m := by omega
          go_wp2_with (at_builtin; refine wpList_append_own _ rfl _ _ 26 rfl w.heap.size 5 i0 (.int .u8 0) 1 1 Try.underlying26 hi hz0 hz1 hz2 rfl (by decide) _ cur.length (cur.map (Value.int .u8)) rfl (hown.alloc _) ⟨wr.heap.size, 0, none⟩ 1 1 [.int .u8 m] rfl rfl (cell_one_new _ _ _) (ints_oneCell _ [m]) (by unfold maxLen; omega) (by omega) (by simp; omega) ?_)
          intro v3 w3 hown3 hgrow3 _
          have hb3 : Below w.heap.size w w3 := (hbr.alloc hsz _).grown hgrow3 (by simp; omega) (fun q hq => (hown.lt q hq).1)
          have HE : Hid (cur ++ [m] = l0 ++ encs (l.take (k + 1))) := by
            have h := hC.out
            rw [enc_one hm0 (by omega)] at h
            exact h
          have HO : Hid (w3.ownsRow w.heap.size 5 1 v3 (l0 ++ encs (l.take (k + 1))).length ((l0 ++ encs (l.take (k + 1))).map (Value.int .u8))) := by
            show World.ownsRow _ _ _ _ _ _ _
            rw [← HE.out]
            simpa using hown3
          clear hown3 hgrow3 hown hC hbr hmm
          go_wp2
          go_roundw
          case rel => exact ⟨k + 1, by omega, by go_num, HO, hb3⟩
          case measure => simp [intOf]; omega
    · go_wp2
      go_ret
      rw [List.take_of_length_le (by omega)] at hown
      exact ⟨_, rfl, hown, hbr⟩
end Go.Proofs.Ytapomhpahdmekaa
