/- What leb.Size, leb.total and leb.mayEnd answer, over the translation: the length of a number's bytes, of many numbers' bytes, and whether a last byte may stand at a place. What leb.total and leb.Put answer, over the translation. What leb.Of answers, over the translation: the number with which bytes begin, or that there is none. -/
import Derived.WalkKit
import Derived.WalkSpells
import Derived.WalkLawsBesides
import Derived.Test.YtgjhmpmjbedjoaaRows
import Derived.Test.YtgjhmpmjbedjoaaQGPu
namespace Go.Proofs.Ytgjhmpmjbedjoaa
open Go.RowKit

theorem ret_int {k : IntKind} {a b : Int} (h : a = b) : Ending.returned (.int k a) = .returned (.int k b) := by rw [h]

theorem enc_down {m : Int} {s N : Nat} (h0 : 128 ≤ m) (h1 : m ≤ 18446744073709551615) (h : s + (Apo.enc m.toNat).length = N) :
    s + 1 + (Apo.enc (m / 128).toNat).length = N := by
  have e := Apo.enc_ge (n := m.toNat) (by omega) (by unfold Apo.top; omega)
  have e2 : (m / 128).toNat = m.toNat / 128 := by omega
  rw [e] at h
  rw [e2]
  simp only [List.length_cons] at h
  omega

theorem enc_one {m : Int} (h0 : 0 ≤ m) (h1 : m < 128) : Apo.enc m.toNat = [m] := by
  rw [Apo.enc_lt (by omega)]
  rw [Int.toNat_of_nonneg h0]

set_option maxHeartbeats 400000 in
theorem size_any (n : Int) (w : World) (h0 : 0 ≤ n) (h1 : n ≤ 18446744073709551615) :
    Calls Try.prog 80 #[.int .u64 n] w fun e w' => e = .returned (.int .i64 ((Apo.enc n.toNat).length : Nat)) ∧ w = w' := by
  have hl := Apo.enc_len n.toNat
  generalize hN : (Apo.enc n.toNat).length = N at *
  have HN : Hid ((Apo.enc n.toNat).length = N) := hN
  clear hN
  go_enter Try.func80, Try.ntmps80
  go_wp2
  go_loop [0, 3] (fun x t => ∃ m : Int, 0 ≤ m ∧ m ≤ 18446744073709551615 ∧ ∃ s : Nat, s ≤ 10 ∧ x = .int .u64 m ∧ t = .int .i64 s ∧ Hid (s + (Apo.enc m.toNat).length = N + 1)) (fun x _ => (intOf x).toNat)
  case atStart => exact ⟨n, h0, h1, 1, by omega, rfl, rfl, by have := HN.out; show 1 + _ = N + 1; omega⟩
  case round =>
    obtain ⟨m, hm0, hm1, s, hs, rfl, rfl, hc⟩ := hrel
    by_cases hlt : 128 ≤ m
    · go_wp2
      go_round
      case rel =>
        have d := enc_down hlt hm1 hc.out
        have l := Apo.enc_len (m / 128).toNat
        exact ⟨m / 128, by omega, by omega, s + 1, by omega, rfl, by go_num, d⟩
      case measure => simp [intOf]; omega
    · go_wp2
      go_ret
      have d := hc.out
      rw [enc_one hm0 (by omega)] at d
      simp only [List.length_cons, List.length_nil] at d
      exact ⟨ret_int (by omega), rfl⟩

set_option maxHeartbeats 400000 in
theorem mayEnd_any (c i : Int) (w : World) (h0 : 0 ≤ c) (h1 : c ≤ 255) (h2 : 0 ≤ i) (h3 : i ≤ 9) :
    Calls Try.prog 81 #[.int .u8 c, .int .i64 i] w fun e w' => e = .returned (.bool (decide ((i = 9 ∧ c = 1) ∨ (i ≠ 9 ∧ (c ≠ 0 ∨ i = 0))))) ∧ w = w' := by
  by_cases hi : i = 9
  · subst hi
    by_cases hc : c = 1
    · subst hc
      go_enter Try.func81, Try.ntmps81
      go_wp2
      go_ret
      exact ⟨rfl, rfl⟩
    · have hb : (c == 1) = false := by simpa using hc
      have hd : decide (((9 : Int) = 9 ∧ c = 1) ∨ ((9 : Int) ≠ 9 ∧ (c ≠ 0 ∨ (9 : Int) = 0))) = false := by simp [hc]
      rw [hd]
      go_enter Try.func81, Try.ntmps81
      go_wp2
      go_ret
      exact ⟨rfl, rfl⟩
  · have hb : (i == 9) = false := by simpa using hi
    by_cases hc : c = 0
    · subst hc
      by_cases hz : i = 0
      · subst hz
        go_enter Try.func81, Try.ntmps81
        go_wp2
        go_ret
        exact ⟨rfl, rfl⟩
      · have hb2 : (i == 0) = false := by simpa using hz
        have hd : decide ((i = 9 ∧ (0 : Int) = 1) ∨ (i ≠ 9 ∧ ((0 : Int) ≠ 0 ∨ i = 0))) = false := by simp [hz]
        rw [hd]
        go_enter Try.func81, Try.ntmps81
        go_wp2
        go_ret
        exact ⟨rfl, rfl⟩
    · have hb2 : (c != 0) = true := by simpa using hc
      have hd : decide ((i = 9 ∧ c = 1) ∨ (i ≠ 9 ∧ (c ≠ 0 ∨ i = 0))) = true := by simp [hc, hi]
      rw [hd]
      go_enter Try.func81, Try.ntmps81
      go_wp2
      go_ret
      exact ⟨rfl, rfl⟩

end Go.Proofs.Ytgjhmpmjbedjoaa
namespace Go.Proofs.Ytgjhmpmjbedjoaa
open Go.RowKit Apo

set_option maxRecDepth 100000 in
set_option maxHeartbeats 400000 in
theorem total_any (a : Option Addr) (cap : Nat) (l : List Int) (w : World) (hr : Rd .u64 w a l) (hu : InU l) (hl : l.length ≤ 1099511627776) :
    Calls Try.prog 70 #[.slice a l.length cap] w fun e w' => e = .returned (.int .i64 ((encs l).length : Nat)) ∧ w = w' := by
  have hN : Hid (∀ k, (encs (l.take k)).length ≤ 10 * l.length) := by
    intro k
    have h1 := (encs_len (l.take k)).2
    have h2 : (l.take k).length ≤ l.length := by simp; omega
    omega
  have hR : Hid (Rd .u64 w a l) := hr
  clear hr
  go_enter Try.func70, Try.ntmps70
  go_wp2
  go_loop [3, 8] (fun t i => ∃ k : Nat, k ≤ l.length ∧ i = .int .i64 k ∧ t = .int .i64 ((encs (l.take k)).length : Nat)) (fun _ i => l.length - (intOf i).toNat)
  case atStart => exact ⟨0, Nat.zero_le _, rfl, rfl⟩
  case round =>
    obtain ⟨k, hk, rfl, rfl⟩ := hrel
    by_cases hlt : k < l.length
    · obtain ⟨b, off, z, rfl, hc, hz, hm⟩ := hR.out.at hlt
      have hzb := hu z hm
      have hzl := enc_len z.toNat
      have hT := hN.out k
      have HS : Hid ((encs (l.take (k + 1))).length = (encs (l.take k)).length + (enc z.toNat).length) := by
        show _ = _
        rw [encs_take hz.out, List.length_append]
      clear hm
      generalize (encs (l.take k)).length = T at *
      go_wp2_with (go_at_call 80; refine (size_any _ _ (by omega) (by omega)).mono ?_; rintro e w' ⟨rfl, rfl⟩)
      go_round
      case rel => exact ⟨k + 1, by omega, by go_num, by rw [HS.out]; go_num⟩
      case measure => simp [intOf]; omega
    · go_wp2
      go_ret
      exact ⟨ret_int (by rw [List.take_of_length_le (by omega)]), rfl⟩

set_option maxRecDepth 100000 in
theorem infoU8 : (Try.prog.info? 5).map (fun i => (i.zero, i.size, i.bytes)) = some (some (.int .u8 0), 1, 1) := by kernel_rfl

set_option maxRecDepth 100000 in
/-- one number more, byte by byte -/
theorem or128 (m : Int) (h0 : 0 ≤ m) : bits .or .u8 (m % 256) 128 = m % 128 + 128 := by
  obtain ⟨n, rfl⟩ := Int.eq_ofNat_of_zero_le h0
  have e : ((n : Int) % 256) = ((n % 256 : Nat) : Int) := by omega
  have e2 := u8_or_nat (n % 256) 128 (by omega) (by omega)
  have e3 : (n % 256 ||| 128) = n % 128 + 128 := by
    have : ∀ q : Fin 256, (q.1 ||| 128) = q.1 % 128 + 128 := by decide +kernel
    have := this ⟨n % 256, by omega⟩
    simp only at this
    rw [this]; omega
  rw [e3] at e2
  rw [e]
  exact e2.trans (by omega)

set_option maxRecDepth 100000 in
/-- the bytes go on: one byte of a number is laid, the rest of it is still to come -/
theorem put_step {m : Int} {cur all : List Int} (h0 : 128 ≤ m) (h1 : m ≤ 18446744073709551615) (h : cur ++ enc m.toNat = all) : (cur ++ [m % 128 + 128]) ++ enc (m / 128).toNat = all := by
  have e := enc_ge (n := m.toNat) (by omega) (by unfold top; omega)
  have e2 : (m / 128).toNat = m.toNat / 128 := by omega
  have e3 : ((m.toNat % 128 + 128 : Nat) : Int) = m % 128 + 128 := by omega
  rw [← h, e, e2, e3]
  simp

set_option maxRecDepth 100000 in
set_option maxHeartbeats 1000000 in
theorem lput_any (a0 : Option Addr) (cap0 : Nat) (l0 : List Int) (a : Option Addr) (cap : Nat) (l : List Int) (w : World) (hr0 : Rd .u8 w a0 l0) (hn0 : a0 = none → cap0 = 0) (hr : Rd .u64 w a l) (hu : InU l)
    (hl0 : l0.length ≤ 1099511627776) (hl : l.length ≤ 1099511627776) :
    Calls Try.prog 51 #[.slice a0 l0.length cap0, .slice a l.length cap] w fun e w' => ∃ v, e = .returned v ∧ w'.ownsRow w.heap.size 5 1 v (l0 ++ encs l).length ((l0 ++ encs l).map (Value.int .u8)) ∧ Below w.heap.size w w' := by
  obtain ⟨i0, hi, hz0, hz1, hz2⟩ := info_parts infoU8
  have hT := encs_len l
  have hTk : Hid (∀ k, (l0 ++ encs (l.take k)).length ≤ l0.length + 10 * l.length) := by
    intro k
    have h1 := (encs_len (l.take k)).2
    have h2 : (l.take k).length ≤ l.length := by simp; omega
    rw [List.length_append]
    omega
  have hR : Hid (Rd .u64 w a l) := hr
  have hR0 : Hid (Rd .u8 w a0 l0) := hr0
  clear hr hr0
  have hnone : Hid (a0 = none → l0.length = 0 ∧ cap0 = 0) := by
    intro h
    refine ⟨?_, hn0 h⟩
    rcases Nat.eq_zero_or_pos l0.length with h' | h'
    · exact h'
    · obtain ⟨_, _, e, _⟩ := hR0.out 0 h'
      rw [h] at e; cases e
  clear hn0
  go_enter Try.func51, Try.ntmps51
  go_wp2_with (first | (go_at_call 70; refine (total_any _ _ _ _ hR.out hu hl).mono ?_; rintro e w' ⟨rfl, rfl⟩) | (at_make; refine wpList_make_own _ rfl _ _ 30 rfl w.heap.size 5 i0 (.int .u8 0) 1 Try.underlying30 hi hz0 hz1 _ _ _ (l0.length + (encs l).length) rfl rfl (by omega) (by rw [hz2]; omega) (by unfold maxLen; omega) (Nat.le_refl _) ?_; intro w1 hown1 hgrow1; have hb1 : Below w.heap.size w w1 := (Below.refl _ _).grown hgrow1 (Nat.le_refl _) (by intro k hk; cases hk); have hs1 := hgrow1.size) | (at_builtin; refine wpList_append_fits_any _ rfl _ _ 30 rfl w.heap.size 5 i0 1 Try.underlying30 hi hz1 w.heap.size 0 (l0.length + (encs l).length) [] rfl hown1 a0 l0.length cap0 (l0.map (Value.int .u8)) rfl (by simp) hnone.out (fun ad had => by subst had; exact (hR0.out.below hb1).news) (ints_oneCell _ _) (by omega) ?_))
  intro w2 hown2 hgrow2
  have hb2 : Below w.heap.size w w2 := hb1.grown hgrow2 hs1 (by intro k hk; simp at hk; omega)
  clear hown1 hgrow1 hgrow2 hb1 hs1 hnone
  go_wp2
  go_loopw [5, 19] (fun v i wr => ∃ k : Nat, k ≤ l.length ∧ i = .int .i64 k ∧ wr.ownsRow w.heap.size 5 1 v (l0 ++ encs (l.take k)).length ((l0 ++ encs (l.take k)).map (Value.int .u8)) ∧ Below w.heap.size w wr) (fun _ i _ => l.length - (intOf i).toNat)
  case atStart => exact ⟨0, Nat.zero_le _, rfl, by simpa [encs] using hown2, hb2⟩
  case round =>
    obtain ⟨k, hk, rfl, hown, hbr⟩ := hrel
    by_cases hlt : k < l.length
    · obtain ⟨b, off, z, rfl, hc0, hz, hm⟩ := hR.out.at hlt
      have hc : wr.cell? ⟨b, off + k, none⟩ = some (.int .u64 z) := (hbr.cell (by exact World.block_lt_of_cell? _ _ hc0)).trans hc0
      have hzb := hu z hm
      have HS : Hid (l0 ++ encs (l.take k) ++ enc z.toNat = l0 ++ encs (l.take (k + 1))) := by
        show _ = _
        rw [encs_take hz.out, List.append_assoc]
      have hT1 := hTk.out (k + 1)
      clear hm hc0 hz
      go_wp2
      go_loopw [5, 7] (fun v t wi => ∃ m : Int, 0 ≤ m ∧ m ≤ 18446744073709551615 ∧ t = .int .u64 m ∧ ∃ cur : List Int, wi.ownsRow w.heap.size 5 1 v cur.length (cur.map (Value.int .u8)) ∧ Hid (cur ++ enc m.toNat = l0 ++ encs (l.take (k + 1))) ∧ Below w.heap.size w wi) (fun _ t _ => (intOf t).toNat)
      case atStart => exact ⟨z, hzb.1, hzb.2, rfl, _, hown, HS, hbr⟩
      case round =>
        clear hown hbr hc
        obtain ⟨m, hm0, hm1, rfl, cur, hown, hC, hbr⟩ := hrel
        have hcl : cur.length + 1 ≤ l0.length + 10 * l.length := by
          have e := congrArg List.length hC.out
          have := enc_len m.toNat
          rw [List.length_append] at e
          omega
        by_cases hge : 128 ≤ m
        · have hor := or128 m hm0
          have hsz := hbr.size
          go_wp2_with (at_builtin; refine wpList_append_own _ rfl _ _ 30 rfl w.heap.size 5 i0 (.int .u8 0) 1 1 Try.underlying30 hi hz0 hz1 hz2 rfl (by decide) _ cur.length (cur.map (Value.int .u8)) rfl (hown.alloc _) ⟨wr.heap.size, 0, none⟩ 1 1 [.int .u8 (m % 128 + 128)] rfl rfl (cell_one_new _ _ _) (ints_oneCell _ [m % 128 + 128]) (by unfold maxLen; omega) (by omega) (by simp; omega) ?_)
          intro v3 w3 hown3 hgrow3 _
          have hb3 : Below w.heap.size w w3 := (hbr.alloc hsz _).grown hgrow3 (by simp; omega) (fun q hq => (hown.lt q hq).1)
          have P3 := put_step hge hm1 hC.out
          have HO : Hid (w3.ownsRow w.heap.size 5 1 v3 (cur ++ [m % 128 + 128]).length ((cur ++ [m % 128 + 128]).map (Value.int .u8))) := by
            show World.ownsRow _ _ _ _ _ _ _
            simpa using hown3
          have HP : Hid ((cur ++ [m % 128 + 128]) ++ enc (m / 128).toNat = l0 ++ encs (l.take (k + 1))) := P3
          clear hown3 hgrow3 hown hC hbr P3 hor
          go_wp2
          go_roundw
          case rel => exact ⟨m / 128, by omega, by omega, rfl, cur ++ [m % 128 + 128], HO, HP, hb3⟩
          case measure => simp [intOf]; omega
        · have hsz := hbr.size
          have hmm : m % 256 = m := by omega
          go_wp2_with (at_builtin; refine wpList_append_own _ rfl _ _ 30 rfl w.heap.size 5 i0 (.int .u8 0) 1 1 Try.underlying30 hi hz0 hz1 hz2 rfl (by decide) _ cur.length (cur.map (Value.int .u8)) rfl (hown.alloc _) ⟨wr.heap.size, 0, none⟩ 1 1 [.int .u8 m] rfl rfl (cell_one_new _ _ _) (ints_oneCell _ [m]) (by unfold maxLen; omega) (by omega) (by simp; omega) ?_)
          intro v3 w3 hown3 hgrow3 _
          have hb3 : Below w.heap.size w w3 := (hbr.alloc hsz _).grown hgrow3 (by simp; omega) (fun q hq => (hown.lt q hq).1)
          have HE : Hid (cur ++ [m] = l0 ++ encs (l.take (k + 1))) := by
            have h := hC.out
            rw [enc_one hm0 (by omega)] at h
            exact h
          have HO : Hid (w3.ownsRow w.heap.size 5 1 v3 (l0 ++ encs (l.take (k + 1))).length ((l0 ++ encs (l.take (k + 1))).map (Value.int .u8))) := by
            show World.ownsRow _ _ _ _ _ _ _
            rw [← HE.out]
            simpa using hown3
          clear hown3 hgrow3 hown hC hbr hmm
          go_wp2
          go_roundw
          case rel => exact ⟨k + 1, by omega, by go_num, HO, hb3⟩
          case measure => simp [intOf]; omega
    · go_wp2
      go_ret
      rw [List.take_of_length_le (by omega)] at hown
      exact ⟨_, rfl, hown, hbr⟩
end Go.Proofs.Ytgjhmpmjbedjoaa
namespace Go.Proofs.Ytgjhmpmjbedjoaa
open Go.RowKit Apo

set_option maxRecDepth 100000 in
/-- the digits of a number, place by place -/
theorem enc_nth : ∀ (i n : Nat), n < top → i < (enc n).length →
    (i = 0 ∨ 1 ≤ n / 128 ^ i) ∧ (n / 128 ^ i < 128 → (enc n)[i]? = some ((n / 128 ^ i : Nat) : Int) ∧ (enc n).length = i + 1) ∧
    (128 ≤ n / 128 ^ i → (enc n)[i]? = some ((n / 128 ^ i % 128 + 128 : Nat) : Int) ∧ i + 1 < (enc n).length)
  | 0, n, hn, _ => by
    refine ⟨.inl rfl, fun h => ?_, fun h => ?_⟩
    · simp only [Nat.pow_zero, Nat.div_one] at h ⊢
      rw [enc_lt h]; simp
    · simp only [Nat.pow_zero, Nat.div_one] at h ⊢
      rw [enc_ge h hn]
      have := enc_len (n / 128)
      simp only [List.getElem?_cons_zero, List.length_cons, true_and]; omega
  | i + 1, n, hn, hi => by
    have hge : 128 ≤ n := by
      rcases Nat.lt_or_ge n 128 with h | h
      · rw [enc_lt h] at hi; simp at hi
      · exact h
    rw [enc_ge hge hn] at hi ⊢
    have ih := enc_nth i (n / 128) (by unfold top at *; omega) (by simpa using hi)
    have e : n / 128 ^ (i + 1) = n / 128 / 128 ^ i := by rw [Nat.pow_succ, Nat.div_div_eq_div_mul, Nat.mul_comm]
    rw [e]
    refine ⟨.inr ?_, fun h => ?_, fun h => ?_⟩
    · rcases ih.1 with h | h
      · subst h; simp only [Nat.pow_zero, Nat.div_one]; omega
      · exact h
    · have := ih.2.1 h
      simp only [List.getElem?_cons_succ, List.length_cons]
      exact ⟨this.1, by omega⟩
    · have := ih.2.2 h
      simp only [List.getElem?_cons_succ, List.length_cons]
      exact ⟨this.1, by omega⟩

set_option maxRecDepth 100000 in
theorem andNot128 {z : Int} (h0 : 0 ≤ z) (h1 : z ≤ 255) : bits .andNot .u8 z 128 = z % 128 := by
  obtain ⟨n, rfl⟩ := Int.eq_ofNat_of_zero_le h0
  have e2 := u8_andNot_nat n 128 (by omega) (by omega)
  have e3 : (n &&& (255 - 128)) = n % 128 := by
    have : ∀ q : Fin 256, (q.1 &&& (255 - 128)) = q.1 % 128 := by decide +kernel
    exact this ⟨n, by omega⟩
  rw [e3] at e2
  exact e2.trans (by omega)

set_option maxRecDepth 100000 in
theorem or_step {n k : Nat} {z A : Int} (hn : n < top) (h0 : 0 ≤ z) (h1 : z ≤ 255) (hA : A = ((n % 128 ^ k : Nat) : Int)) (hz : z % 128 = ((n / 128 ^ k % 128 : Nat) : Int)) :
    bits .or .u64 A (IntKind.u64.wrap (IntKind.u64.wrap (bits .andNot .u8 z 128) * 2 ^ (7 * k))) = ((n % 128 ^ (k + 1) : Nat) : Int) := by
  rw [andNot128 h0 h1, hz, hA]
  have hp : (128 : Nat) ^ k = 2 ^ (7 * k) := by rw [show (128 : Nat) = 2 ^ 7 from rfl, ← Nat.pow_mul]
  have hpi : ((2 : Int) ^ (7 * k)) = ((128 ^ k : Nat) : Int) := by rw [hp]; simp
  have hpos : 0 < 128 ^ k := Nat.pow_pos (by decide)
  rw [hpi]
  have hlt : n % 128 ^ k < 128 ^ k := Nat.mod_lt _ hpos
  have e1 : n % 128 ^ (k + 1) = n % 128 ^ k + 128 ^ k * (n / 128 ^ k % 128) := Nat.mod_pow_succ
  have hle : n % 128 ^ (k + 1) ≤ n := Nat.mod_le _ _
  generalize hd : n / 128 ^ k % 128 = d at *
  have hd128 : d < 128 := by omega
  have w1 : IntKind.u64.wrap (d : Int) = (d : Int) := by rw [IntKind.wrap_u64]; omega
  have e4 : (d : Int) * ((128 ^ k : Nat) : Int) = ((128 ^ k * d : Nat) : Int) := by rw [Nat.mul_comm]; simp
  rw [w1, e4]
  generalize hA2 : n % 128 ^ k = A2 at *
  have hlt2 : 128 ^ k * d < top := by omega
  have w2 : IntKind.u64.wrap ((128 ^ k * d : Nat) : Int) = ((128 ^ k * d : Nat) : Int) := by
    rw [IntKind.wrap_u64]; unfold top at hlt2; omega
  rw [w2, u64_or_nat _ _ (by unfold top at *; omega) (by unfold top at *; omega)]
  rw [e1]
  have e5 : A2 ||| 128 ^ k * d = A2 + 128 ^ k * d := by
    rw [hp] at hlt ⊢
    have := Nat.two_pow_add_eq_or_of_lt hlt d
    rw [Nat.or_comm, ← this, Nat.add_comm]
  rw [e5]

set_option maxRecDepth 100000 in
theorem ret3 {k1 k2 k3 : IntKind} {a b c a' b' c' : Int} (h1 : a = a') (h2 : b = b') (h3 : c = c') :
    Ending.returned (.tuple #[.int k1 a, .int k2 b, .int k3 c]) = .returned (.tuple #[.int k1 a', .int k2 b', .int k3 c']) := by rw [h1, h2, h3]

set_option maxRecDepth 100000 in
/-- what stands at place k of bytes that begin with a number's -/
theorem of_at {l r : List Int} {n k : Nat} {z : Int} (hn : n < top) (he : l = enc n ++ r) (hk : k < (enc n).length) (hz : l[k]? = some z) :
    0 ≤ z ∧ z ≤ 255 ∧ (k = 0 ∨ 1 ≤ n / 128 ^ k) ∧ z % 128 = ((n / 128 ^ k % 128 : Nat) : Int) ∧ (z < 128 → z = ((n / 128 ^ k : Nat) : Int) ∧ (enc n).length = k + 1 ∧ n % 128 ^ (k + 1) = n) ∧ (128 ≤ z → k + 1 < (enc n).length) := by
  have h := enc_nth k n hn hk
  have hzz : (enc n)[k]? = some z := by rw [he, List.getElem?_append_left hk] at hz; exact hz
  have hb := enc_byte hn z (List.mem_of_getElem? hzz)
  refine ⟨hb.1, hb.2, h.1, ?_, fun hlt => ?_, fun hge => ?_⟩
  · rcases Nat.lt_or_ge (n / 128 ^ k) 128 with hm | hm
    · have := (h.2.1 hm).1; rw [hzz] at this; cases this; omega
    · have := (h.2.2 hm).1; rw [hzz] at this; cases this; omega
  · rcases Nat.lt_or_ge (n / 128 ^ k) 128 with hm | hm
    · have h2 := (h.2.1 hm)
      have := h2.1; rw [hzz] at this; cases this
      refine ⟨rfl, h2.2, ?_⟩
      refine Nat.mod_eq_of_lt ?_
      rw [Nat.pow_succ]
      exact (Nat.div_lt_iff_lt_mul (Nat.pow_pos (by decide))).1 hm |> fun q => by rw [Nat.mul_comm] at q; exact q
    · have := (h.2.2 hm).1; rw [hzz] at this; cases this; omega
  · rcases Nat.lt_or_ge (n / 128 ^ k) 128 with hm | hm
    · have := (h.2.1 hm).1; rw [hzz] at this; cases this; omega
    · exact (h.2.2 hm).2

set_option maxRecDepth 100000 in
theorem of_nine {n k : Nat} (hn : n < top) (hk : k = 9) (h1 : 1 ≤ n / 128 ^ k) : n / 128 ^ k = 1 := by
  subst hk
  have : (128 : Nat) ^ 9 = 9223372036854775808 := by decide
  rw [this] at *
  unfold top at hn
  omega

set_option maxRecDepth 100000 in
set_option maxHeartbeats 400000 in
theorem of_yes (a : Option Addr) (cap : Nat) (l : List Int) (n : Nat) (r : List Int) (w : World) (hr : Rd .u8 w a l) (hn : n < top) (he : l = enc n ++ r) :
    Calls Try.prog 75 #[.slice a l.length cap] w fun e w' => e = .returned (.tuple #[.int .u64 n, .int .i64 ((enc n).length : Nat), .int .i64 0]) ∧ w = w' := by
  have hR : Hid (Rd .u8 w a l) := hr
  have HE : Hid (l = enc n ++ r) := he
  have hlen : (enc n).length ≤ l.length := by rw [he]; simp
  have hel := enc_len n
  clear hr he
  go_enter Try.func75, Try.ntmps75
  go_wp2
  go_loop [2, 5] (fun t i => ∃ k : Nat, k < (enc n).length ∧ i = .int .i64 k ∧ ∃ A : Int, Hid (A = ((n % 128 ^ k : Nat) : Int)) ∧ t = .int .u64 A) (fun _ i => 10 - (intOf i).toNat)
  case atStart => exact ⟨0, by omega, rfl, 0, by show (0 : Int) = _; simp [Nat.mod_one], rfl⟩
  case round =>
    obtain ⟨k, hk, rfl, A, hA, rfl⟩ := hrel
    obtain ⟨b, off, z, rfl, hc, hz, _⟩ := hR.out.at (i := k) (by omega)
    obtain ⟨z0, z1, hpos, hzm, hzs, hzc⟩ := of_at hn HE.out hk hz.out
    have HS : Hid (bits .or .u64 A (IntKind.u64.wrap (IntKind.u64.wrap (bits .andNot .u8 z 128) * 2 ^ (7 * k))) = ((n % 128 ^ (k + 1) : Nat) : Int)) := or_step hn z0 z1 hA.out hzm
    by_cases hge : 128 ≤ z
    · have hk1 := hzc hge
      clear hzs hzc hpos hzm hz
      go_wp2_with fail
      go_round
      case rel => exact ⟨k + 1, by omega, by go_num, _, HS, rfl⟩
      case measure => simp [intOf]; omega
    · have H3 : Hid (z = ((n / 128 ^ k : Nat) : Int) ∧ (enc n).length = k + 1 ∧ n % 128 ^ (k + 1) = n) := hzs (by omega)
      have hd : decide (((k : Int) = 9 ∧ z = 1) ∨ ((k : Int) ≠ 9 ∧ (z ≠ 0 ∨ (k : Int) = 0))) = true := by
        rw [decide_eq_true_iff]
        have h3 := H3.out
        by_cases h9 : k = 9
        · left
          have := of_nine hn h9 (by rcases hpos with h | h; · omega
                                    · exact h)
          omega
        · right
          refine ⟨by omega, ?_⟩
          rcases hpos with h | h
          · right; omega
          · left; omega
      clear hzs hzc hpos hzm hz
      go_wp2_with (go_at_call 81; refine (mayEnd_any z k _ (by omega) (by omega) (by omega) (by omega)).mono ?_; rintro e w' ⟨rfl, rfl⟩; rw [hd])
      go_ret3
      have h3 := H3.out
      exact ⟨ret3 (by rw [HS.out, h3.2.2]) (by omega) rfl, rfl⟩

/-- no number's bytes stand at the head -/
def NoNum (l : List Int) : Prop := ∀ n r, n < top → l ≠ enc n ++ r

def InB (l : List Int) : Prop := ∀ z ∈ l, 0 ≤ z ∧ z ≤ 255

set_option maxRecDepth 100000 in
theorem nonum_at {l : List Int} {k : Nat} {z : Int} (hb : InB l) (hno : NoNum l) (hk : k ≤ 9) (hz : l[k]? = some z) (hpre : ∀ x ∈ l.take k, 128 ≤ x) (hlt : z < 128) :
    decide (((k : Int) = 9 ∧ z = 1) ∨ ((k : Int) ≠ 9 ∧ (z ≠ 0 ∨ (k : Int) = 0))) = false := by
  rw [decide_eq_false_iff_not]
  intro h
  have hkl := (List.getElem?_eq_some_iff.1 hz).1
  have hz0 := hb z (List.mem_of_getElem? hz)
  have htl : (l.take k).length = k := by simp; omega
  obtain ⟨n, hn, e⟩ := canon (l.take k) z (fun x hx => ⟨hpre x hx, (hb x (List.mem_of_mem_take hx)).2⟩) hz0.1 hlt (by omega) (by omega) (by rw [htl]; omega)
  refine hno n (l.drop (k + 1)) hn ?_
  rw [e, ← take_snoc hz]
  exact (List.take_append_drop _ _).symm

set_option maxRecDepth 100000 in
set_option maxHeartbeats 400000 in
theorem of_no (a : Option Addr) (cap : Nat) (l : List Int) (w : World) (hr : Rd .u8 w a l) (hl : l.length ≤ 1099511627776) (hb : InB l) (hno : NoNum l) :
    Calls Try.prog 75 #[.slice a l.length cap] w fun e w' => e = .returned (.tuple #[.int .u64 0, .int .i64 0, .int .i64 20]) ∧ w = w' := by
  have hR : Hid (Rd .u8 w a l) := hr
  have hB : Hid (InB l) := hb
  have hN : Hid (NoNum l) := hno
  clear hr hb hno
  go_enter Try.func75, Try.ntmps75
  go_wp2
  go_loop [2, 5] (fun t i => ∃ k : Nat, k ≤ 10 ∧ k ≤ l.length ∧ i = .int .i64 k ∧ Hid (∀ x ∈ l.take k, 128 ≤ x) ∧ ∃ A : Int, t = .int .u64 A) (fun _ i => 10 - (intOf i).toNat)
  case atStart => exact ⟨0, by omega, by omega, rfl, by intro x hx; simp at hx, 0, rfl⟩
  case round =>
    obtain ⟨k, hk, hk2, rfl, hpre, A, rfl⟩ := hrel
    by_cases hlt : k < l.length
    · by_cases h10 : k < 10
      · obtain ⟨b, off, z, rfl, hc, hz, hm⟩ := hR.out.at hlt
        obtain ⟨z0, z1⟩ := hB.out z hm
        clear hm
        by_cases hge : 128 ≤ z
        · have hpre1 : Hid (∀ x ∈ l.take (k + 1), 128 ≤ x) := by
            intro x hx
            rw [take_snoc hz.out, List.mem_append, List.mem_singleton] at hx
            rcases hx with hx | hx
            · exact hpre.out x hx
            · omega
          clear hz hpre
          go_wp2_with fail
          go_round
          case rel => exact ⟨k + 1, by omega, by omega, by go_num, hpre1, _, rfl⟩
          case measure => simp [intOf]; omega
        · have hd := nonum_at hB.out hN.out (by omega) hz.out hpre.out (by omega)
          clear hz hpre
          go_wp2_with (go_at_call 81; refine (mayEnd_any z k _ (by omega) (by omega) (by omega) (by omega)).mono ?_; rintro e w' ⟨rfl, rfl⟩; rw [hd])
          go_ret3
          exact ⟨rfl, rfl⟩
      · go_wp2
        go_ret3
        exact ⟨rfl, rfl⟩
    · have hd : decide ((k : Int) < (l.length : Int)) = false := by simp; omega
      go_wp2
      go_ret3
      exact ⟨rfl, rfl⟩

end Go.Proofs.Ytgjhmpmjbedjoaa
