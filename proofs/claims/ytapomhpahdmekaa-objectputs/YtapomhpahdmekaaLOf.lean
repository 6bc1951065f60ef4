/- What leb.Of answers, over the translation: the number with which bytes begin, or that there is none. -/
import Derived.Test.YtapomhpahdmekaaLPt
namespace Go.Proofs.Ytapomhpahdmekaa
open Go.RowKit Apo

set_option maxRecDepth 100000 in
/-- the digits of a number, place by place -/
theorem enc_nth : ∀ (i n : Nat), n < top → i < (enc n).length →
    (i = 0 ∨ 1 ≤ n / 128 ^ i) ∧ (n / 128 ^ i < 128 → (enc n)[i]? = some ((n / 128 ^ i : Nat) : Int) ∧ (enc n).length = i + 1) ∧
    (128 ≤ n / 128 ^ i → (enc n)[i]? = some ((n / 128 ^ i % 128 + 128 : Nat) : Int) ∧ i + 1 < (enc n).length)
  | 0, n, hn, _ => by
    refine ⟨.inl rfl, fun h => ?_, fun h => ?_⟩
    · simp only [Nat.pow_zero, Nat.div_one] at h ⊢
      rw [enc_lt h]; simp
    · simp only [Nat.pow_zero, Nat.div_one] at h ⊢
      rw [enc_ge h hn]
      have := enc_len (n / 128)
      simp only [List.getElem?_cons_zero, List.length_cons, true_and]; omega
  | i + 1, n, hn, hi => by
    have hge : 128 ≤ n := by
      rcases Nat.lt_or_ge n 128 with h | h
      · rw [enc_lt h] at hi; simp at hi
      · exact h
    rw [enc_ge hge hn] at hi ⊢
    have ih := enc_nth i (n / 128) (by unfold top at *; omega) (by simpa using hi)
    have e : n / 128 ^ (i + 1) = n / 128 / 128 ^ i := by rw [Nat.pow_succ, Nat.div_div_eq_div_mul, Nat.mul_comm]
    rw [e]
    refine ⟨.inr ?_, fun h => ?_, fun h => ?_⟩
    · rcases ih.1 with h | h
      · subst h; simp only [Nat.pow_zero, Nat.div_one]; omega
      · exact h
    · have := ih.2.1 h
      simp only [List.getElem?_cons_succ, List.length_cons]
      exact ⟨this.1, by omega⟩
    · have := ih.2.2 h
      simp only [List.getElem?_cons_succ, List.length_cons]
      exact ⟨this.1, by omega⟩

set_option maxRecDepth 100000 in
theorem andNot128 {z : Int} (h0 : 0 ≤ z) (h1 : z ≤ 255) : bits .andNot .u8 z 128 = z % 128 := by
  obtain ⟨n, rfl⟩ := Int.eq_ofNat_of_zero_le h0
  have e2 := u8_andNot_nat n 128 (by omega) (by omega)
  have e3 : (n &&& (255 - 128)) = n % 128 := by
    have : ∀ q : Fin 256, (q.1 &&& (255 - 128)) = q.1 % 128 := by decide +kernel
    exact this ⟨n, by omega⟩
  rw [e3] at e2
  exact e2.trans (by omega)

set_option maxRecDepth 100000 in
theorem or_step {n k : Nat} {z A : Int} (hn : n < top) (h0 : 0 ≤ z) (h1 : z ≤ 255) (hA : A = ((n % 128 ^ k : Nat) : Int)) (hz : z % 128 = ((n / 128 ^ k % 128 : Nat) : Int)) :
    bits .or .u64 A (IntKind.u64.wrap (IntKind.u64.wrap (bits .andNot .u8 z 128) * 2 ^ (7 * k))) = ((n % 128 ^ (k + 1) : Nat) : Int) := by
  rw [andNot128 h0 h1, hz, hA]
  have hp : (128 : Nat) ^ k = 2 ^ (7 * k) := by rw [show (128 : Nat) = 2 ^ 7 from rfl, ← Nat.pow_mul]
  have hpi : ((2 : Int) ^ (7 * k)) = ((128 ^ k : Nat) : Int) := by rw [hp]; simp
  have hpos : 0 < 128 ^ k := Nat.pow_pos (by decide)
  rw [hpi]
  have hlt : n % 128 ^ k < 128 ^ k := Nat.mod_lt _ hpos
  have e1 : n % 128 ^ (k + 1) = n % 128 ^ k + 128 ^ k * (n / 128 ^ k % 128) := Nat.mod_pow_succ
  have hle : n % 128 ^ (k + 1) ≤ n := Nat.mod_le _ _
  generalize hd : n / 128 ^ k % 128 = d at *
  have hd128 : d < 128 := by omega
  have w1 : IntKind.u64.wrap (d : Int) = (d : Int) := by rw [IntKind.wrap_u64]; omega
  have e4 : (d : Int) * ((128 ^ k : Nat) : Int) = ((128 ^ k * d : Nat) : Int) := by rw [Nat.mul_comm]; simp
  rw [w1, e4]
  generalize hA2 : n % 128 ^ k = A2 at *
  have hlt2 : 128 ^ k * d < top := by omega
  have w2 : IntKind.u64.wrap ((128 ^ k * d : Nat) : Int) = ((128 ^ k * d : Nat) : Int) := by
    rw [IntKind.wrap_u64]; unfold top at hlt2; omega
  rw [w2, u64_or_nat _ _ (by unfold top at *; omega) (by unfold top at *; omega)]
  rw [e1]
  have e5 : A2 ||| 128 ^ k * d = A2 + 128 ^ k * d := by
    rw [hp] at hlt ⊢
    have := Nat.two_pow_add_eq_or_of_lt hlt d
    rw [Nat.or_comm, ← this, Nat.add_comm]
  rw [e5]

set_option maxRecDepth 100000 in
theorem ret3 {k1 k2 k3 : IntKind} {a b c a' b' c' : Int} (h1 : a = a') (h2 : b = b') (h3 : c = c') :
    Ending.returned (.tuple #[.int k1 a, .int k2 b, .int k3 c]) = .returned (.tuple #[.int k1 a', .int k2 b', .int k3 c']) := by rw [h1, h2, h3]

set_option maxRecDepth 100000 in
/-- what stands at place k of bytes that begin with a number's -/
theorem of_at {l r : List Int} {n k : Nat} {z : Int} (hn : n < top) (he : l = enc n ++ r) (hk : k < (enc n).length) (hz : l[k]? = some z) :
    0 ≤ z ∧ z ≤ 255 ∧ (k = 0 ∨ 1 ≤ n / 128 ^ k) ∧ z % 128 = ((n / 128 ^ k % 128 : Nat) : Int) ∧ (z < 128 → z = ((n / 128 ^ k : Nat) : Int) ∧ (enc n).length = k + 1 ∧ n % 128 ^ (k + 1) = n) ∧ (128 ≤ z → k + 1 < (enc n).length) := by
  have h := enc_nth k n hn hk
  have hzz : (enc n)[k]? = some z := by rw [he, List.getElem?_append_left hk] at hz; exact hz
  have hb := enc_byte hn z (List.mem_of_getElem? hzz)
  refine ⟨hb.1, hb.2, h.1, ?_, fun hlt => ?_, fun hge => ?_⟩
  · rcases Nat.lt_or_ge (n / 128 ^ k) 128 with hm | hm
    · have := (h.2.1 hm).1; rw [hzz] at this; cases this; omega
    · have := (h.2.2 hm).1; rw [hzz] at this; cases this; omega
  · rcases Nat.lt_or_ge (n / 128 ^ k) 128 with hm | hm
    · have h2 := (h.2.1 hm)
      have := h2.1; rw [hzz] at this; cases this
      refine ⟨rfl, h2.2, ?_⟩
      refine Nat.mod_eq_of_lt ?_
      rw [Nat.pow_succ]
      exact (Nat.div_lt_iff_lt_mul (Nat.pow_pos (by decide))).1 hm |> fun q => by rw [Nat.mul_comm] at q; exact q
    · have := (h.2.2 hm).1; rw [hzz] at this; cases this; omega
  · rcases Nat.lt_or_ge (n / 128 ^ k) 128 with hm | hm
    · have := (h.2.1 hm).1; rw [hzz] at this; cases this; omega
    · exact (h.2.2 hm).2

set_option maxRecDepth 100000 in
theorem of_nine {n k : Nat} (hn : n < top) (hk : k = 9) (h1 : 1 ≤ n / 128 ^ k) : n / 128 ^ k = 1 := by
  subst hk
  have : (128 : Nat) ^ 9 = 9223372036854775808 := by decide
  rw [this] at *
  unfold top at hn
  omega

set_option maxRecDepth 100000 in
set_option maxHeartbeats 400000 in
theorem of_yes (a : Option Addr) (cap : Nat) (l : List Int) (n : Nat) (r : List Int) (w : World) (hr : Rd .u8 w a l) (hn : n < top) (he : l = enc n ++ r) :
    Calls Try.prog 36 #[.slice a l.length cap] w fun e w' => e = .returned (.tuple #[.int .u64 n, .int .i64 ((enc n).length : Nat), .int .i64 0]) ∧ w = w' := by
  have hR : Hid (Rd .u8 w a l) := hr
  have HE : Hid (l = enc n ++ r) := he
  have hlen : (enc n).length ≤ l.length := by rw [he]; simp
  have hel := enc_len n
  clear hr he
  go_enter Try.func36, Try.ntmps36
  go_wp2
  go_loop [2, 5] (fun t i => ∃ k : Nat, k < (enc n).length ∧ i = .int .i64 k ∧ ∃ A : Int, Hid (A = ((n % 128 ^ k : Nat) : Int)) ∧ t = .int .u64 A) (fun _ i => 10 - (intOf i).toNat)
  case atStart => exact ⟨0, by omega, rfl, 0, by show (0 : Int) = _; simp [Nat.mod_one], rfl⟩
  case round =>
    obtain ⟨k, hk, rfl, A, hA, rfl⟩ := hrel
    obtain ⟨b, off, z, rfl, hc, hz, _⟩ := hR.out.at (i := k) (by omega)
    obtain ⟨z0, z1, hpos, hzm, hzs, hzc⟩ := of_at hn HE.out hk hz.out
    have HS : Hid (bits .or .u64 A (IntKind.u64.wrap (IntKind.u64.wrap (bits .andNot .u8 z 128) * 2 ^ (7 * k))) = ((n % 128 ^ (k + 1) : Nat) : Int)) := or_step hn z0 z1 hA.out hzm
    by_cases hge : 128 ≤ z
    · have hk1 := hzc hge
      clear hzs hzc hpos hzm hz
      go_wp2_with fail
      go_round
      case rel => exact ⟨k + 1, by omega, by go_num, _, HS, rfl⟩
      case measure => simp [intOf]; omega
    · have H3 : Hid (z = ((n / 128 ^ k : Nat) : Int) ∧ (enc n).length = k + 1 ∧ n % 128 ^ (k + 1) = n) := hzs (by omega)
      have hd : decide (((k : Int) = 9 ∧ z = 1) ∨ ((k : Int) ≠ 9 ∧ (z ≠ 0 ∨ (k : Int) = 0))) = true := by
        rw [decide_eq_true_iff]
        have h3 := H3.out
        by_cases h9 : k = 9
        · left
          have := of_nine hn h9 (by rcases hpos with h | h; · omega
                                    · exact h)
          omega
        · right
          refine ⟨by omega, ?_⟩
          rcases hpos with h | h
          · right; omega
          · left; omega
      clear hzs hzc hpos hzm hz
      go_wp2_with (go_at_call 41; refine (mayEnd_any z k _ (by omega) (by omega) (by omega) (by omega)).mono ?_; rintro e w' ⟨rfl, rfl⟩; rw [hd])
      go_ret3
      have h3 := H3.out
      exact ⟨ret3 (by rw [HS.out, h3.2.2]) (by omega) rfl, rfl⟩

/-- no number's bytes stand at the head -/
def NoNum (l : List Int) : Prop := ∀ n r, n < top → l ≠ enc n ++ r

def InB (l : List Int) : Prop := ∀ z ∈ l, 0 ≤ z ∧ z ≤ 255

set_option maxRecDepth 100000 in
theorem nonum_at {l : List Int} {k : Nat} {z : Int} (hb : InB l) (hno : NoNum l) (hk : k ≤ 9) (hz : l[k]? = some z) (hpre : ∀ x ∈ l.take k, 128 ≤ x) (hlt : z < 128) :
    decide (((k : Int) = 9 ∧ z = 1) ∨ ((k : Int) ≠ 9 ∧ (z ≠ 0 ∨ (k : Int) = 0))) = false := by
  rw [decide_eq_false_iff_not]
  intro h
  have hkl := (List.getElem?_eq_some_iff.1 hz).1
  have hz0 := hb z (List.mem_of_getElem? hz)
  have htl : (l.take k).length = k := by simp; omega
  obtain ⟨n, hn, e⟩ := canon (l.take k) z (fun x hx => ⟨hpre x hx, (hb x (List.mem_of_mem_take hx)).2⟩) hz0.1 hlt (by omega) (by omega) (by rw [htl]; omega)
  refine hno n (l.drop (k + 1)) hn ?_
  rw [e, ← take_snoc hz]
  exact (List.take_append_drop _ _).symm

set_option maxRecDepth 100000 in
set_option maxHeartbeats 400000 in
theorem of_no (a : Option Addr) (cap : Nat) (l : List Int) (w : World) (hr : Rd .u8 w a l) (hl : l.length ≤ 1099511627776) (hb : InB l) (hno : NoNum l) :
    Calls Try.prog 36 #[.slice a l.length cap] w fun e w' => e = .returned (.tuple #[.int .u64 0, .int .i64 0, .int .i64 20]) ∧ w = w' := by
  have hR : Hid (Rd .u8 w a l) := hr
  have hB : Hid (InB l) := hb
  have hN : Hid (NoNum l) := hno
  clear hr hb hno
  go_enter Try.func36, Try.ntmps36
  go_wp2
  go_loop [2, 5] (fun t i => ∃ k : Nat, k ≤ 10 ∧ k ≤ l.length ∧ i = .int .i64 k ∧ Hid (∀ x ∈ l.take k, 128 ≤ x) ∧ ∃ A : Int, t = .int .u64 A) (fun _ i => 10 - (intOf i).toNat)
  case atStart => exact ⟨0, by omega, by omega, rfl, by intro x hx; simp at hx, 0, rfl⟩
  case round =>
    obtain ⟨k, hk, hk2, rfl, hpre, A, rfl⟩ := hrel
    by_cases hlt : k < l.length
    · by_cases h10 : k < 10
      · obtain ⟨b, off, z, rfl, hc, hz, hm⟩ := hR.out.at hlt
        obtain ⟨z0, z1⟩ := hB.out z hm
        clear hm
        by_cases hge : 128 ≤ z
        · have hpre1 : Hid (∀ x ∈ l.take (k + 1), 128 ≤ x) := by
            intro x hx
            rw [take_snoc hz.out, List.mem_append, List.mem_singleton] at hx
            rcases hx with hx | hx
            · exact hpre.out x hx
            · omega
          clear hz hpre
          go_wp2_with fail
          go_round
          case rel => exact ⟨k + 1, by omega, by omega, by go_num, hpre1, _, rfl⟩
          case measure => simp [intOf]; omega
        · have hd := nonum_at hB.out hN.out (by omega) hz.out hpre.out (by omega)
          clear hz hpre
          go_wp2_with (go_at_call 41; refine (mayEnd_any z k _ (by omega) (by omega) (by omega) (by omega)).mono ?_; rintro e w' ⟨rfl, rfl⟩; rw [hd])
          go_ret3
          exact ⟨rfl, rfl⟩
      · go_wp2
        go_ret3
        exact ⟨rfl, rfl⟩
    · have hd : decide ((k : Int) < (l.length : Int)) = false := by simp; omega
      go_wp2
      go_ret3
      exact ⟨rfl, rfl⟩

end Go.Proofs.Ytapomhpahdmekaa
