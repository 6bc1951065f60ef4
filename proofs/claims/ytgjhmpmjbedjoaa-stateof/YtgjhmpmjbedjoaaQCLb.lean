/- What the document's own Leb answers, over the translation. -/
import Derived.Deep.RegionLaw
import Derived.Test.YtgjhmpmjbedjoaaQNum
import Derived.Test.YtgjhmpmjbedjoaaQGBa
import Derived.Test.YtgjhmpmjbedjoaaQA5
namespace Go.Proofs.Ytgjhmpmjbedjoaa
open Go.RowKit Apo
attribute [local go_sem ↓] Go.wp_at_zero Go.wp_at_succ

set_option maxRecDepth 100000 in
theorem add_step {n k : Nat} {z A U : Int} (hn : n < top) (hA : A = ((n % 128 ^ k : Nat) : Int)) (hU : U = ((128 ^ k : Nat) : Int)) (hz : z % 128 = ((n / 128 ^ k % 128 : Nat) : Int)) :
    IntKind.u64.wrap (A + IntKind.u64.wrap (z % 128 * U)) = ((n % 128 ^ (k + 1) : Nat) : Int) := by
  rw [hz, hA, hU]
  have e1 : n % 128 ^ (k + 1) = n % 128 ^ k + 128 ^ k * (n / 128 ^ k % 128) := Nat.mod_pow_succ
  have hle : n % 128 ^ (k + 1) ≤ n := Nat.mod_le _ _
  generalize n / 128 ^ k % 128 = d at *
  generalize n % 128 ^ k = A2 at *
  have e4 : (d : Int) * ((128 ^ k : Nat) : Int) = ((128 ^ k * d : Nat) : Int) := by rw [Nat.mul_comm]; simp
  rw [e4]
  generalize 128 ^ k * d = t at *
  have w1 : IntKind.u64.wrap (t : Int) = (t : Int) := by rw [IntKind.wrap_u64]; unfold top at hn; omega
  rw [w1, IntKind.wrap_u64]
  unfold top at hn
  omega

set_option maxRecDepth 100000 in
theorem unit_step {k : Nat} {U : Int} (hk : k ≤ 8) (hU : U = ((128 ^ k : Nat) : Int)) : IntKind.u64.wrap (U * 128) = ((128 ^ (k + 1) : Nat) : Int) := by
  have h1 : 128 ^ k ≤ 128 ^ 8 := Nat.pow_le_pow_right (by decide) hk
  have h2 : (128 : Nat) ^ 8 = 72057594037927936 := by decide
  have h3 : (128 : Nat) ^ (k + 1) = 128 ^ k * 128 := Nat.pow_succ _ _
  rw [hU, h3]
  generalize 128 ^ k = t at *
  rw [IntKind.wrap_u64]
  omega

set_option maxRecDepth 100000 in
set_option maxHeartbeats 1000000 in
theorem leb_yes (a : Option Addr) (cap : Nat) (l : List Int) (n : Nat) (r : List Int) (w : World) (hr : Rd .u8 w a l) (hcap : l.length ≤ cap) (hn : n < top) (he : l = enc n ++ r) :
    Calls Try.prog 67 #[.slice a l.length cap] w fun e w' => e = .returned (.tuple #[.int .u64 n, .int .i64 ((enc n).length : Nat), .int .i64 0]) ∧ Below w.heap.size w w' := by
  have hR := hide hr
  have HE := hide he
  have hlen : (enc n).length ≤ l.length := by rw [he]; simp
  have hel := enc_len n
  clear hr he
  go_enter Try.func67, Try.ntmps67
  go_wp2
  go_loop [5, 6, 7] (fun t u i => ∃ k : Nat, k < (enc n).length ∧ i = .int .i64 k ∧ (∃ A : Int, Hid (A = ((n % 128 ^ k : Nat) : Int)) ∧ t = .int .u64 A) ∧ (∃ U : Int, Hid (U = ((128 ^ k : Nat) : Int)) ∧ u = .int .u64 U)) (fun _ _ i => 10 - (intOf i).toNat)
  case atStart => exact ⟨0, by omega, rfl, ⟨0, by show (0 : Int) = _; simp [Nat.mod_one], rfl⟩, ⟨1, by show (1 : Int) = _; simp, rfl⟩⟩
  case round =>
    obtain ⟨k, hk, rfl, ⟨A, hA, rfl⟩, ⟨U, hU, rfl⟩⟩ := hrel
    obtain ⟨b, off, z, rfl, hc, hz, _⟩ := hR.out.at (i := k) (by omega)
    obtain ⟨z0, z1, hpos, hzm, hzs, hzc⟩ := of_at hn HE.out hk hz.out
    have HS := hide (add_step hn hA.out hU.out hzm)
    by_cases hge : 128 ≤ z
    · have hk1 := hzc hge
      have hk9 : ((k : Int) == 9) = false := by simp; omega
      have HU := hide (unit_step (by omega) hU.out)
      clear hzs hzc hpos hz hzm
      go_wp2_with fail
      go_round
      case rel => exact ⟨k + 1, by omega, by go_num, ⟨_, HS, rfl⟩, ⟨_, HU, rfl⟩⟩
      case measure => simp [intOf]; omega
    · have H3 := hide (hzs (by omega))
      have hg1 : z ≤ 1 ∨ k ≠ 9 := by
        by_cases h9 : k = 9
        · left
          have := of_nine hn h9 (by rcases hpos with h | h; · omega
                                    · exact h)
          have h3 := H3.out.1
          omega
        · exact .inr h9
      have HT : Hid (l.take (k + 1) = enc n) := by
        show _ = _
        rw [HE.out, ← H3.out.2.1, List.take_left]
      have HN : Hid (IntKind.u64.wrap (A + IntKind.u64.wrap (z % 128 * U)) = (n : Int)) := by
        show _ = _
        rw [HS.out, H3.out.2.2]
      have hn2 : (n : Int) ≤ 18446744073709551615 := by unfold top at hn; omega
      have hrt := Rd.take hR.out (k + 1)
      rw [HT.out] at hrt
      have hlk := H3.out.2.1
      have cv : ∀ wx, Below w.heap.size w wx → (convert 30 9 (.slice (some ⟨b, off, none⟩) (k + 1) cap)).run Try.prog wx = .ok (.string (strOfNums (enc n))) wx := fun wx hb => by
        have := (hrt.below hb).conv 30 5 9 Try.underlying30 Try.underlying5 Try.underlying9 cap
        rw [hlk] at this
        exact this
      have HC := hide cv
      have hkn : (enc n).length = k + 1 := hlk
      have HK := hide hkn
      clear hzs hzc hpos hz hzm hrt cv HS hlk hkn
      have hk9 : k ≤ 9 := by have := H3.out.2.1; omega
      have hd : (((k : Int) == 9) = true ∧ decide ((1 : Int) < z) = false) ∨ ((k : Int) == 9) = false := by
        by_cases h9 : k = 9
        · left; refine ⟨by simp; omega, by simp; omega⟩
        · right; simp; omega
      have hm := HN.out
      have hnil : ∀ b wx, World.ownsRow wx b 5 1 (.slice none 0 0) ([] : List Int).length (([] : List Int).map (Value.int .u8)) := fun b wx => World.ownsRow_nil wx b 5 1
      have hb0 : Below w.heap.size w w.drew := (Below.refl _ _).drew
      have hbs : (k : Int) + 1 ≤ (cap : Int) := by omega
      have hbz : (0 : Int) ≤ (k : Int) + 1 := by omega
      have hwk : IntKind.i64.wrap ((k : Int) + 1) = (k : Int) + 1 := by simp [IntKind.wrap, IntKind.bits, IntKind.signed]; omega
      have htn : ((k : Int) + 1).toNat = k + 1 := by omega
      have hK1 : Hid (((enc n).length : Int) = (k : Int) + 1) := by have := HK.out; show _ = _; omega
      rcases hd with ⟨hd, hd2⟩ | hd
      all_goals
        go_wp2_with fail
        have cv := HC.out
        go_region_law (go_simp; first
          | (go_at_call 28; refine (num_any w.heap.size _ [] (n : Int) w.drew (hnil _ _) (Nat.le_refl _) (by decide) (by omega) hn2).mono ?_; rintro e w5 ⟨v5, rfl, hown5, hb5⟩; have cv5 := conv_own hown5; rw [List.nil_append, Int.toNat_natCast] at cv5; have hb55 := Below.refl w5.heap.size w5; have hbw5 : Below w.heap.size w w5 := hb0.trans hb5; clear hown5 hb5))
        all_goals
          go_wp2
          go_ret3
          exact ⟨ret3 rfl (by have := hK1.out; omega) rfl, by assumption⟩

set_option maxRecDepth 100000 in
theorem strOfNums_inj {x y : List Int} (hx : InB x) (hy : InB y) (h : strOfNums x = strOfNums y) : x = y := by
  have h1 := congrArg (fun b => b.data.toList) h
  simp only [strOfNums_data] at h1
  clear h
  induction x generalizing y with
  | nil => cases y with
    | nil => rfl
    | cons b s => simp at h1
  | cons a r ih => cases y with
    | nil => simp at h1
    | cons b s =>
      simp only [List.map_cons, List.cons.injEq] at h1
      have ha := hx a (by simp)
      have hb := hy b (by simp)
      have e : a = b := by
        have := congrArg UInt8.toNat h1.1
        simp only [UInt8.toNat_ofNat'] at this
        omega
      rw [e, ih (fun z hz => hx z (by simp [hz])) (fun z hz => hy z (by simp [hz])) h1.2]

set_option maxRecDepth 100000 in
theorem enc_ne_take {l : List Int} {k : Nat} {m : Int} (hb : InB l) (hno : NoNum l) (h0 : 0 ≤ m) (h1 : m ≤ 18446744073709551615) : strOfNums (enc m.toNat) ≠ strOfNums (l.take k) := by
  intro h
  have hm : m.toNat < top := by unfold top; omega
  have e := strOfNums_inj (enc_byte hm) (fun z hz => hb z (List.mem_of_mem_take hz)) h
  refine hno m.toNat (l.drop k) hm ?_
  rw [e, List.take_append_drop]

set_option maxRecDepth 100000 in
set_option maxHeartbeats 1000000 in
theorem leb_no (a : Option Addr) (cap : Nat) (l : List Int) (w : World) (hr : Rd .u8 w a l) (hcap : l.length ≤ cap) (hl : l.length ≤ 1099511627776) (hb : InB l) (hno : NoNum l) :
    Calls Try.prog 67 #[.slice a l.length cap] w fun e w' => e = .returned (.tuple #[.int .u64 0, .int .i64 0, .int .i64 20]) ∧ Below w.heap.size w w' := by
  have hR := hide hr
  have hB := hide hb
  have hN := hide hno
  have hnil : ∀ b wx, World.ownsRow wx b 5 1 (.slice none 0 0) ([] : List Int).length (([] : List Int).map (Value.int .u8)) := fun b wx => World.ownsRow_nil wx b 5 1
  have hb0 : Below w.heap.size w w.drew := (Below.refl _ _).drew
  clear hr hb hno
  go_enter Try.func67, Try.ntmps67
  go_wp2
  go_loop [5, 6, 7] (fun t u i => ∃ k : Nat, k ≤ 10 ∧ k ≤ l.length ∧ i = .int .i64 k ∧ (∃ A : Int, t = .int .u64 A) ∧ (∃ U : Int, u = .int .u64 U)) (fun _ _ i => 10 - (intOf i).toNat)
  case atStart => exact ⟨0, by omega, by omega, rfl, ⟨0, rfl⟩, ⟨1, rfl⟩⟩
  case round =>
    obtain ⟨k, hk, hk2, rfl, ⟨A, rfl⟩, ⟨U, rfl⟩⟩ := hrel
    by_cases hlt : k < l.length
    · by_cases h10 : k < 10
      · obtain ⟨b, off, z, rfl, hc, hz, hm⟩ := hR.out.at hlt
        obtain ⟨z0, z1⟩ := hB.out z hm
        clear hm hz
        obtain ⟨M, hM⟩ : ∃ M, M = IntKind.u64.wrap (A + IntKind.u64.wrap (z % 128 * U)) := ⟨_, rfl⟩
        have hM0 : 0 ≤ M := by rw [hM]; exact wrap_u64_nonneg _
        have hM1 : M ≤ 18446744073709551615 := by rw [hM, IntKind.wrap_u64]; omega
        have hMr := hM.symm
        clear hM
        have hne := enc_ne_take (k := k + 1) hB.out hN.out hM0 hM1
        have HC : Hid (∀ wx, Below w.heap.size w wx → (convert 30 9 (.slice (some ⟨b, off, none⟩) (k + 1) cap)).run Try.prog wx = .ok (.string (strOfNums (l.take (k + 1)))) wx) := fun wx hb => by
          have := ((Rd.take hR.out (k + 1)).below hb).conv 30 5 9 Try.underlying30 Try.underlying5 Try.underlying9 cap
          rw [List.length_take, Nat.min_eq_left (by omega)] at this
          exact this
        generalize strOfNums (l.take (k + 1)) = S2 at *
        have hne2 : ((strOfNums (enc M.toNat)).toList == S2.toList) = false := by
          rw [beq_eq_false_iff_ne]
          intro h
          rw [ByteArray.toList_eq, ByteArray.toList_eq] at h
          exact hne (Go.WideShapes.bytes_inj h)
        clear hne
        have hbs : (k : Int) + 1 ≤ (cap : Int) := by omega
        have hbz : (0 : Int) ≤ (k : Int) + 1 := by omega
        have hwk : IntKind.i64.wrap ((k : Int) + 1) = (k : Int) + 1 := by simp [IntKind.wrap, IntKind.bits, IntKind.signed]; omega
        have htn : ((k : Int) + 1).toNat = k + 1 := by omega
        have hd : ((((k : Int) == 9) = true ∧ decide ((1 : Int) < z) = true) ∨ (((k : Int) == 9) = true ∧ decide ((1 : Int) < z) = false)) ∨ ((k : Int) == 9) = false := by
          by_cases h9 : k = 9
          · left
            by_cases hz1 : 1 < z
            · left; refine ⟨by simp; omega, by simp; omega⟩
            · right; refine ⟨by simp; omega, by simp; omega⟩
          · right; simp; omega
        rcases hd with (⟨hd, hd2⟩ | ⟨hd, hd2⟩) | hd
        · go_wp2_with fail
          go_ret3
          exact ⟨rfl, Below.refl _ _⟩
        all_goals
          by_cases hge : 128 ≤ z
          · go_wp2_with fail
            go_round
            case rel => exact ⟨k + 1, by omega, by omega, by go_num, ⟨_, rfl⟩, ⟨_, rfl⟩⟩
            case measure => simp [intOf]; omega
          · go_wp2_with fail
            have cv := HC.out
            go_region_law (go_simp; first
              | (go_at_call 28; refine (num_any w.heap.size _ [] M w.drew (hnil _ _) (Nat.le_refl _) (by decide) hM0 hM1).mono ?_; rintro e w5 ⟨v5, rfl, hown5, hb5⟩; have cv5 := conv_own hown5; rw [List.nil_append] at cv5; have hb55 := Below.refl w5.heap.size w5; have hbw5 : Below w.heap.size w w5 := hb0.trans hb5; clear hown5 hb5))
            all_goals
              go_wp2
              go_ret3
              exact ⟨rfl, by assumption⟩
      · go_wp2
        go_ret3
        exact ⟨rfl, Below.refl _ _⟩
    · have hd : decide ((k : Int) < (l.length : Int)) = false := by simp; omega
      go_wp2
      go_ret3
      exact ⟨rfl, Below.refl _ _⟩
end Go.Proofs.Ytgjhmpmjbedjoaa
