/- math/bits.Len at numbers below 65,536; nextPowerOfTwo; xorshift's Next: over the translation. xorshift's Next and slices.breakPatternsOrdered at 64-bit numbers, over the translation. -/
import Derived.Sort.Walk7a
import Derived.Lib.BitFns
import Derived.PlainAid
import Derived.Sort.Walk7
import Derived.Test.YtmkafoidfgaokaaQS2
namespace Go.Proofs.Ytmkafoidfgaokaa
open Go.RowKit Apo
theorem len8_nat (x : Nat) (h : x < 256) : Lib.len8 ((x : Int) % 256) = (Sort.bitsLen x : Nat) ∧ Sort.bitsLen x ≤ 8 := by
  have e : (x : Int) % 256 = (x : Int) := by omega
  rw [e, Lib.len8_of (x : Int) (by omega) (by omega), Int.toNat_natCast, bitLen_eq x (by omega)]
  exact ⟨rfl, (Sort.bitsLen_le_iff x 8).2 (by omega)⟩
set_option maxRecDepth 100000 in
set_option maxHeartbeats 800000 in
theorem ulen64_any (x : Nat) (hx : x < 65536) (w : World) : Calls Try.prog 81 #[.int .u64 x] w fun e w' => e = .returned (.int .i64 (Sort.bitsLen x : Nat)) ∧ w = w' := by
  have d1 : decide ((4294967296 : Int) ≤ (x : Int)) = false := by simp; omega
  have d2 : decide ((65536 : Int) ≤ (x : Int)) = false := by simp; omega
  by_cases h8 : x < 256
  · have d3 : decide ((256 : Int) ≤ (x : Int)) = false := by simp; omega
    obtain ⟨h9, h10⟩ := len8_nat x h8
    obtain ⟨L, hL⟩ : ∃ L, L = Sort.bitsLen x := ⟨_, rfl⟩
    rw [← hL] at h9 h10 ⊢
    have h11 := wrap_natU (k := L) (by omega)
    clear hL h8
    go_enter Try.func81, Try.ntmps81
    go_wp2
    go_ret
    exact ⟨rfl, rfl⟩
  · have d3 : decide ((256 : Int) ≤ (x : Int)) = true := by simp; omega
    obtain ⟨y, hy⟩ : ∃ y, y = x / 256 := ⟨_, rfl⟩
    have hyd : (x : Int) / 256 = (y : Int) := by omega
    obtain ⟨h9, h10⟩ := len8_nat y (by omega)
    have hs : Sort.bitsLen x = 8 + Sort.bitsLen y := by
      rw [← bitLen_eq x (by omega), Lib.bitLen_shift8 x (by omega) (by omega), ← hy, bitLen_eq y (by omega)]
    obtain ⟨L, hL⟩ : ∃ L, L = Sort.bitsLen y := ⟨_, rfl⟩
    rw [← hL] at h9 h10 hs
    obtain ⟨M, hM⟩ : ∃ M, M = Sort.bitsLen x := ⟨_, rfl⟩
    rw [← hM] at hs ⊢
    have h11 := wrap_natU (k := L) (by omega)
    have h12 := wrap_natU (k := M) (by omega)
    have h13 : (8 : Int) + (L : Int) = (M : Int) := by omega
    have hy1 : (y : Int) ≤ 255 := by omega
    have hy2 : (0 : Int) ≤ (y : Int) := by omega
    have h14 : Lib.len8 (y : Int) = (L : Int) := by rw [← h9]; congr 1; omega
    clear hL hM h8 hs hy
    go_enter Try.func81, Try.ntmps81
    go_wp2
    go_ret
    exact ⟨rfl, rfl⟩
set_option maxRecDepth 100000 in
theorem ulen_any (x : Nat) (hx : x < 65536) (w : World) : Calls Try.prog 70 #[.int .u64 x] w fun e w' => e = .returned (.int .i64 (Sort.bitsLen x : Nat)) ∧ w = w' := by
  have HC := hide (ulen64_any x hx w)
  go_enter Try.func70, Try.ntmps70
  go_wp2_with fail
  refine HC.out.mono ?_
  rintro e w1 ⟨rfl, rfl⟩
  go_wp2
  go_ret
  exact ⟨rfl, rfl⟩
set_option maxRecDepth 100000 in
theorem unpow_any (x : Nat) (hx : x < 65536) (w : World) : Calls Try.prog 83 #[.int .i64 x] w fun e w' => e = .returned (.int .u64 ((1 <<< Sort.bitsLen x : Nat) : Int)) ∧ w = w' := by
  have HC := hide (ulen_any x hx w)
  have hk : Sort.bitsLen x ≤ 16 := (Sort.bitsLen_le_iff x 16).2 (by omega)
  have hp := wrap_two_pow (Sort.bitsLen x) (by omega)
  have hwx : IntKind.u64.wrap (x : Int) = (x : Int) := by rw [IntKind.wrap_u64]; omega
  go_enter Try.func83, Try.ntmps83
  go_wp2_with fail
  refine HC.out.mono ?_
  rintro e w1 ⟨rfl, rfl⟩
  go_wp2
  go_ret
  exact ⟨rfl, rfl⟩
end Go.Proofs.Ytmkafoidfgaokaa
namespace Go.Proofs.Ytmkafoidfgaokaa
open Go.RowKit Apo
set_option maxRecDepth 100000 in
set_option maxHeartbeats 800000 in
theorem unext_any (q X : Nat) (hX : X < 18446744073709551616) (w : World) (h : Ob w q 116 [.int .u64 X]) :
    Calls Try.prog 84 #[.pointer (some ⟨q, 0, none⟩)] w fun e w' => e = .returned (.int .u64 (Sort.xorNextN X : Nat)) ∧ Ob w' q 116 [.int .u64 (Sort.xorNextN X : Nat)] ∧ w.grownBy w' (some q) := by
  obtain ⟨A, hA⟩ : ∃ A : Nat, A = X ^^^ (X * 8192 % 18446744073709551616) := ⟨_, rfl⟩
  obtain ⟨B, hB⟩ : ∃ B : Nat, B = A ^^^ (A / 128) := ⟨_, rfl⟩
  obtain ⟨C, hC⟩ : ∃ C : Nat, C = B ^^^ (B * 131072 % 18446744073709551616) := ⟨_, rfl⟩
  have lA : A < 18446744073709551616 := by rw [hA]; exact Nat.xor_lt_two_pow (n := 64) (by omega) (by omega)
  have lB : B < 18446744073709551616 := by rw [hB]; exact Nat.xor_lt_two_pow (n := 64) (by omega) (by omega)
  have a1 : bits .xor .u64 (X : Int) (IntKind.u64.wrap ((X : Int) * 8192)) = (A : Int) := by
    rw [IntKind.wrap_u64]
    have e : (X : Int) * 8192 % 18446744073709551616 = ((X * 8192 % 18446744073709551616 : Nat) : Int) := by omega
    rw [e, bits_xor_u64_nat _ _ hX (by omega), hA]
  have a2 : bits .xor .u64 (A : Int) ((A : Int) / 128) = (B : Int) := by
    have e : (A : Int) / 128 = ((A / 128 : Nat) : Int) := by omega
    rw [e, bits_xor_u64_nat _ _ lA (by omega), hB]
  have a3 : bits .xor .u64 (B : Int) (IntKind.u64.wrap ((B : Int) * 131072)) = (C : Int) := by
    rw [IntKind.wrap_u64]
    have e : (B : Int) * 131072 % 18446744073709551616 = ((B * 131072 % 18446744073709551616 : Nat) : Int) := by omega
    rw [e, bits_xor_u64_nat _ _ lB (by omega), hC]
  have hv : Sort.xorNextN X = C := by unfold Sort.xorNextN; simp only []; rw [← hA, ← hB, ← hC]
  rw [hv]
  clear hA hB hC hv
  have c0 := h.cell 0
  have f0 := h.frozen 0
  simp only [List.getElem?_cons_zero] at c0
  have HH := hide h
  clear h
  go_enter Try.func84, Try.ntmps84
  go_wp2
  go_region
  obtain ⟨W1, hW1⟩ : ∃ W1, W1 = (w.setCell ⟨q, 0, none⟩ (.int .u64 A)).drew := ⟨_, rfl⟩
  have h1 : Ob W1 q 116 [.int .u64 A] := by rw [hW1]; exact (HH.out.set 0 _).old (Below.refl _ _).drew
  have g1 : w.grownBy W1 (some q) := by rw [hW1]; exact grew_trans (grew_set w q 0 _) (grew_drew _ _)
  rw [← hW1]
  clear hW1 c0 f0
  have c1 := h1.cell 0
  have f1 := h1.frozen 0
  simp only [List.getElem?_cons_zero] at c1
  have HH1 := hide h1
  have HG1 := hide g1
  clear h1 g1
  go_wp2
  go_region
  obtain ⟨W2, hW2⟩ : ∃ W2, W2 = (W1.setCell ⟨q, 0, none⟩ (.int .u64 B)).drew := ⟨_, rfl⟩
  have h2 : Ob W2 q 116 [.int .u64 B] := by rw [hW2]; exact (HH1.out.set 0 _).old (Below.refl _ _).drew
  have g2 : w.grownBy W2 (some q) := by rw [hW2]; exact grew_trans HG1.out (grew_trans (grew_set W1 q 0 _) (grew_drew _ _))
  rw [← hW2]
  clear hW2 c1 f1
  have c2 := h2.cell 0
  have f2 := h2.frozen 0
  simp only [List.getElem?_cons_zero] at c2
  have HH2 := hide h2
  have HG2 := hide g2
  clear h2 g2
  go_wp2
  go_region
  obtain ⟨W3, hW3⟩ : ∃ W3, W3 = (W2.setCell ⟨q, 0, none⟩ (.int .u64 C)).drew := ⟨_, rfl⟩
  have h3 : Ob W3 q 116 [.int .u64 C] := by rw [hW3]; exact (HH2.out.set 0 _).old (Below.refl _ _).drew
  have g3 : w.grownBy W3 (some q) := by rw [hW3]; exact grew_trans HG2.out (grew_trans (grew_set W2 q 0 _) (grew_drew _ _))
  rw [← hW3]
  clear hW3 c2 f2
  have c3 := h3.cell 0
  simp only [List.getElem?_cons_zero] at c3
  have HH3 := hide h3
  have HG3 := hide g3
  clear h3 g3
  go_wp2
  go_ret
  exact ⟨rfl, HH3.out, HG3.out⟩
theorem and_lt_pow (x L : Nat) (h : 0 < L) : (x &&& (1 <<< Sort.bitsLen L - 1)) < 2 * L := by
  have h1 := Sort.two_pow_bitsLen_le h
  have h2 : (x &&& (1 <<< Sort.bitsLen L - 1)) ≤ 1 <<< Sort.bitsLen L - 1 := Nat.and_le_right
  rw [Nat.one_shiftLeft] at h2 ⊢
  have := Nat.two_pow_pos (Sort.bitsLen L)
  omega
set_option maxRecDepth 100000 in
set_option maxHeartbeats 2000000 in
theorem ubreak_any (w : World) (g cap : Nat) (d : Array Int) (ex : List Value) (h : Ro w g d ex) (a b : Nat) (hab : a + 8 ≤ b) (hb : b ≤ d.size) (hn : d.size < 65536) :
    Calls Try.prog 73 #[.slice (some ⟨g, 0, none⟩) d.size cap, .int .i64 a, .int .i64 b] w (UsP w g (Sort.breakPatterns d a b) ex) := by
  obtain ⟨n, hnn⟩ : ∃ n, n = d.size := ⟨_, rfl⟩
  obtain ⟨L, hL⟩ : ∃ L, L = b - a := ⟨_, rfl⟩
  obtain ⟨R, hR⟩ : ∃ R, R = Sort.breakPatterns d a b := ⟨_, rfl⟩
  rw [← hR]
  rw [show b = a + L by omega, breakPatterns_eq d a L (by omega)] at hR
  rw [← hnn] at hb hn ⊢
  obtain ⟨M, hM⟩ : ∃ M : Nat, M = 1 <<< Sort.bitsLen L := ⟨_, rfl⟩
  have HAN := hide (fun x => and_lt_pow x L (by omega))
  have hMp : 1 ≤ M ∧ M ≤ 131072 := by
    have h1 := Sort.two_pow_bitsLen_le (n := L) (by omega)
    rw [hM, Nat.one_shiftLeft]
    have := Nat.two_pow_pos (Sort.bitsLen L)
    omega
  rw [← hM] at hR HAN
  obtain ⟨i0, hi0⟩ : ∃ i0, i0 = a + L / 4 * 2 - 1 := ⟨_, rfl⟩
  rw [← hi0] at hR
  have HR := hide hR
  obtain ⟨q4, hq4⟩ : ∃ q4, q4 = L / 4 := ⟨_, rfl⟩
  obtain ⟨q2, hq2⟩ : ∃ q2, q2 = q4 * 2 := ⟨_, rfl⟩
  obtain ⟨ih, hih⟩ : ∃ ih, ih = a + q2 := ⟨_, rfl⟩
  have m1 : (b : Int) - (a : Int) = (L : Int) := by omega
  have m2 := wrap_natU (k := L) (by omega)
  have m3 : (L : Int) / 4 = (q4 : Int) := by omega
  have m4 : Int.tdiv (L : Int) 4 = (q4 : Int) := by rw [Int.tdiv_eq_ediv_of_nonneg (by omega)]; omega
  have m5 := wrap_natU (k := q4) (by omega)
  have m6 : (q4 : Int) * 2 = (q2 : Int) := by omega
  have m7 := wrap_natU (k := q2) (by omega)
  have m8 : (a : Int) + (q2 : Int) = (ih : Int) := by omega
  have m9 := wrap_natU (k := ih) (by omega)
  have m10 : (ih : Int) - 1 = (i0 : Int) := by omega
  obtain ⟨i9, hi9⟩ : ∃ i9, i9 = ih + 1 := ⟨_, rfl⟩
  have m11 : (ih : Int) + 1 = (i9 : Int) := by omega
  have d1 : decide ((8 : Int) ≤ (L : Int)) = true := by simp; omega
  have d2 : decide (8 ≤ L) = true := by simp; omega
  have hwL : IntKind.u64.wrap (L : Int) = (L : Int) := by rw [IntKind.wrap_u64]; omega
  have hrng : i0 + 2 = i9 ∧ i9 < b ∧ a ≤ i0 := by omega
  obtain ⟨W0, hW0⟩ : ∃ W0, W0 = w.alloc (.cells #[.int .u64 L] 116) := ⟨_, rfl⟩
  have b0 : Below w.heap.size w W0 := by rw [hW0]; exact (Below.refl _ _).alloc (Nat.le_refl _) _
  have k0 : Ob W0 w.heap.size 116 [.int .u64 L] := by rw [hW0]; exact Ob.new w [.int .u64 L] 116
  have hgl := h.lt
  have HO0 := hide (h.old b0)
  have HK0 := hide k0
  have HG0 : Hid (w.grownBy W0 (some g)) := hide (grew_below _ b0)
  have HC := hide (unpow_any L (by omega) W0)
  rw [← hM] at HC
  rw [hW0] at HC
  have HS0 : Hid (d.size = n) := hide hnn.symm
  clear h hR hnn hL hM hi0 hq4 hq2 hih hi9 b0 k0
  go_enter Try.func73, Try.ntmps73
  go_wp2_with fail
  refine HC.out.mono ?_
  rintro e w1 ⟨rfl, rfl⟩
  rw [← hW0]
  clear HC hW0
  go_wp2
  go_loopw [9] (fun vi wr => ∃ (t : Nat) (e : Array Int) (r : UInt64), t ≤ 3 ∧ vi = .int .i64 (i0 + t : Nat) ∧ Hid (e.size = n) ∧ Hid (R = bpRest a L M i0 (3 - t) t (r, e)) ∧ Hid (Ro wr g e ex) ∧ Hid (Ob wr w.heap.size 116 [.int .u64 (r.toNat : Nat)]) ∧ Hid (w.grownBy wr (some g))) (fun vi _ => (i0 + 3) - (intOf vi).toNat)
  case atStart => exact ⟨0, d, UInt64.ofNat L, by omega, by simp, HS0, HR, HO0, hide (by
    have : (UInt64.ofNat L).toNat = L := by simp; omega
    rw [this]; exact HK0.out), HG0⟩
  case round =>
    obtain ⟨t, e, r, ht, rfl, HS, HX, HO, HK, HG⟩ := hrel
    clear HS0 HO0 HK0 HG0 HR
    have hes := HS.out
    obtain ⟨id, hid⟩ : ∃ id, id = i0 + t := ⟨_, rfl⟩
    rw [← hid]
    by_cases ht3 : t < 3
    · have d3 : decide ((id : Int) ≤ (i9 : Int)) = true := by simp; omega
      have d4 : decide (id ≤ i9) = true := by simp; omega
      obtain ⟨X, hX⟩ : ∃ X, X = Sort.xorNextN r.toNat := ⟨_, rfl⟩
      have hXr : X = (Sort.xorNext r).toNat := by rw [hX, Sort.xorNext_toNat]
      have hXl : X < 18446744073709551616 := by rw [hX]; exact Sort.xorNextN_lt _ (UInt64.toNat_lt r)
      have HCN := hide (unext_any w.heap.size r.toNat (UInt64.toNat_lt r) wr HK.out)
      rw [← hX] at HCN
      obtain ⟨o1, ho1⟩ : ∃ o1, o1 = X &&& (M - 1) := ⟨_, rfl⟩
      have ho1l := HAN.out X
      rw [← ho1] at ho1l
      have n1 : (M : Int) - 1 = ((M - 1 : Nat) : Int) := by omega
      have n2 : bits .and .u64 (X : Int) ((M - 1 : Nat) : Int) = (o1 : Int) := by rw [bits_and_u64_nat _ _ hXl (by omega), ho1]
      have n3 := wrap_natU (k := o1) (by omega)
      have n4 : IntKind.u64.wrap ((M - 1 : Nat) : Int) = ((M - 1 : Nat) : Int) := by rw [IntKind.wrap_u64]; omega
      obtain ⟨M1, hM1⟩ : ∃ M1, M1 = M - 1 := ⟨_, rfl⟩
      rw [← hM1] at n1 n2 n4
      have hidn : id < n := by omega
      obtain ⟨o, ho⟩ : ∃ o, o = if o1 ≥ L then o1 - L else o1 := ⟨_, rfl⟩
      have hol : o < L := by rw [ho]; split <;> omega
      have HX2 : Hid (R = bpRest a L M i0 (3 - (t + 1)) (t + 1) (Sort.xorNext r, Sort.swp e id (a + o))) := hide (by
        rw [HX.out, bp_step a L M i0 t r e o ht3 (by rw [← hXr, ← ho1]; exact ho.symm), hid])
      have HS2 : Hid ((Sort.swp e id (a + o)).size = n) := hide (by rw [swp_size]; exact hes)
      obtain ⟨f, hf⟩ : ∃ f, f = a + o := ⟨_, rfl⟩
      have p1 : (a : Int) + (o : Int) = (f : Int) := by omega
      have p2 := wrap_natU (k := f) (by omega)
      have p3 : f < n := by omega
      rw [← hf] at HX2 HS2
      have e6 : (id : Int) + 1 = ((i0 + (t + 1) : Nat) : Int) := by omega
      have HXR := hide hXr
      have hgq : g ≠ w.heap.size := by omega
      clear hX ho1 hM1 hid hf hXr hXl ho1l hes
      go_wp2_with fail
      refine HCN.out.mono ?_
      rintro en w2 ⟨rfl, k2, g2⟩
      have r2 : Ro w2 g e ex := Ob.kept HO.out g2 (by intro q; exact hgq (Option.some.inj q).symm)
      have G2 : w.grownBy w2 (some g) := grew_new HG.out g2 (Nat.le_refl _)
      obtain ⟨x', y', F⟩ := r2.sw (i := id) (j := f) (by have := HS.out; omega) (by have := HS.out; omega)
      obtain ⟨ci, cj, fi, cj2, fj2, ro, gr⟩ := F
      have HO2 := hide ro
      have HG2 := hide (grew_trans G2 gr)
      have HK2 : Hid (Ob ((w2.setCell ⟨g, id, none⟩ (.int .u64 y')).setCell ⟨g, f, none⟩ (.int .u64 x')).drew w.heap.size 116 [.int .u64 ((Sort.xorNext r).toNat : Nat)]) := hide (by
        rw [← HXR.out]
        exact k2.kept gr (by intro q; exact hgq (Option.some.inj q)))
      clear ro gr r2 G2 k2 g2 HCN
      by_cases hbig : L ≤ o1
      · have d5 : decide ((L : Int) ≤ (o1 : Int)) = true := by simp; omega
        have d6 : decide (L ≤ o1) = true := by simp; omega
        have ho3 : (o1 : Int) - (L : Int) = (o : Int) := by rw [ho, if_pos hbig]; omega
        have p4 := wrap_natU (k := o) (by omega)
        clear hbig ho
        go_wp2
        go_region
        all_goals
          go_wp2
          go_roundw
          case rel => exact ⟨t + 1, Sort.swp e id f, Sort.xorNext r, by omega, by simp, HS2, HX2, HO2, HK2, HG2⟩
          case measure => simp [intOf]; omega
      · have d5 : decide ((L : Int) ≤ (o1 : Int)) = false := by simp; omega
        have d6 : decide (L ≤ o1) = false := by simp; omega
        have ho3 : o = o1 := by rw [ho, if_neg (by omega)]
        subst ho3
        clear hbig ho
        go_wp2
        go_region
        all_goals
          go_wp2
          go_roundw
          case rel => exact ⟨t + 1, Sort.swp e id f, Sort.xorNext r, by omega, by simp, HS2, HX2, HO2, HK2, HG2⟩
          case measure => simp [intOf]; omega
    · have d3 : decide ((id : Int) ≤ (i9 : Int)) = false := by simp; omega
      have d4 : decide (id ≤ i9) = false := by simp; omega
      have HE : Hid (R = e) := hide (by
        rw [HX.out]
        have : 3 - t = 0 := by omega
        rw [this]
        rfl)
      clear hid
      go_wp2
      go_returns
      exact ⟨rfl, by rw [HE.out]; exact HO.out, HG.out⟩
end Go.Proofs.Ytmkafoidfgaokaa
