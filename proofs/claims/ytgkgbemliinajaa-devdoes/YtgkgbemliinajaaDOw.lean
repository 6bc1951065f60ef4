/- DevOwn, over the translation: a copy goes its own way; a device that nobody made has no sectors. -/
import Derived.Test.YtgkgbemliinajaaDAw
import Derived.Test.YtgkgbemliinajaaDNil
namespace Go.Proofs.Ytgkgbemliinajaa
open Go.RowKit Apo Go.Maps

theorem wrote_C (st : Sd) (a : Int) (b : List Int) : (st.wrote a b).2.C.length ≤ st.C.length + 1 := by
  unfold Sd.wrote
  split
  · simp
  · split
    · split
      · simp
      · rw [acted_C]; simp
    · simp
theorem flushed_C (st : Sd) : st.flushed.2.C.length ≤ st.C.length := by
  unfold Sd.flushed
  split
  · simp
  · rw [acted_C]; simp
theorem told_bytes {st : Sd} (ok : OkS st) (a : Int) : (∀ z ∈ (st.told a).1, 0 ≤ z ∧ z ≤ 255) ∧ (st.told a).1.length ≤ 32 := by
  unfold Sd.told
  split
  · simp
  · split
    · next h =>
      split
      · simp
      · have h2 := has_iff.1 h
        have hi : a.toNat < st.S.length := by omega
        have hg : st.S.getD a.toNat [] = st.S[a.toNat] := by simp [List.getD, hi]
        rw [hg]
        have := lastOf_sec (C := st.C) (i := a.toNat) (fun x hx => (ok.cach x hx).2) (ok.secs _ (List.getElem_mem hi))
        exact ⟨this.2, by rw [this.1]; omega⟩
    · simp
theorem zeros_b : ∀ z ∈ zeros, (0 : Int) ≤ z ∧ z ≤ 255 := sec_zeros.2

set_option maxHeartbeats 4000000 in
theorem ownLaw (n : Int) (ba : Option Addr) (bc : Nat) (b : List Int) (a : Int) (w : World) (hr : Rd .u8 w ba b) (hby : ∀ z ∈ b, 0 ≤ z ∧ z ≤ 255) :
    Calls Try.prog 5 #[.int .i64 n, .slice ba b.length bc, .int .i64 a] w fun e w' => e = .returned (.bool true) ∧ Below w.heap.size w w' := by
  by_cases hn : 50 < n
  · clear hr
    go_enter Try.func5, Try.ntmps5
    go_wp2_with fail
    refine (awake_any w).mono ?_
    rintro e w1 ⟨rfl, B1⟩
    go_wp2
    go_ret
    exact ⟨rfl, B1⟩
  · by_cases hl : 64 < b.length
    · clear hr
      go_enter Try.func5, Try.ntmps5
      go_wp2_with fail
      refine (awake_any w).mono ?_
      rintro e w1 ⟨rfl, B1⟩
      go_wp2
      go_ret
      exact ⟨rfl, B1⟩
    · have HR := hide hr
      have HBY := hide hby
      have mk := mk_z32
      clear hr hby
      go_enter Try.func5, Try.ntmps5
      go_wp2_with fail
      refine (awake_any w).mono ?_
      rintro e w1 ⟨rfl, B1⟩
      have HB1 := hide B1
      clear B1
      go_wp2_with fail
      -- New
      refine (cnew_any n w1).mono ?_
      rintro e w2 ⟨p, rfl, D2, b2⟩
      have B2 : Below w.heap.size w w2 := HB1.out.trans (b2.mono HB1.out.size)
      have HB2 := hide B2
      have HD2 := hide D2
      have z12 := b2.size
      have z1 := HB1.out.size
      clear D2 b2 B2
      go_wp2_with fail
      -- Write
      have hbo : ∀ x, ba = some x → 0 < b.length → ¬ Fresh w1 w2 x.block := fun x hx h0 q => by
        subst hx
        have := HR.out.lt h0
        have := q.1
        omega
      refine (cwrite_any HD2.out (by simp [newSd]) a ba bc b (HR.out.below HB2.out) hbo HBY.out).mono ?_
      rintro e w3 ⟨rfl, D3, o3⟩
      have B3 : Below w.heap.size w w3 := Below.onl HB2.out o3 (fun i hi => by have := hi.1; omega) (Nat.le_refl _)
      have hlo3 : ∀ i, Gro (Fresh w1 w2) w2 w3 i → w1.heap.size ≤ i := Gro.base (fun i hi => hi.1) z12
      have hhi3 : ∀ i, Gro (Fresh w1 w2) w2 w3 i → i < w3.heap.size := Gro.lt (fun i hi => hi.2) o3.size
      have cl3 := wrote_C (newSd n) a b
      have c0 : (newSd n).C.length = 0 := rfl
      generalize ((newSd n).wrote a b).2 = st3 at D3 cl3
      generalize ((newSd n).wrote a b).1 = e3
      generalize Gro (Fresh w1 w2) w2 w3 = O3 at D3 hlo3 hhi3
      have HD3 := hide D3
      have HB3 := hide B3
      have HLO := hide hlo3
      have HHI := hide hhi3
      have z3 := o3.size
      clear D3 o3 B3 hbo HD2 HB2 hlo3 hhi3
      go_wp2_with fail
      -- Flush
      refine (cflush_any HD3.out (by omega)).mono ?_
      rintro e w4 ⟨rfl, D4, o4⟩
      have B4 : Below w.heap.size w w4 := Below.onl HB3.out o4 (fun i hi => by have := HLO.out i hi; omega) (Nat.le_refl _)
      have z4 := o4.size
      have cl4 := flushed_C st3
      generalize st3.flushed.2 = st4 at D4 cl4
      generalize st3.flushed.1 = e4
      have HD4 := hide D4
      have HB4 := hide B4
      clear D4 o4 B4 HB3
      go_wp2_with fail
      -- Copy
      refine (ccopy_any HD4.out (by omega)).mono ?_
      rintro e w5 ⟨q, rfl, C5, b5⟩
      have B5 : Below w.heap.size w w5 := HB4.out.trans (b5.mono HB4.out.size)
      have z5 := b5.size
      have D5 := HD4.out.onl (F := fun _ => False) (Onl.ofBelow b5) (fun _ _ q => q)
      have hlo5 : ∀ i, Fresh w4 w5 i → w4.heap.size ≤ i := fun i hi => hi.1
      have hhi5 : ∀ i, Fresh w4 w5 i → i < w5.heap.size := fun i hi => hi.2
      generalize Fresh w4 w5 = U5 at C5 hlo5 hhi5
      have HD5 := hide D5
      have HC5 := hide C5
      have HB5 := hide B5
      have HUL := hide hlo5
      have HUH := hide hhi5
      clear D5 C5 b5 B5 HD4 HB4 hlo5 hhi5
      go_wp2_with fail
      -- Read of the copy
      refine (cread_any HC5.out (by omega) a).mono ?_
      rintro e w6 ⟨v1, rfl, T6, b6⟩
      have B6 : Below w.heap.size w w6 := HB5.out.trans (b6.mono HB5.out.size)
      have z6 := b6.size
      have D6 := HD5.out.onl (F := fun _ => False) (Onl.ofBelow b6) (fun _ _ q => q)
      have C6 := HC5.out.onl (F := fun _ => False) (Onl.ofBelow b6) (fun _ _ q => q)
      have R6 : Row (Fresh w5 w6) w6 5 1 v1 (st4.told a).1.length ((st4.told a).1.map (Value.int .u8)) := ⟨T6.mono (Nat.zero_le _), fun g hg => T6.lt g hg⟩
      obtain ⟨va1, vc1, rfl⟩ : ∃ a' c', v1 = .slice a' (st4.told a).1.length c' := by
        obtain ⟨a', c', h, _⟩ := R6.form
        exact ⟨a', c', h⟩
      have HD6 := hide D6
      have HC6 := hide C6
      have HB6 := hide B6
      have HR6 := hide R6
      clear D6 C6 B6 R6 T6 b6 HD5 HC5 HB5
      generalize hq2 : (st4.told a).2 = e6
      go_wp2_with fail
      -- the second Write
      have k7 : Ob (w6.alloc (.cells z32 5)) w6.heap.size 5 (secV zeros) := Ob.new w6 (secV zeros) 5
      have o7 : Onl (fun _ => False) w6 (w6.alloc (.cells z32 5)) := (Onl.refl _ w6).alloc _
      have z7 : (w6.alloc (.cells z32 5)).heap.size = w6.heap.size + 1 := by simp
      generalize w6.alloc (.cells z32 5) = W7 at k7 o7 z7 ⊢
      have D7 := HD6.out.onl o7 (fun _ _ q => q)
      have C7 := HC6.out.onl o7 (fun _ _ q => q)
      have R7 := HR6.out.onl o7 (fun _ _ q => q)
      have B7 : Below w.heap.size w W7 := Below.onl HB6.out o7 (fun _ q => q.elim) (Nat.le_refl _)
      refine (cwrite_any D7 (by omega) a (some ⟨w6.heap.size, 0, none⟩) 32 zeros (rd_ob k7) (fun x hx _ q => by cases hx; exact absurd (HHI.out w6.heap.size q) (by omega)) zeros_b).mono ?_
      rintro e w8 ⟨rfl, D8, o8⟩
      have z8 := o8.size
      have B8 : Below w.heap.size w w8 := Below.onl B7 o8 (fun i hi => by have := HLO.out i hi; omega) (Nat.le_refl _)
      have C8 := C7.onl o8 (fun i hi q => by have := HUL.out i hi; have := HHI.out i q; omega)
      have R8 := R7.onl o8 (fun g hg q => by have := (R7.2 g hg).1; have := HHI.out g q; omega)
      have cl8 := wrote_C st4 a zeros
      have hlo8 : ∀ i, Gro O3 W7 w8 i → w1.heap.size ≤ i := Gro.base HLO.out (by omega)
      have hap8 : ∀ i, Gro O3 W7 w8 i → i < w4.heap.size ∨ w6.heap.size < i := fun i hi => hi.elim (fun h => .inl (by have := HHI.out i h; omega)) (fun h => .inr (by have := h.1; omega))
      generalize (st4.wrote a zeros).2 = st8 at D8 cl8
      generalize (st4.wrote a zeros).1 = e8
      generalize Gro O3 W7 w8 = O8 at D8 hlo8 hap8
      have HD8 := hide D8
      have HC8 := hide C8
      have HB8 := hide B8
      have HR8 := hide R8
      have HL8 := hide hlo8
      have HA8 := hide hap8
      clear D8 C8 B8 R8 hlo8 hap8 o8 D7 C7 R7 B7 k7 o7 HD6 HC6 HB6 HR6
      go_wp2_with fail
      -- the second Flush
      refine (cflush_any HD8.out (by omega)).mono ?_
      rintro e w9 ⟨rfl, D9, o9⟩
      have z9 := o9.size
      have B9 : Below w.heap.size w w9 := Below.onl HB8.out o9 (fun i hi => by have := HL8.out i hi; omega) (Nat.le_refl _)
      have C9 := HC8.out.onl o9 (fun i hi q => by have := HUL.out i hi; have := HUH.out i hi; rcases HA8.out i q with h | h <;> omega)
      have R9 := HR8.out.onl o9 (fun g hg q => by have := (HR8.out.2 g hg).1; have := (HR8.out.2 g hg).2; rcases HA8.out g q with h | h <;> omega)
      generalize st8.flushed.1 = e9
      have HC9 := hide C9
      have HB9 := hide B9
      have HR9 := hide R9
      clear D9 C9 B9 R9 o9 HD8 HC8 HB8 HR8
      go_wp2_with fail
      -- the copy again
      refine (cread_any HC9.out (by omega) a).mono ?_
      rintro e w10 ⟨v2, rfl, T10, b10⟩
      have B10 : Below w.heap.size w w10 := HB9.out.trans (b10.mono HB9.out.size)
      have R10 := HR9.out.onl (F := fun _ => False) (Onl.ofBelow b10) (fun _ _ q => q)
      have cv1 := conv_own R10.1
      have cv2 := conv_own T10
      obtain ⟨va2, vc2, rfl⟩ : ∃ a' c', v2 = .slice a' (st4.told a).1.length c' := by
        rcases T10.2 with ⟨h, hz⟩ | ⟨g, c, cur, h, _⟩
        · exact ⟨none, 0, by rw [hz]; exact h⟩
        · exact ⟨_, c, h⟩
      have HB10 := hide B10
      rw [hq2]
      clear T10 b10 B10 R10 HC9 HB9 HR9 hq2
      go_wp2_with (first
        | (go_at_call 17; refine (narm_any 3 _).mono ?_; rintro e w' ⟨rfl, rfl⟩)
        | (go_at_call 19; refine (ncrash_any _ _ _ _).mono ?_; rintro e w11 ⟨rfl, b11⟩; have d1 := cv1 w11 b11; have d2 := cv2 w11 b11; have HB11 := hide (HB10.out.trans (b11.mono HB10.out.size)); clear b11)
        | (go_at_call 21; refine (nfault_any a true _).mono ?_; rintro e w' ⟨rfl, rfl⟩)
        | (go_at_call 13; refine (nread_any a _).mono ?_; rintro e w' ⟨rfl, rfl⟩)
        | (go_at_call 11; refine (nwrite_any a _ _).mono ?_; rintro e w' ⟨rfl, rfl⟩)
        | (go_at_call 15; refine (nflush_any _).mono ?_; rintro e w' ⟨rfl, rfl⟩)
        | (go_at_call 27; refine (nsize_any _).mono ?_; rintro e w' ⟨rfl, rfl⟩)
        | (go_at_call 26; refine (ncached_any _).mono ?_; rintro e w' ⟨rfl, rfl⟩)
        | (go_at_call 25; refine (ndead_any _).mono ?_; rintro e w' ⟨rfl, rfl⟩)
        | (go_at_call 23; refine (ncopy_any _).mono ?_; rintro e w' ⟨rfl, rfl⟩))
      go_ret
      exact ⟨by simp, HB11.out⟩
end Go.Proofs.Ytgkgbemliinajaa
