/- SuperLoads, over the translation. -/
import Derived.Test.YtdpbkmbegjcgjaaCLo
import Derived.Test.YtdpbkmbegjcgjaaSag
import Derived.Test.YtdpbkmbegjcgjaaTwo
import Derived.Test.YtdpbkmbegjcgjaaSupI
import Derived.Test.YtdpbkmbegjcgjaaSpa
namespace Go.Proofs.Ytdpbkmbegjcgjaa
open Go.RowKit Apo Go.Maps

set_option maxRecDepth 100000 in
set_option maxHeartbeats 8000000 in
theorem loads_any (n : Int) (hn0 : -9223372036854775808 ≤ n) (hn1 : n ≤ 9223372036854775807) (a : Option Addr) (ca : Nat) (la : List Int) (b : Option Addr) (cb : Nat) (lb : List Int) (sa : Option Addr) (sc : Nat) (l : List Sup) (w : World)
    (ra : Rd .u8 w a la) (na : a = none → ca = 0) (ba : ∀ z ∈ la, 0 ≤ z ∧ z ≤ 255) (rb : Rd .u8 w b lb) (nb : b = none → cb = 0) (bb : ∀ z ∈ lb, 0 ≤ z ∧ z ≤ 255) (rs : RdS w sa l) :
    Calls Try.prog 4 #[.int .i64 n, .slice a la.length ca, .slice b lb.length cb, .slice sa l.length sc] w fun e w' => e = .returned (.bool true) ∧ Below w.heap.size w w' := by
  have RA := hide ra
  have NA := hide na
  have BA := hide ba
  have RB := hide rb
  have NB := hide nb
  have BB := hide bb
  have RS := hide rs
  clear ra na ba rb nb bb rs
  by_cases hbig : n > 10 ∨ la.length > 40 ∨ lb.length > 40 ∨ l.length > 8
  · go_enter Try.func4, Try.ntmps4
    go_wp2_with fail
    refine (awake_any put_does of_does w).mono ?_
    rintro e w1 ⟨rfl, b1⟩
    have HB1 := hide b1
    clear b1
    rcases hbig with h | h | h | h
    all_goals (
      go_wp2
      all_goals (go_ret; exact ⟨rfl, HB1.out⟩))
  · have hn : ¬ 10 < n := by omega
    have hla : la.length ≤ 40 := by omega
    have hlb : lb.length ≤ 40 := by omega
    have hl : l.length ≤ 8 := by omega
    clear hbig
    go_enter Try.func4, Try.ntmps4
    go_wp2_with fail
    refine (awake_any put_does of_does w).mono ?_
    rintro e w2 ⟨rfl, b2⟩
    have HB2 := hide b2
    clear b2
    go_wp2_with fail
    refine (cnew_any n w2).mono ?_
    rintro e w3 ⟨p, rfl, D3, b3⟩
    have HB3 := hide (HB2.out.trans (b3.mono HB2.out.size))
    have HD3 := hide D3
    have z2 := HB2.out.size
    have z3 := b3.size
    clear D3 b3
    go_wp2_with fail
    refine (rnew_any n w3 hn0 hn1).mono ?_
    rintro e w4 ⟨rfl, R4, b4⟩
    have T4 : Two w w4 p w3.heap.size (Fresh w2 w3) (Fresh w3 w4) (newSd n) (newSd n) := ⟨HD3.out.onl (F := fun _ => False) (Onl.ofBelow b4) (fun _ _ q => q), rdev_fresh R4, HB3.out.trans (b4.mono HB3.out.size), fun i hi => by have := hi.1; omega, fun i hi => by have := hi.1; omega, fun i hi => by have := hi.2; have := b4.size; omega, fun i hi => hi.2, fun i hu hi => absurd hi.2 (Nat.not_lt.2 hu.1)⟩
    generalize Fresh w2 w3 = O4 at T4
    generalize Fresh w3 w4 = U4 at T4
    generalize hq4 : w3.heap.size = q at T4
    have hC4 : (newSd n).C.length = 0 := rfl
    generalize newSd n = st4 at T4 hC4
    have HT4 := hide T4
    clear T4 R4 b4 HB3 HD3 HB2 z2 z3
    go_wp2_with fail
    refine (cwrite_any HT4.out.c (by omega) 0 a ca la (RA.out.below HT4.out.bel) (HT4.out.bytC RA.out) BA.out).mono ?_
    rintro e w5 ⟨rfl, D5, o5⟩
    have HT5 := hide (HT4.out.turnC o5 D5)
    clear D5 o5
    go_wp2_with fail
    refine (rwrite_any HT5.out.r (by omega) 0 a ca la (RA.out.below HT5.out.bel) NA.out (HT5.out.bytR RA.out) BA.out).mono ?_
    rintro e w6 ⟨rfl, D6, o6⟩
    have T6 := HT5.out.turnR o6 D6
    have hC6 := wrote_C st4 0 la
    generalize (st4.wrote 0 la).2 = st6 at T6 hC6
    generalize Gro O4 w4 w5 = O6 at T6
    generalize Gro U4 w5 w6 = U6 at T6
    have HT6 := hide T6
    clear D6 o6 T6 HT4 HT5
    go_wp2_with fail
    refine (cwrite_any HT6.out.c (by omega) 1 b cb lb (RB.out.below HT6.out.bel) (HT6.out.bytC RB.out) BB.out).mono ?_
    rintro e w7 ⟨rfl, D7, o7⟩
    have HT7 := hide (HT6.out.turnC o7 D7)
    clear D7 o7
    go_wp2_with fail
    refine (rwrite_any HT7.out.r (by omega) 1 b cb lb (RB.out.below HT7.out.bel) NB.out (HT7.out.bytR RB.out) BB.out).mono ?_
    rintro e w8 ⟨rfl, D8, o8⟩
    have T8 := HT7.out.turnR o8 D8
    have hC8 := wrote_C st6 1 lb
    generalize (st6.wrote 1 lb).2 = st8 at T8 hC8
    generalize Gro O6 w6 w7 = O8 at T8
    generalize Gro U6 w7 w8 = U8 at T8
    have HT8 := hide T8
    have hCC : st8.C.length ≤ 2 := by omega
    clear D8 o8 T8 HT6 HT7 hC8 hC6 hC4 hq4
    go_wp2
    go_loopw [54] (fun i wr => ∃ (k : Nat) (O U : Nat → Prop) (st : Sd), k ≤ l.length ∧ i = .int .i64 k ∧ st.C.length ≤ k + 2 ∧ Hid (Two w wr p q O U st st)) (fun i _ => l.length - (intOf i).toNat)
    case atStart => exact ⟨0, O8, U8, st8, Nat.zero_le _, rfl, by omega, HT8⟩
    case round =>
      obtain ⟨k, O, U, st, hk, rfl, hC, hT⟩ := hrel
      by_cases hlt : k < l.length
      · obtain ⟨s, hs⟩ : ∃ s, l[k]? = some s := ⟨_, List.getElem?_eq_getElem hlt⟩
        obtain ⟨oks, b', off', ha', q0, q1, q2, q3⟩ := RS.out.below hT.out.bel k s hs
        subst ha'
        have T1 := hT.out.below ((Below.refl _ wr).alloc (Nat.le_refl _) (.cells #[.int .u64 s.e, .int .u32 s.st, .int .u32 s.pg, .int .u32 s.sz] 25))
        have k1 := ob_sup wr s
        have hap : ∀ i, O i ∨ U i → i < wr.heap.size := fun i hi => hi.elim (hT.out.hiO i) (hT.out.hiU i)
        generalize hW1 : wr.alloc (.cells #[.int .u64 s.e, .int .u32 s.st, .int .u32 s.pg, .int .u32 s.sz] 25) = W1 at T1 k1
        have HAP := hide hap
        have HS := hide oks
        have HT1 := hide T1
        obtain ⟨x0, x1, x2, x3⟩ := sup_cells k1
        have HK1 := hide k1
        have hne : ((st.save s).1 != (st.save s).1) = false := by simp
        have hsc := save_C st s
        clear hs oks hT hap T1 k1
        go_wp2
        go_region_held3 (fun W' => W'.cell? ⟨wr.heap.size, 0, none⟩ = some (.int .u64 s.e) ∧ W'.cell? ⟨wr.heap.size, 1, none⟩ = some (.int .u32 s.st) ∧ W'.cell? ⟨wr.heap.size, 2, none⟩ = some (.int .u32 s.pg) ∧ W'.cell? ⟨wr.heap.size, 3, none⟩ = some (.int .u32 s.sz)) (go_keep) (first
          | (go_at_call 16; refine (csave_agg HT1.out.drew.c HT1.out.drew.hiO (by omega) s HS.out).mono ?_; rintro e w2 ⟨rfl, D2, o2⟩; have k2 := Ob.onl (w := W1.drew) HK1.out o2 (fun q => absurd (HAP.out _ (.inl q)) (Nat.lt_irrefl _)); obtain ⟨y0, y1, y2, y3⟩ := sup_cells k2; have HT2 := hide (HT1.out.drew.turnC o2 D2); have HK2 := hide k2; clear D2 o2 k2)
          | (go_at_call 17; refine (rsave_agg HT2.out.r HT2.out.hiU (by omega) s HS.out).mono ?_; rintro e w3 ⟨rfl, D3, o3⟩; have k3 := HK2.out.onl o3 (fun q => absurd (HAP.out _ (.inr q)) (Nat.lt_irrefl _)); obtain ⟨y0, y1, y2, y3⟩ := sup_cells k3; have HTF := hide (HT2.out.turnR o3 D3); clear D3 o3 k3)
          | (go_at_call 17; refine (rsave_agg HT1.out.drew.r HT1.out.drew.hiU (by omega) s HS.out).mono ?_; rintro e w4 ⟨rfl, D4, o4⟩; have k4 := Ob.onl (w := W1.drew) HK1.out o4 (fun q => absurd (HAP.out _ (.inr q)) (Nat.lt_irrefl _)); obtain ⟨y0, y1, y2, y3⟩ := sup_cells k4; have HT4 := hide (HT1.out.drew.turnR o4 D4); have HK4 := hide k4; clear D4 o4 k4)
          | (go_at_call 16; refine (csave_agg HT4.out.c HT4.out.hiO (by omega) s HS.out).mono ?_; rintro e w5 ⟨rfl, D5, o5⟩; have k5 := HK4.out.onl o5 (fun q => absurd (HAP.out _ (.inl q)) (Nat.lt_irrefl _)); obtain ⟨y0, y1, y2, y3⟩ := sup_cells k5; have HTF := hide (HT4.out.turnC o5 D5); clear D5 o5 k5))
        all_goals (
          go_wp2
          go_roundw
          case rel => exact ⟨k + 1, _, _, _, hlt, by simp, by omega, HTF⟩
          case measure => simp [intOf]; omega)
      · have HC1 := hide (cload_any hT.out.c hT.out.hiO (by omega))
        go_wp2_with fail
        refine HC1.out.mono ?_
        rintro e w2 ⟨rfl, b2⟩
        have T2 := hT.out.below b2
        have BA2 := (Below.refl w2.heap.size w2).alloc (Nat.le_refl _) (.cells #[.int .u64 st.load.1.e, .int .u32 st.load.1.st, .int .u32 st.load.1.pg, .int .u32 st.load.1.sz] 25)
        have T3 := T2.below BA2
        have hC2 := rload_any T3.r (by omega)
        have k3 := ob_sup w2 st.load.1
        rw [sup_val] at hC2 ⊢
        have HC2 := hide hC2
        have HT3 := hide T3
        have HK3 := hide k3
        clear hC2 T3 k3 T2 b2 BA2 HC1 hT
        have hm : Try.prog.eqGuardType Try.prog.depth 25 = false := by kernel_rfl
        have hq := eqS st.load.1 st.load.1
        rw [decide_eq_true rfl] at hq
        generalize st.load.1 = u at *
        generalize st.load.2 = z at *
        generalize hW3 : w2.alloc (.cells #[.int .u64 u.e, .int .u32 u.st, .int .u32 u.pg, .int .u32 u.sz] 25) = W3 at HC2 HT3 HK3
        go_wp2_with fail
        subst hW3
        refine HC2.out.mono ?_
        rintro e w4 ⟨rfl, b4⟩
        have BA4 := (Below.refl w4.heap.size w4).alloc (Nat.le_refl _) (.cells #[.int .u64 u.e, .int .u32 u.st, .int .u32 u.pg, .int .u32 u.sz] 25)
        have k4 := (HK3.out.old b4).old BA4
        have j4 := ob_sup w4 u
        have HB4 := hide ((HT3.out.below b4).below BA4).bel
        obtain ⟨x0, x1, x2, x3⟩ := sup_cells k4
        obtain ⟨y0, y1, y2, y3⟩ := sup_cells j4
        generalize hW5 : w4.alloc (.cells #[.int .u64 u.e, .int .u32 u.st, .int .u32 u.pg, .int .u32 u.sz] 25) = W5 at *
        clear b4 BA4 k4 j4
        go_wp2
        go_ret
        exact ⟨rfl, HB4.out⟩
end Go.Proofs.Ytdpbkmbegjcgjaa
