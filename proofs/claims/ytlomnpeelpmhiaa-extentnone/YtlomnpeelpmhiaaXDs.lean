/- ExtentDoes, over any extent that does what is meant. Over the translation. -/
import Derived.Test.YtlomnpeelpmhiaaXDo
namespace Go.Proofs.Ytlomnpeelpmhiaa
open Go.RowKit Apo

/-- a deed -/
structure De where
  k : Int
  s : Spn
def De.cells (d : De) : List Value := [.int .i64 d.k, .int .i64 d.s.a, .int .i64 d.s.k]
/-- the slice's cells, from its address on, hold the deeds l -/
def RdE (w : World) (a : Option Addr) (l : List De) : Prop :=
  ∀ i d, l[i]? = some d → Spn.Ok d.s ∧ ∃ b off, a = some ⟨b, off, none⟩ ∧ w.cell? ⟨b, off + i * 3, none⟩ = some (.int .i64 d.k) ∧ w.cell? ⟨b, off + i * 3 + 1, none⟩ = some (.int .i64 d.s.a) ∧ w.cell? ⟨b, off + i * 3 + 2, none⟩ = some (.int .i64 d.s.k)
theorem RdE.below {w w' : World} {a : Option Addr} {l : List De} (h : RdE w a l) (hb : Below w.heap.size w w') : RdE w' a l := by
  intro i d hi
  obtain ⟨ok, b, off, ha, c0, c1, c2⟩ := h i d hi
  have hlt := World.block_lt_of_cell? w _ c0
  exact ⟨ok, b, off, ha, (hb.cell (by exact hlt)).trans c0, (hb.cell (by exact hlt)).trans c1, (hb.cell (by exact hlt)).trans c2⟩

theorem sum_snoc (R : List (Nat × Nat)) (x : Nat × Nat) : sumP (R ++ [x]) = sumP R + x.2 := by simp [sumP, List.foldl_append]
theorem max_snoc (R : List (Nat × Nat)) (x : Nat × Nat) : maxP (R ++ [x]) = max (maxP R) x.2 := by simp [maxP, List.foldl_append]
theorem sum_bound (M : Nat) : ∀ (R : List (Nat × Nat)) (a : Nat), (∀ x ∈ R, x.2 ≤ M) → R.foldl (fun m x => m + x.2) a ≤ a + R.length * M
  | [], a, _ => by simp
  | x :: R, a, h => by
    have h1 := h x (by simp)
    have h2 := sum_bound M R (a + x.2) (fun y hy => h y (by simp [hy]))
    rw [List.foldl_cons, List.length_cons, Nat.add_mul, Nat.one_mul]
    omega
theorem rows_len {f : Fr} (ok : OkFr f) : f.rows.length ≤ 16384 := Nat.le_trans (spans_len f.L f.L.length) ok.len
theorem rows_each {f : Fr} (ok : OkFr f) : ∀ x ∈ f.rows, x.1 ≤ 16384 ∧ x.2 ≤ 16384 := fun x hx => by
  have h := (spans_all f.L f.L.length).2.2.1 x hx
  have := ok.len
  omega
theorem sum_take {f : Fr} (ok : OkFr f) (j : Nat) : sumP (f.rows.take j) ≤ 268435456 := by
  have h := sum_bound 16384 (f.rows.take j) 0 (fun x hx => (rows_each ok x (List.mem_of_mem_take hx)).2)
  have h2 := rows_len ok
  have h3 : (f.rows.take j).length ≤ 16384 := by simp; omega
  have h4 := Nat.mul_le_mul_right 16384 h3
  show (f.rows.take j).foldl (fun m x => m + x.2) 0 ≤ _
  omega
theorem take_one {α : Type} {l : List α} {j : Nat} {x : α} (h : l[j]? = some x) : l.take (j + 1) = l.take j ++ [x] := by
  rw [List.take_add_one, h]; rfl

set_option maxRecDepth 100000 in
set_option maxHeartbeats 16000000 in
theorem xdoes_any {C : Cfr} (E : ExtDo C) (m n : Int) (hm1 : m ≤ 9223372036854775807) (a : Option Addr) (cap : Nat) (l : List De) (w : World) (hr : RdE w a l) :
    Calls Try.prog 3 #[.int .i64 m, .int .i64 n, .slice a l.length cap] w fun e w' => e = .returned (.bool true) ∧ Below w.heap.size w w' := by
  have HE := hide E
  have HR := hide hr
  clear E hr
  by_cases hbig : n > 100 ∨ l.length > 40
  · go_enter Try.func3, Try.ntmps3
    go_wp2_with fail
    refine (xawake_any HE.out w).mono ?_
    rintro e w1 ⟨rfl, b1⟩
    have HB1 := hide b1
    clear b1
    rcases hbig with h | h
    all_goals (
      go_wp2
      all_goals (go_ret; exact ⟨rfl, HB1.out⟩))
  have hn : ¬ 100 < n := by omega
  have hl : l.length ≤ 40 := by omega
  clear hbig
  go_enter Try.func3, Try.ntmps3
  go_wp2_with fail
  refine (xawake_any HE.out w).mono ?_
  rintro e w2 ⟨rfl, b2⟩
  have HB2 := hide b2
  clear b2
  go_wp2_with fail
  refine (HE.out.new m n w2 hm1).mono ?_
  rintro e w3 ⟨p, rfl, D3, b3⟩
  have HD3 := hide D3
  have HB3 := hide b3
  clear D3 b3
  go_wp2_with fail
  refine (rnewf_any m n w3 hm1).mono ?_
  rintro e w4 ⟨rfl, R4, b4⟩
  have z2 := HB2.out.size
  have z3 := HB3.out.size
  have T4 : TwF C w w4 p w3.heap.size (fun i => w2.heap.size ≤ i ∧ i < w3.heap.size) (fun i => w3.heap.size ≤ i ∧ i < w4.heap.size) (newFr m n) (newFr m n) :=
    ⟨HE.out.onl HD3.out (F := fun _ => False) (Onl.ofBelow b4) (fun _ _ q => q), R4, (HB2.out.trans (HB3.out.mono z2)).trans (b4.mono (by omega)), fun i hi => by have := hi.1; omega, fun i hi => by have := hi.1; omega, fun i hi => by have := hi.2; have := b4.size; omega, fun i hi => hi.2, fun i hu hi => absurd hi.2 (Nat.not_lt.2 hu.1)⟩
  generalize (fun i => w2.heap.size ≤ i ∧ i < w3.heap.size) = O4 at T4
  generalize (fun i => w3.heap.size ≤ i ∧ i < w4.heap.size) = U4 at T4
  generalize hq4 : w3.heap.size = q4 at T4
  generalize newFr m n = f4 at T4
  have HT4 := hide T4
  clear T4 R4 b4 HD3 HB2 HB3 z2 z3
  go_wp2
  go_loopw [7, 8, 37] (fun v7 v8 i wr => ∃ (k p q : Nat) (O U : Nat → Prop) (f : Fr), k ≤ l.length ∧ v7 = .pointer (some ⟨p, 0, none⟩) ∧ v8 = .pointer (some ⟨q, 0, none⟩) ∧ i = .int .i64 k ∧ Hid (TwF C w wr p q O U f f)) (fun _ _ i _ => l.length - (intOf i).toNat)
  case atStart => exact ⟨0, p, q4, O4, U4, f4, Nat.zero_le _, rfl, rfl, rfl, HT4⟩
  case round =>
    obtain ⟨k, p, q, O, U, f, hk, rfl, rfl, rfl, hT⟩ := hrel
    by_cases hlt : k < l.length
    · obtain ⟨d, hd⟩ : ∃ d, l[k]? = some d := ⟨_, List.getElem?_eq_getElem hlt⟩
      obtain ⟨okd, b', off', ha', q0, q1, q2⟩ := HR.out.below hT.out.bel k d hd
      subst ha'
      have BA := (Below.refl wr.heap.size wr).alloc (Nat.le_refl _) (.cells #[.int .i64 d.k, .int .i64 d.s.a, .int .i64 d.s.k] 31)
      have T1 := hT.out.below HE.out BA
      have k1 : Ob (wr.alloc (.cells #[.int .i64 d.k, .int .i64 d.s.a, .int .i64 d.s.k] 31)) wr.heap.size 31 [.int .i64 d.k, .int .i64 d.s.a, .int .i64 d.s.k] := Ob.new wr [.int .i64 d.k, .int .i64 d.s.a, .int .i64 d.s.k] 31
      have hap : ∀ i, O i ∨ U i → i < wr.heap.size := fun i hi => hi.elim (hT.out.hiO i) (hT.out.hiU i)
      generalize hW1 : wr.alloc (.cells #[.int .i64 d.k, .int .i64 d.s.a, .int .i64 d.s.k] 31) = W1 at T1 k1
      have x0 := k1.cell 0
      have x1 := k1.cell 1
      have x2 := k1.cell 2
      simp only [List.getElem?_cons_zero, List.getElem?_cons_succ] at x0 x1 x2
      have HT1 := hide T1
      have HK1 := hide k1
      have HAP := hide hap
      have HOKD := hide okd
      clear hd okd BA T1 k1 hap hT
      by_cases k0 : d.k = 0
      · have hk0 := hide k0
        rw [k0] at x0
        clear k0
        go_wp2_with fail
        refine (HE.out.take HT1.out.c HT1.out.hiO d.s.k HOKD.out.k0 HOKD.out.k1).mono ?_
        rintro e w2 ⟨rfl, D2, o2⟩
        have k2 := HK1.out.onl o2 (fun q => absurd (HAP.out _ (.inl q)) (Nat.lt_irrefl _))
        have y2 := k2.cell 2
        simp only [List.getElem?_cons_zero, List.getElem?_cons_succ] at y2
        have HT2 := hide (HT1.out.turnC o2 D2)
        clear D2 o2 k2
        go_wp2_with fail
        refine (rtake_any HT2.out.r HT2.out.hiU d.s.k).mono ?_
        rintro e w3 ⟨rfl, D3, o3⟩
        have HT5 := hide (HT2.out.turnR HE.out o3 D3)
        clear D3 o3
        have he1 : ((f.take d.s.k).1.1 == (f.take d.s.k).1.1) = true := by simp
        have he2 : ((f.take d.s.k).1.2 == (f.take d.s.k).1.2) = true := by simp
        generalize hf5 : (f.take d.s.k).2 = f5 at HT5
        generalize hO5 : Gro O W1 w2 = O5 at HT5
        generalize hU5 : U = U5 at HT5
        generalize hp5 : p = p5 at HT5
        generalize hq5 : q = q5 at HT5
        clear hf5 hO5 hU5
        have hok5 := HE.out.ok HT5.out.c
        have HOK5 := hide hok5
        have hrl := rows_len hok5
        clear hok5
        go_wp2_with fail
        refine (rspans_any HT5.out.r).mono ?_
        rintro e w6 ⟨v6, rfl, r6, b6⟩
        obtain ⟨a6, c6, hv6⟩ := own_len2 r6
        subst hv6
        have HRP := hide (RdP.own r6).1
        have HT6 := hide (HT5.out.below HE.out b6)
        clear r6 b6
        go_wp2
        go_loopw [16, 17, 109] (fun v16 v17 i wx => ∃ J : Nat, J ≤ f5.rows.length ∧ i = .int .i64 J ∧ v16 = .int .i64 (sumP (f5.rows.take J)) ∧ v17 = .int .i64 (maxP (f5.rows.take J)) ∧ Hid (TwF C w wx p5 q5 O5 U5 f5 f5) ∧ Hid (Below w6.heap.size w6 wx)) (fun _ _ i _ => f5.rows.length - (intOf i).toNat)
        case atStart => exact ⟨0, Nat.zero_le _, rfl, by simp [sumP], by simp [maxP], HT6, Below.refl _ _⟩
        case round =>
          obtain ⟨J, hJ, rfl, rfl, rfl, hTx, hBx⟩ := hrel
          by_cases hJl : J < f5.rows.length
          · obtain ⟨x, hx⟩ : ∃ x, f5.rows[J]? = some x := ⟨_, List.getElem?_eq_getElem hJl⟩
            obtain ⟨b2, off2, ha2, e0, e1⟩ := HRP.out.below hBx.out J x hx
            subst ha2
            have hxb := (rows_each HOK5.out x (List.mem_of_getElem? hx)).2
            have hsb := sum_take HOK5.out J
            have hs1 := sum_snoc (f5.rows.take J) x
            have hm1 := max_snoc (f5.rows.take J) x
            rw [← take_one hx] at hs1 hm1
            have BA2 := (Below.refl wr.heap.size wr).alloc (Nat.le_refl _) (.cells #[.int .i64 x.1, .int .i64 x.2] 29)
            have HT7 := hide (hTx.out.below HE.out BA2)
            have HB7 := hide (hBx.out.trans (BA2.mono hBx.out.size))
            have HS1 := hide hs1
            have HM1 := hide hm1
            clear hs1 hm1 hx BA2 hTx hBx
            go_wp2
            go_roundw
            case rel => exact ⟨J + 1, hJl, by simp, by rw [HS1.out]; simp, by rw [HM1.out]; congr 1; omega, HT7, HB7⟩
            case measure => simp [intOf]; omega
          · have hJe : J = f5.rows.length := by omega
            have hta : f5.rows.take J = f5.rows := List.take_of_length_le (by omega)
            rw [hta]
            clear hta
            have BAr := (Below.refl wr.heap.size wr).alloc (Nat.le_refl _) (.cells #[.slice none 0 0] 37)
            have Tr := hTx.out.below HE.out BAr
            have HRW := hide (rows_any (w := wr) hTx.out.hiO (HE.out.spans Tr.c (fun i hi => Tr.hiO i hi)) hrl)
            clear BAr Tr
            go_wp2_with fail
            refine HRW.out.mono ?_
            rintro e w7 ⟨v7, rfl, r7, b7⟩
            obtain ⟨a7, c7, hv7⟩ := own_len2 r7
            subst hv7
            have HT7 := hide (hTx.out.below HE.out b7)
            have HR7 := hide (RdP.own r7).1
            clear r7 b7 HRW
            go_wp2_with fail
            refine (rspans_any HT7.out.r).mono ?_
            rintro e w8 ⟨v8, rfl, r8, b8⟩
            obtain ⟨a8, c8, hv8⟩ := own_len2 r8
            subst hv8
            have HT8 := hide (HT7.out.below HE.out b8)
            have HSM := hide (same_any (w := w8) a7 a8 c7 c8 f5.rows f5.rows (HR7.out.below b8) (RdP.own r8).1 (by omega))
            clear r8 b8
            go_wp2_with fail
            refine HSM.out.mono ?_
            rintro e w9 ⟨rfl, b9⟩
            simp only [decide_true]
            have HT9 := hide (HT8.out.below HE.out b9)
            clear b9 HSM
            go_wp2_with fail
            refine (HE.out.count HT9.out.c HT9.out.hiO).mono ?_
            rintro e w10 ⟨rfl, d10, o10⟩
            have HT10 := hide (HT9.out.turnC o10 d10)
            clear d10 o10
            have hc1 : ((sumP f5.rows : Int) != (sumP f5.rows : Int)) = false := by simp
            go_wp2_with fail
            refine (HE.out.largest HT10.out.c HT10.out.hiO).mono ?_
            rintro e w11 ⟨rfl, d11, o11⟩
            have HT11 := hide (HT10.out.turnC o11 d11)
            clear d11 o11
            have hc2 : ((maxP f5.rows : Int) != (maxP f5.rows : Int)) = false := by simp
            go_wp2
            go_roundw
            case rel => exact ⟨k + 1, p5, q5, _, _, f5, hlt, rfl, rfl, by simp, HT11⟩
            case measure => simp [intOf]; omega
      by_cases k1 : d.k = 1
      · have hk0 := hide k1
        rw [k1] at x0
        clear k1
        go_wp2
        go_region_held3 (fun W' => W'.cell? ⟨wr.heap.size, 1, none⟩ = some (.int .i64 d.s.a) ∧ W'.cell? ⟨wr.heap.size, 2, none⟩ = some (.int .i64 d.s.k)) (go_keep) (first
          | (go_at_call 11; refine (HE.out.claim (HT1.out.drew HE.out).c (HT1.out.drew HE.out).hiO d.s HOKD.out).mono ?_; rintro e w2 ⟨rfl, D2, o2⟩; have k2 := Ob.onl (w := W1.drew) HK1.out o2 (fun q => absurd (HAP.out _ (.inl q)) (Nat.lt_irrefl _)); have y1 := k2.cell 1; have y2 := k2.cell 2; simp only [List.getElem?_cons_zero, List.getElem?_cons_succ] at y1 y2; have HT2 := hide ((HT1.out.drew HE.out).turnC o2 D2); have HK2 := hide k2; clear D2 o2 k2)
          | (go_at_call 12; refine (rclaim_any HT2.out.r HT2.out.hiU d.s).mono ?_; rintro e w3 ⟨rfl, D3, o3⟩; have k3 := HK2.out.onl o3 (fun q => absurd (HAP.out _ (.inr q)) (Nat.lt_irrefl _)); have y1 := k3.cell 1; have y2 := k3.cell 2; simp only [List.getElem?_cons_zero, List.getElem?_cons_succ] at y1 y2; have HT5 := hide (HT2.out.turnR HE.out o3 D3); clear D3 o3 k3))
        have he1 : ((f.claim d.s).1 == (f.claim d.s).1) = true := by simp
        generalize hf5 : (f.claim d.s).2 = f5 at HT5
        generalize hO5 : Gro O W1.drew w2 = O5 at HT5
        generalize hU5 : U = U5 at HT5
        generalize hp5 : p = p5 at HT5
        generalize hq5 : q = q5 at HT5
        clear hf5 hO5 hU5
        have hok5 := HE.out.ok HT5.out.c
        have HOK5 := hide hok5
        have hrl := rows_len hok5
        clear hok5
        go_wp2_with fail
        refine (rspans_any HT5.out.r).mono ?_
        rintro e w6 ⟨v6, rfl, r6, b6⟩
        obtain ⟨a6, c6, hv6⟩ := own_len2 r6
        subst hv6
        have HRP := hide (RdP.own r6).1
        have HT6 := hide (HT5.out.below HE.out b6)
        clear r6 b6
        go_wp2
        go_loopw [16, 17, 109] (fun v16 v17 i wx => ∃ J : Nat, J ≤ f5.rows.length ∧ i = .int .i64 J ∧ v16 = .int .i64 (sumP (f5.rows.take J)) ∧ v17 = .int .i64 (maxP (f5.rows.take J)) ∧ Hid (TwF C w wx p5 q5 O5 U5 f5 f5) ∧ Hid (Below w6.heap.size w6 wx)) (fun _ _ i _ => f5.rows.length - (intOf i).toNat)
        case atStart => exact ⟨0, Nat.zero_le _, rfl, by simp [sumP], by simp [maxP], HT6, Below.refl _ _⟩
        case round =>
          obtain ⟨J, hJ, rfl, rfl, rfl, hTx, hBx⟩ := hrel
          by_cases hJl : J < f5.rows.length
          · obtain ⟨x, hx⟩ : ∃ x, f5.rows[J]? = some x := ⟨_, List.getElem?_eq_getElem hJl⟩
            obtain ⟨b2, off2, ha2, e0, e1⟩ := HRP.out.below hBx.out J x hx
            subst ha2
            have hxb := (rows_each HOK5.out x (List.mem_of_getElem? hx)).2
            have hsb := sum_take HOK5.out J
            have hs1 := sum_snoc (f5.rows.take J) x
            have hm1 := max_snoc (f5.rows.take J) x
            rw [← take_one hx] at hs1 hm1
            have BA2 := (Below.refl wr.heap.size wr).alloc (Nat.le_refl _) (.cells #[.int .i64 x.1, .int .i64 x.2] 29)
            have HT7 := hide (hTx.out.below HE.out BA2)
            have HB7 := hide (hBx.out.trans (BA2.mono hBx.out.size))
            have HS1 := hide hs1
            have HM1 := hide hm1
            clear hs1 hm1 hx BA2 hTx hBx
            go_wp2
            go_roundw
            case rel => exact ⟨J + 1, hJl, by simp, by rw [HS1.out]; simp, by rw [HM1.out]; congr 1; omega, HT7, HB7⟩
            case measure => simp [intOf]; omega
          · have hJe : J = f5.rows.length := by omega
            have hta : f5.rows.take J = f5.rows := List.take_of_length_le (by omega)
            rw [hta]
            clear hta
            have BAr := (Below.refl wr.heap.size wr).alloc (Nat.le_refl _) (.cells #[.slice none 0 0] 37)
            have Tr := hTx.out.below HE.out BAr
            have HRW := hide (rows_any (w := wr) hTx.out.hiO (HE.out.spans Tr.c (fun i hi => Tr.hiO i hi)) hrl)
            clear BAr Tr
            go_wp2_with fail
            refine HRW.out.mono ?_
            rintro e w7 ⟨v7, rfl, r7, b7⟩
            obtain ⟨a7, c7, hv7⟩ := own_len2 r7
            subst hv7
            have HT7 := hide (hTx.out.below HE.out b7)
            have HR7 := hide (RdP.own r7).1
            clear r7 b7 HRW
            go_wp2_with fail
            refine (rspans_any HT7.out.r).mono ?_
            rintro e w8 ⟨v8, rfl, r8, b8⟩
            obtain ⟨a8, c8, hv8⟩ := own_len2 r8
            subst hv8
            have HT8 := hide (HT7.out.below HE.out b8)
            have HSM := hide (same_any (w := w8) a7 a8 c7 c8 f5.rows f5.rows (HR7.out.below b8) (RdP.own r8).1 (by omega))
            clear r8 b8
            go_wp2_with fail
            refine HSM.out.mono ?_
            rintro e w9 ⟨rfl, b9⟩
            simp only [decide_true]
            have HT9 := hide (HT8.out.below HE.out b9)
            clear b9 HSM
            go_wp2_with fail
            refine (HE.out.count HT9.out.c HT9.out.hiO).mono ?_
            rintro e w10 ⟨rfl, d10, o10⟩
            have HT10 := hide (HT9.out.turnC o10 d10)
            clear d10 o10
            have hc1 : ((sumP f5.rows : Int) != (sumP f5.rows : Int)) = false := by simp
            go_wp2_with fail
            refine (HE.out.largest HT10.out.c HT10.out.hiO).mono ?_
            rintro e w11 ⟨rfl, d11, o11⟩
            have HT11 := hide (HT10.out.turnC o11 d11)
            clear d11 o11
            have hc2 : ((maxP f5.rows : Int) != (maxP f5.rows : Int)) = false := by simp
            go_wp2
            go_roundw
            case rel => exact ⟨k + 1, p5, q5, _, _, f5, hlt, rfl, rfl, by simp, HT11⟩
            case measure => simp [intOf]; omega
      by_cases k2 : d.k = 2
      · have hk0 := hide k2
        rw [k2] at x0
        clear k2
        go_wp2
        go_region_held3 (fun W' => W'.cell? ⟨wr.heap.size, 1, none⟩ = some (.int .i64 d.s.a) ∧ W'.cell? ⟨wr.heap.size, 2, none⟩ = some (.int .i64 d.s.k)) (go_keep) (first
          | (go_at_call 13; refine (HE.out.give (HT1.out.drew HE.out).c (HT1.out.drew HE.out).hiO d.s HOKD.out).mono ?_; rintro e w2 ⟨rfl, D2, o2⟩; have k2 := Ob.onl (w := W1.drew) HK1.out o2 (fun q => absurd (HAP.out _ (.inl q)) (Nat.lt_irrefl _)); have y1 := k2.cell 1; have y2 := k2.cell 2; simp only [List.getElem?_cons_zero, List.getElem?_cons_succ] at y1 y2; have HT2 := hide ((HT1.out.drew HE.out).turnC o2 D2); have HK2 := hide k2; clear D2 o2 k2)
          | (go_at_call 14; refine (rgive_any HT2.out.r HT2.out.hiU d.s).mono ?_; rintro e w3 ⟨rfl, D3, o3⟩; have k3 := HK2.out.onl o3 (fun q => absurd (HAP.out _ (.inr q)) (Nat.lt_irrefl _)); have y1 := k3.cell 1; have y2 := k3.cell 2; simp only [List.getElem?_cons_zero, List.getElem?_cons_succ] at y1 y2; have HT5 := hide (HT2.out.turnR HE.out o3 D3); clear D3 o3 k3))
        have he1 : ((f.give d.s).1 == (f.give d.s).1) = true := by simp
        generalize hf5 : (f.give d.s).2 = f5 at HT5
        generalize hO5 : Gro O W1.drew w2 = O5 at HT5
        generalize hU5 : U = U5 at HT5
        generalize hp5 : p = p5 at HT5
        generalize hq5 : q = q5 at HT5
        clear hf5 hO5 hU5
        have hok5 := HE.out.ok HT5.out.c
        have HOK5 := hide hok5
        have hrl := rows_len hok5
        clear hok5
        go_wp2_with fail
        refine (rspans_any HT5.out.r).mono ?_
        rintro e w6 ⟨v6, rfl, r6, b6⟩
        obtain ⟨a6, c6, hv6⟩ := own_len2 r6
        subst hv6
        have HRP := hide (RdP.own r6).1
        have HT6 := hide (HT5.out.below HE.out b6)
        clear r6 b6
        go_wp2
        go_loopw [16, 17, 109] (fun v16 v17 i wx => ∃ J : Nat, J ≤ f5.rows.length ∧ i = .int .i64 J ∧ v16 = .int .i64 (sumP (f5.rows.take J)) ∧ v17 = .int .i64 (maxP (f5.rows.take J)) ∧ Hid (TwF C w wx p5 q5 O5 U5 f5 f5) ∧ Hid (Below w6.heap.size w6 wx)) (fun _ _ i _ => f5.rows.length - (intOf i).toNat)
        case atStart => exact ⟨0, Nat.zero_le _, rfl, by simp [sumP], by simp [maxP], HT6, Below.refl _ _⟩
        case round =>
          obtain ⟨J, hJ, rfl, rfl, rfl, hTx, hBx⟩ := hrel
          by_cases hJl : J < f5.rows.length
          · obtain ⟨x, hx⟩ : ∃ x, f5.rows[J]? = some x := ⟨_, List.getElem?_eq_getElem hJl⟩
            obtain ⟨b2, off2, ha2, e0, e1⟩ := HRP.out.below hBx.out J x hx
            subst ha2
            have hxb := (rows_each HOK5.out x (List.mem_of_getElem? hx)).2
            have hsb := sum_take HOK5.out J
            have hs1 := sum_snoc (f5.rows.take J) x
            have hm1 := max_snoc (f5.rows.take J) x
            rw [← take_one hx] at hs1 hm1
            have BA2 := (Below.refl wr.heap.size wr).alloc (Nat.le_refl _) (.cells #[.int .i64 x.1, .int .i64 x.2] 29)
            have HT7 := hide (hTx.out.below HE.out BA2)
            have HB7 := hide (hBx.out.trans (BA2.mono hBx.out.size))
            have HS1 := hide hs1
            have HM1 := hide hm1
            clear hs1 hm1 hx BA2 hTx hBx
            go_wp2
            go_roundw
            case rel => exact ⟨J + 1, hJl, by simp, by rw [HS1.out]; simp, by rw [HM1.out]; congr 1; omega, HT7, HB7⟩
            case measure => simp [intOf]; omega
          · have hJe : J = f5.rows.length := by omega
            have hta : f5.rows.take J = f5.rows := List.take_of_length_le (by omega)
            rw [hta]
            clear hta
            have BAr := (Below.refl wr.heap.size wr).alloc (Nat.le_refl _) (.cells #[.slice none 0 0] 37)
            have Tr := hTx.out.below HE.out BAr
            have HRW := hide (rows_any (w := wr) hTx.out.hiO (HE.out.spans Tr.c (fun i hi => Tr.hiO i hi)) hrl)
            clear BAr Tr
            go_wp2_with fail
            refine HRW.out.mono ?_
            rintro e w7 ⟨v7, rfl, r7, b7⟩
            obtain ⟨a7, c7, hv7⟩ := own_len2 r7
            subst hv7
            have HT7 := hide (hTx.out.below HE.out b7)
            have HR7 := hide (RdP.own r7).1
            clear r7 b7 HRW
            go_wp2_with fail
            refine (rspans_any HT7.out.r).mono ?_
            rintro e w8 ⟨v8, rfl, r8, b8⟩
            obtain ⟨a8, c8, hv8⟩ := own_len2 r8
            subst hv8
            have HT8 := hide (HT7.out.below HE.out b8)
            have HSM := hide (same_any (w := w8) a7 a8 c7 c8 f5.rows f5.rows (HR7.out.below b8) (RdP.own r8).1 (by omega))
            clear r8 b8
            go_wp2_with fail
            refine HSM.out.mono ?_
            rintro e w9 ⟨rfl, b9⟩
            simp only [decide_true]
            have HT9 := hide (HT8.out.below HE.out b9)
            clear b9 HSM
            go_wp2_with fail
            refine (HE.out.count HT9.out.c HT9.out.hiO).mono ?_
            rintro e w10 ⟨rfl, d10, o10⟩
            have HT10 := hide (HT9.out.turnC o10 d10)
            clear d10 o10
            have hc1 : ((sumP f5.rows : Int) != (sumP f5.rows : Int)) = false := by simp
            go_wp2_with fail
            refine (HE.out.largest HT10.out.c HT10.out.hiO).mono ?_
            rintro e w11 ⟨rfl, d11, o11⟩
            have HT11 := hide (HT10.out.turnC o11 d11)
            clear d11 o11
            have hc2 : ((maxP f5.rows : Int) != (maxP f5.rows : Int)) = false := by simp
            go_wp2
            go_roundw
            case rel => exact ⟨k + 1, p5, q5, _, _, f5, hlt, rfl, rfl, by simp, HT11⟩
            case measure => simp [intOf]; omega
      by_cases k3 : d.k = 3
      · have hk0 := hide k3
        rw [k3] at x0
        clear k3
        go_wp2
        go_region_held3 (fun W' => W'.cell? ⟨wr.heap.size, 1, none⟩ = some (.int .i64 d.s.a) ∧ W'.cell? ⟨wr.heap.size, 2, none⟩ = some (.int .i64 d.s.k)) (go_keep) (first
          | (go_at_call 15; refine (HE.out.has (HT1.out.drew HE.out).c (HT1.out.drew HE.out).hiO d.s HOKD.out).mono ?_; rintro e w2 ⟨rfl, D2, o2⟩; have k2 := Ob.onl (w := W1.drew) HK1.out o2 (fun q => absurd (HAP.out _ (.inl q)) (Nat.lt_irrefl _)); have y1 := k2.cell 1; have y2 := k2.cell 2; simp only [List.getElem?_cons_zero, List.getElem?_cons_succ] at y1 y2; have HT2 := hide ((HT1.out.drew HE.out).turnC o2 D2); have HK2 := hide k2; clear D2 o2 k2)
          | (go_at_call 16; refine (rhas_any HT2.out.r d.s).mono ?_; rintro e w3 ⟨rfl, b3⟩; have k3 := HK2.out.old b3; have y1 := k3.cell 1; have y2 := k3.cell 2; simp only [List.getElem?_cons_zero, List.getElem?_cons_succ] at y1 y2; have HT5 := hide (HT2.out.below HE.out b3); clear b3 k3))
        have he1 : ((f.all d.s true) == (f.all d.s true)) = true := by simp
        generalize hf5 : f = f5 at HT5
        generalize hO5 : Gro O W1.drew w2 = O5 at HT5
        generalize hU5 : U = U5 at HT5
        generalize hp5 : p = p5 at HT5
        generalize hq5 : q = q5 at HT5
        clear hf5 hO5 hU5
        have hok5 := HE.out.ok HT5.out.c
        have HOK5 := hide hok5
        have hrl := rows_len hok5
        clear hok5
        go_wp2_with fail
        refine (rspans_any HT5.out.r).mono ?_
        rintro e w6 ⟨v6, rfl, r6, b6⟩
        obtain ⟨a6, c6, hv6⟩ := own_len2 r6
        subst hv6
        have HRP := hide (RdP.own r6).1
        have HT6 := hide (HT5.out.below HE.out b6)
        clear r6 b6
        go_wp2
        go_loopw [16, 17, 109] (fun v16 v17 i wx => ∃ J : Nat, J ≤ f5.rows.length ∧ i = .int .i64 J ∧ v16 = .int .i64 (sumP (f5.rows.take J)) ∧ v17 = .int .i64 (maxP (f5.rows.take J)) ∧ Hid (TwF C w wx p5 q5 O5 U5 f5 f5) ∧ Hid (Below w6.heap.size w6 wx)) (fun _ _ i _ => f5.rows.length - (intOf i).toNat)
        case atStart => exact ⟨0, Nat.zero_le _, rfl, by simp [sumP], by simp [maxP], HT6, Below.refl _ _⟩
        case round =>
          obtain ⟨J, hJ, rfl, rfl, rfl, hTx, hBx⟩ := hrel
          by_cases hJl : J < f5.rows.length
          · obtain ⟨x, hx⟩ : ∃ x, f5.rows[J]? = some x := ⟨_, List.getElem?_eq_getElem hJl⟩
            obtain ⟨b2, off2, ha2, e0, e1⟩ := HRP.out.below hBx.out J x hx
            subst ha2
            have hxb := (rows_each HOK5.out x (List.mem_of_getElem? hx)).2
            have hsb := sum_take HOK5.out J
            have hs1 := sum_snoc (f5.rows.take J) x
            have hm1 := max_snoc (f5.rows.take J) x
            rw [← take_one hx] at hs1 hm1
            have BA2 := (Below.refl wr.heap.size wr).alloc (Nat.le_refl _) (.cells #[.int .i64 x.1, .int .i64 x.2] 29)
            have HT7 := hide (hTx.out.below HE.out BA2)
            have HB7 := hide (hBx.out.trans (BA2.mono hBx.out.size))
            have HS1 := hide hs1
            have HM1 := hide hm1
            clear hs1 hm1 hx BA2 hTx hBx
            go_wp2
            go_roundw
            case rel => exact ⟨J + 1, hJl, by simp, by rw [HS1.out]; simp, by rw [HM1.out]; congr 1; omega, HT7, HB7⟩
            case measure => simp [intOf]; omega
          · have hJe : J = f5.rows.length := by omega
            have hta : f5.rows.take J = f5.rows := List.take_of_length_le (by omega)
            rw [hta]
            clear hta
            have BAr := (Below.refl wr.heap.size wr).alloc (Nat.le_refl _) (.cells #[.slice none 0 0] 37)
            have Tr := hTx.out.below HE.out BAr
            have HRW := hide (rows_any (w := wr) hTx.out.hiO (HE.out.spans Tr.c (fun i hi => Tr.hiO i hi)) hrl)
            clear BAr Tr
            go_wp2_with fail
            refine HRW.out.mono ?_
            rintro e w7 ⟨v7, rfl, r7, b7⟩
            obtain ⟨a7, c7, hv7⟩ := own_len2 r7
            subst hv7
            have HT7 := hide (hTx.out.below HE.out b7)
            have HR7 := hide (RdP.own r7).1
            clear r7 b7 HRW
            go_wp2_with fail
            refine (rspans_any HT7.out.r).mono ?_
            rintro e w8 ⟨v8, rfl, r8, b8⟩
            obtain ⟨a8, c8, hv8⟩ := own_len2 r8
            subst hv8
            have HT8 := hide (HT7.out.below HE.out b8)
            have HSM := hide (same_any (w := w8) a7 a8 c7 c8 f5.rows f5.rows (HR7.out.below b8) (RdP.own r8).1 (by omega))
            clear r8 b8
            go_wp2_with fail
            refine HSM.out.mono ?_
            rintro e w9 ⟨rfl, b9⟩
            simp only [decide_true]
            have HT9 := hide (HT8.out.below HE.out b9)
            clear b9 HSM
            go_wp2_with fail
            refine (HE.out.count HT9.out.c HT9.out.hiO).mono ?_
            rintro e w10 ⟨rfl, d10, o10⟩
            have HT10 := hide (HT9.out.turnC o10 d10)
            clear d10 o10
            have hc1 : ((sumP f5.rows : Int) != (sumP f5.rows : Int)) = false := by simp
            go_wp2_with fail
            refine (HE.out.largest HT10.out.c HT10.out.hiO).mono ?_
            rintro e w11 ⟨rfl, d11, o11⟩
            have HT11 := hide (HT10.out.turnC o11 d11)
            clear d11 o11
            have hc2 : ((maxP f5.rows : Int) != (maxP f5.rows : Int)) = false := by simp
            go_wp2
            go_roundw
            case rel => exact ⟨k + 1, p5, q5, _, _, f5, hlt, rfl, rfl, by simp, HT11⟩
            case measure => simp [intOf]; omega
      · have d0 : (d.k == 0) = false := by simpa using k0
        have d1 : (d.k == 1) = false := by simpa using k1
        have d2 : (d.k == 2) = false := by simpa using k2
        have d3 : (d.k == 3) = false := by simpa using k3
        clear k0 k1 k2 k3
        go_wp2_with fail
        refine (HE.out.copy HT1.out.c HT1.out.hiO).mono ?_
        rintro e w2 ⟨p2, rfl, D2, b2⟩
        have HT2 := hide (HT1.out.copyC b2 D2)
        clear D2 b2
        go_wp2_with fail
        refine (rcopyf_any HT2.out.r).mono ?_
        rintro e w3 ⟨q2, rfl, _, D3, b3⟩
        have HT5 := hide (HT2.out.copyR HE.out b3 D3)
        clear D3 b3
        generalize hf5 : f = f5 at HT5
        generalize hO5 : (fun i => W1.heap.size ≤ i ∧ i < w2.heap.size) = O5 at HT5
        generalize hU5 : (fun i => w2.heap.size ≤ i ∧ i < w3.heap.size) = U5 at HT5
        generalize hp5 : p2 = p5 at HT5
        generalize hq5 : q2 = q5 at HT5
        clear hf5 hO5 hU5
        have hok5 := HE.out.ok HT5.out.c
        have HOK5 := hide hok5
        have hrl := rows_len hok5
        clear hok5
        go_wp2_with fail
        refine (rspans_any HT5.out.r).mono ?_
        rintro e w6 ⟨v6, rfl, r6, b6⟩
        obtain ⟨a6, c6, hv6⟩ := own_len2 r6
        subst hv6
        have HRP := hide (RdP.own r6).1
        have HT6 := hide (HT5.out.below HE.out b6)
        clear r6 b6
        go_wp2
        go_loopw [16, 17, 109] (fun v16 v17 i wx => ∃ J : Nat, J ≤ f5.rows.length ∧ i = .int .i64 J ∧ v16 = .int .i64 (sumP (f5.rows.take J)) ∧ v17 = .int .i64 (maxP (f5.rows.take J)) ∧ Hid (TwF C w wx p5 q5 O5 U5 f5 f5) ∧ Hid (Below w6.heap.size w6 wx)) (fun _ _ i _ => f5.rows.length - (intOf i).toNat)
        case atStart => exact ⟨0, Nat.zero_le _, rfl, by simp [sumP], by simp [maxP], HT6, Below.refl _ _⟩
        case round =>
          obtain ⟨J, hJ, rfl, rfl, rfl, hTx, hBx⟩ := hrel
          by_cases hJl : J < f5.rows.length
          · obtain ⟨x, hx⟩ : ∃ x, f5.rows[J]? = some x := ⟨_, List.getElem?_eq_getElem hJl⟩
            obtain ⟨b2, off2, ha2, e0, e1⟩ := HRP.out.below hBx.out J x hx
            subst ha2
            have hxb := (rows_each HOK5.out x (List.mem_of_getElem? hx)).2
            have hsb := sum_take HOK5.out J
            have hs1 := sum_snoc (f5.rows.take J) x
            have hm1 := max_snoc (f5.rows.take J) x
            rw [← take_one hx] at hs1 hm1
            have BA2 := (Below.refl wr.heap.size wr).alloc (Nat.le_refl _) (.cells #[.int .i64 x.1, .int .i64 x.2] 29)
            have HT7 := hide (hTx.out.below HE.out BA2)
            have HB7 := hide (hBx.out.trans (BA2.mono hBx.out.size))
            have HS1 := hide hs1
            have HM1 := hide hm1
            clear hs1 hm1 hx BA2 hTx hBx
            go_wp2
            go_roundw
            case rel => exact ⟨J + 1, hJl, by simp, by rw [HS1.out]; simp, by rw [HM1.out]; congr 1; omega, HT7, HB7⟩
            case measure => simp [intOf]; omega
          · have hJe : J = f5.rows.length := by omega
            have hta : f5.rows.take J = f5.rows := List.take_of_length_le (by omega)
            rw [hta]
            clear hta
            have BAr := (Below.refl wr.heap.size wr).alloc (Nat.le_refl _) (.cells #[.slice none 0 0] 37)
            have Tr := hTx.out.below HE.out BAr
            have HRW := hide (rows_any (w := wr) hTx.out.hiO (HE.out.spans Tr.c (fun i hi => Tr.hiO i hi)) hrl)
            clear BAr Tr
            go_wp2_with fail
            refine HRW.out.mono ?_
            rintro e w7 ⟨v7, rfl, r7, b7⟩
            obtain ⟨a7, c7, hv7⟩ := own_len2 r7
            subst hv7
            have HT7 := hide (hTx.out.below HE.out b7)
            have HR7 := hide (RdP.own r7).1
            clear r7 b7 HRW
            go_wp2_with fail
            refine (rspans_any HT7.out.r).mono ?_
            rintro e w8 ⟨v8, rfl, r8, b8⟩
            obtain ⟨a8, c8, hv8⟩ := own_len2 r8
            subst hv8
            have HT8 := hide (HT7.out.below HE.out b8)
            have HSM := hide (same_any (w := w8) a7 a8 c7 c8 f5.rows f5.rows (HR7.out.below b8) (RdP.own r8).1 (by omega))
            clear r8 b8
            go_wp2_with fail
            refine HSM.out.mono ?_
            rintro e w9 ⟨rfl, b9⟩
            simp only [decide_true]
            have HT9 := hide (HT8.out.below HE.out b9)
            clear b9 HSM
            go_wp2_with fail
            refine (HE.out.count HT9.out.c HT9.out.hiO).mono ?_
            rintro e w10 ⟨rfl, d10, o10⟩
            have HT10 := hide (HT9.out.turnC o10 d10)
            clear d10 o10
            have hc1 : ((sumP f5.rows : Int) != (sumP f5.rows : Int)) = false := by simp
            go_wp2_with fail
            refine (HE.out.largest HT10.out.c HT10.out.hiO).mono ?_
            rintro e w11 ⟨rfl, d11, o11⟩
            have HT11 := hide (HT10.out.turnC o11 d11)
            clear d11 o11
            have hc2 : ((maxP f5.rows : Int) != (maxP f5.rows : Int)) = false := by simp
            go_wp2
            go_roundw
            case rel => exact ⟨k + 1, p5, q5, _, _, f5, hlt, rfl, rfl, by simp, HT11⟩
            case measure => simp [intOf]; omega
    · go_wp2
      go_ret
      exact ⟨rfl, hT.out.bel⟩
end Go.Proofs.Ytlomnpeelpmhiaa
