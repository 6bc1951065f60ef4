/- NodeBack's walk, over the translation. -/
import Derived.Test.YtandjkogpdamcaaNeA
import Derived.Test.YtandjkogpdamcaaNdL
import Derived.Test.YtandjkogpdamcaaNdS
namespace Go.Proofs.Ytandjkogpdamcaa
open Go.RowKit Apo
theorem InB.app {a b : List Int} (ha : InB a) (hb : InB b) : InB (a ++ b) := fun z hz => (List.mem_append.1 hz).elim (ha z) (hb z)
theorem InB.flat {α : Type} {f : α → List Int} {l : List α} (h : ∀ x ∈ l, InB (f x)) : InB (l.flatMap f) := fun z hz => by
  obtain ⟨x, hx, hzx⟩ := List.mem_flatMap.1 hz
  exact h x hx z hzx
theorem ndB_byte {n : Nd} (h : nodeE n = 0) (hz : ∀ k ∈ n.ks, k.i < 18446744073709551616) (hc : n.es.length + n.ks.length ≤ 16384) : InB (ndB n) := by
  obtain ⟨h1, h2, h3, h4, _⟩ := nodeE_ok h
  unfold ndB
  have he : ∀ m, m < 18446744073709551616 → InB (enc m) := fun m hm => enc_byte (by unfold top; exact hm)
  have hs : ∀ s, InB (nums s) := fun s => nums_byte s
  refine ((InB.app (he _ (by omega)) (he _ (by omega))).app (InB.flat fun e hh => ?_)).app (InB.flat fun k hh => ?_)
  · have q := h1 e hh
    exact ((he _ (by omega)).app (hs _)).app ((he _ (by omega)).app (hs _))
  · have q := h2 k hh
    exact ((he _ (by omega)).app (hs _)).app (he _ (hz k hh))
theorem nodeOf_lens (b : List Int) : (nodeOf b).1.es.length ≤ 16384 ∧ (nodeOf b).1.ks.length ≤ 16384 := by
  unfold nodeOf
  split
  · have h1 := rnum_bd (rnum (some b) 20).2 (most := 16384) (by omega)
    have h2 := ofK_len (lv := (rnum (some b) 20).1) (st := (rnum (rnum (some b) 20).2 16384).2) (rnum (rnum (some b) 20).2 16384).1.toNat
    unfold ofRaw
    simp only
    omega
  · simp
theorem small_lens {n : Nd} (h : smallNd n = true) : n.es.length ≤ 60 ∧ n.ks.length ≤ 60 := by
  unfold smallNd lightB at h
  simp at h
  omega
theorem ndB_len {n : Nd} (h : nodeE n = 0) (hs : n.es.length ≤ 60 ∧ n.ks.length ≤ 60) : (ndB n).length ≤ 40000 := by
  obtain ⟨h1, h2, _⟩ := nodeE_ok h
  have a1 : (n.es.flatMap enB).length ≤ 300 * n.es.length := flat_len (fun e he => enB_len (h1 e he).1.2 (h1 e he).2)
  have a2 : (n.ks.flatMap kiB).length ≤ 300 * n.ks.length := flat_len (fun e he => kiB_len (h2 e he).1.2)
  have e1 := enc_len n.lv.toNat
  have e2 := enc_len (n.es.length + n.ks.length)
  unfold ndB
  simp only [List.length_append]
  omega
theorem putE_cases (n : Nd) : (putE n).2 = 0 → nodeE n = 0 ∧ (putE n).1 = ndB n ∧ (ndB n).length ≤ 131072 := by
  unfold putE
  by_cases h : nodeE n ≠ 0
  · rw [if_pos h]; intro q; exact absurd q h
  · rw [if_neg h]
    by_cases h2 : 131072 < (ndB n).length
    · rw [if_pos h2]; intro q; simp at q
    · rw [if_neg h2]; intro _; exact ⟨by simpa using h, rfl, by omega⟩
theorem putE_yes {n : Nd} (h : nodeE n = 0) (hl : (ndB n).length ≤ 131072) : putE n = (ndB n, 0) := by
  unfold putE
  rw [if_neg (by rw [h]; simp), if_neg (by omega)]
set_option maxRecDepth 100000 in
set_option maxHeartbeats 4000000 in
theorem back9 (w : World) (x : NdA) (hx : OkN w x) (a : Option Addr) (cap : Nat) (b : List Int) (hr : Rd .u8 w a b) (hn : a = none → cap = 0) (hb : InB b) (hbl : b.length ≤ 9223372036854775807) :
    Calls Try.prog 4 #[.agg x.cells.toArray, .slice a b.length cap] w fun e w' => e = .returned (.bool true) ∧ Below w.heap.size w w' := by
  obtain ⟨W0, hW0⟩ : ∃ W0, W0 = w.alloc (.cells x.cells.toArray 25) := ⟨_, rfl⟩
  have b0 : Below w.heap.size w W0 := by rw [hW0]; exact (Below.refl _ w).alloc (Nat.le_refl _) _
  have s0 : W0.heap.size = w.heap.size + 1 := by rw [hW0]; simp
  have kb : Ob W0 w.heap.size 25 x.cells := by rw [hW0]; exact Ob.new w x.cells 25
  have x0 := hx.below b0
  have HXW := hide (fun (W : World) (bb : Below W0.heap.size W0 W) => x0.below bb)
  have HRW := hide (fun (W : World) (bb : Below W0.heap.size W0 W) => (hr.below b0).below bb)
  have HBX := hide (fun (W : World) (bb : Below W0.heap.size W0 W) => kb.old bb)
  have HCA := hide (awake9 W0)
  have HB0 := hide b0
  have HIB := hide hb
  have HNN := hide hn
  obtain ⟨n, hnx⟩ : ∃ n, n = x.n := ⟨_, rfl⟩
  have HSM := hide (fun (W : World) (bb : Below W0.heap.size W0 W) => small_any W x (x0.below bb))
  have HPU := hide (fun (W : World) (bb : Below W0.heap.size W0 W) (he : x.n.es.length ≤ 1000000) (hk : x.n.ks.length ≤ 1000000) => put_node W x (x0.below bb) he hk)
  have HKZ := hide x0.kz
  rw [← hnx] at HSM HPU HKZ
  have HNX := hide hnx
  obtain ⟨nb, hnb⟩ : ∃ nb, nb = b.length := ⟨_, rfl⟩
  rw [← hnb] at hbl ⊢
  have HNB := hide hnb
  obtain ⟨xc, hxc⟩ : ∃ xc, xc = x.cells := ⟨_, rfl⟩
  have HXC := hide hxc
  obtain ⟨c0, c1, c2, hcs⟩ : ∃ (z : Int) (c1 c2 : Option Addr × Nat × Nat), x.cells = [.int .i64 z, .slice c1.1 c1.2.1 c1.2.2, .slice c2.1 c2.2.1 c2.2.2] := ⟨x.n.lv, (x.ea, x.n.es.length, x.ec), (x.ka, x.n.ks.length, x.kc), rfl⟩
  obtain ⟨ea, ne, ec⟩ := c1
  obtain ⟨ka, nk, kc⟩ := c2
  simp only at hcs
  have HCS := hide hcs
  rw [hcs] at HBX HSM HPU hW0 ⊢
  rw [hW0] at HCA
  clear hx hr hn hb kb b0 x0 hnx hnb hxc hcs HXC xc
  go_enter Try.func4, Try.ntmps4
  go_wp2_with fail
  refine HCA.out.mono ?_
  rintro e w1 ⟨rfl, b1⟩
  rw [← hW0] at b1
  have HB1 := hide b1
  have HC1 := hide (HSM.out w1 b1)
  have kx := HBX.out w1 b1
  have y0 := kx.cell 0
  have y1 := kx.cell 1
  have y2 := kx.cell 2
  simp only [List.getElem?_cons_zero, List.getElem?_cons_succ] at y0 y1 y2
  clear HCA HSM b1 kx
  go_wp2_with fail
  refine HC1.out.mono ?_
  rintro e w2 ⟨rfl, b2'⟩
  have HB2 := hide (HB1.out.trans (b2'.mono HB1.out.size))
  have HF2 := hide (HB0.out.trans (HB2.out.mono (show w.heap.size ≤ W0.heap.size by omega)))
  have s2 := HB2.out.size
  clear b2' HC1
  cases hsm : smallNd n
  · clear hsm
    go_wp2
    go_ret
    exact ⟨rfl, HF2.out⟩
  · have hl := small_lens hsm
    by_cases hbig : 2000 < nb
    · have d1 : decide ((2000 : Int) < (nb : Int)) = true := by simp; omega
      have d2 : decide (2000 < nb) = true := by simp; omega
      clear hsm hbig
      go_wp2
      go_ret
      exact ⟨rfl, HF2.out⟩
    · have d1 : decide ((2000 : Int) < (nb : Int)) = false := by simp; omega
      have d2 : decide (2000 < nb) = false := by simp; omega
      have HC2 := hide (HPU.out w2 HB2.out (by omega) (by omega))
      have kx := HBX.out w2 HB2.out
      have z0 := kx.cell 0
      have z1 := kx.cell 1
      have z2 := kx.cell 2
      simp only [List.getElem?_cons_zero, List.getElem?_cons_succ] at z0 z1 z2
      have HL := hide hl
      have hnb2 : nb ≤ 2000 := by omega
      clear hsm hbig kx HPU hl
      go_wp2_with fail
      refine HC2.out.mono ?_
      rintro e w3 ⟨v3, rfl, o3, b3'⟩
      have B3 : Below W0.heap.size W0 w3 := HB2.out.trans (b3'.mono s2)
      have HB3 := hide B3
      have s3 := B3.size
      obtain ⟨a3, p3, hv3, hp3, hn3⟩ := own_form o3
      subst hv3
      -- what is behind the first half
      have HTAIL : Hid (∀ W : World, Below W0.heap.size W0 W → Calls Try.prog 11 #[.slice a nb cap] W (NoP W (nodeOf b).1 (nodeOf b).2)) := hide (fun W bb => by rw [HNB.out]; exact of_node W a cap b (HRW.out W bb) HNN.out HIB.out (by have := HNB.out; omega))
      by_cases hp : (putE n).2 = 0
      · obtain ⟨g1, g2, g3⟩ := putE_cases n hp
        have hlen := ndB_len g1 HL.out
        rw [g2] at o3
        have hrd := (Rd.own o3).1
        have HC3 := hide (of_node w3 a3 p3 (ndB n) hrd hn3 (ndB_byte g1 (fun k hk => (HKZ.out k hk).2) (by have := HL.out; omega)) (by omega))
        have hz : nodeOf (ndB n) = (n, 0) := nodeOf_ndB g1 (fun k hk => (HKZ.out k hk).2) g3 (by have := HL.out; omega)
        rw [hz] at HC3
        rw [hp, g2]
        obtain ⟨nB, hnB⟩ : ∃ nB, nB = (ndB n).length := ⟨_, rfl⟩
        rw [← hnB] at HC3 ⊢
        clear o3 b3' B3 hrd hz g2 hp hnB HC2 hlen g3 g1
        go_wp2_with fail
        refine HC3.out.mono ?_
        rintro e w4 ⟨u, hu, oku, rfl, b4'⟩
        have B4 : Below W0.heap.size W0 w4 := HB3.out.trans (b4'.mono s3)
        have s4 := B4.size
        obtain ⟨W4, hW4⟩ : ∃ W4, W4 = w4.alloc (.cells u.cells.toArray 25) := ⟨_, rfl⟩
        have bw : Below w4.heap.size w4 W4 := by rw [hW4]; exact (Below.refl _ _).alloc (Nat.le_refl _) _
        have B4' : Below W0.heap.size W0 W4 := B4.trans (bw.mono s4)
        have ku : Ob W4 w4.heap.size 25 u.cells := by rw [hW4]; exact Ob.new w4 u.cells 25
        have oku4 := oku.below bw
        have hul : u.n.es.length ≤ 1000000 ∧ u.n.ks.length ≤ 1000000 := by rw [hu]; have := HL.out; omega
        have hxl : x.n.es.length ≤ 1000000 ∧ x.n.ks.length ≤ 1000000 := by rw [← HNX.out]; have := HL.out; omega
        have huu : u.n = x.n := by rw [hu, HNX.out]
        have HS1 : Hid (∀ W : World, Below W4.heap.size W4 W → Calls Try.prog 15 #[.agg u.cells.toArray, .agg x.cells.toArray] W fun e w' => e = .returned (.bool true) ∧ Below W.heap.size W w') := hide (fun W bb => (sameNd_any W u x (oku4.below bb) (HXW.out W (B4'.trans (bb.mono B4'.size)))).mono (fun e w' h => ⟨by rw [h.1]; simp [huu], h.2⟩))
        have HL1 := hide (fun (W : World) (bb : Below W4.heap.size W4 W) => last_any W u (oku4.below bb) hul.1 hul.2)
        have HL2 := hide (fun (W : World) (bb : Below W4.heap.size W4 W) => last_any W x (HXW.out W (B4'.trans (bb.mono B4'.size))) hxl.1 hxl.2)
        have HKU := hide (fun (W : World) (bb : Below W4.heap.size W4 W) => ku.old bb)
        have HKX := hide (fun (W : World) (bb : Below W4.heap.size W4 W) => HBX.out W (B4'.trans (bb.mono B4'.size)))
        rw [HCS.out] at HS1 HL2
        rw [← HNX.out] at HL2
        rw [hu] at HL1
        obtain ⟨LK, hLK⟩ : ∃ LK, LK = lastK n := ⟨_, rfl⟩
        rw [← hLK] at HL1 HL2
        obtain ⟨⟨ulv, ues, uks⟩, ua, uc, ub, ud⟩ := u
        simp only [NdA.cells] at *
        obtain ⟨le, hle⟩ : ∃ le, le = ues.length := ⟨_, rfl⟩
        obtain ⟨lk, hlk⟩ : ∃ lk, lk = uks.length := ⟨_, rfl⟩
        rw [← hle, ← hlk] at hW4 HS1 HL1 HKU ⊢
        have HB4 := hide B4'
        have s4' := B4'.size
        have c0' := (HKU.out W4 (Below.refl _ _)).cell 0
        have c1' := (HKU.out W4 (Below.refl _ _)).cell 1
        have c2' := (HKU.out W4 (Below.refl _ _)).cell 2
        have e0' := (HKX.out W4 (Below.refl _ _)).cell 0
        have e1' := (HKX.out W4 (Below.refl _ _)).cell 1
        have e2' := (HKX.out W4 (Below.refl _ _)).cell 2
        simp only [List.getElem?_cons_zero, List.getElem?_cons_succ] at c0' c1' c2' e0' e1' e2'
        rw [hW4] at c0' c1' c2' e0' e1' e2'
        have HW4 := hide hW4
        clear hu oku b4' B4 bw ku oku4 hul hxl huu hLK hle hlk B4' HC3 hW4
        go_wp2
        rw [← HW4.out] at c0' c1' c2' e0' e1' e2' ⊢
        go_region_held3 (fun W' => (W'.cell? ⟨w4.heap.size, 0, none⟩ = some (.int .i64 ulv) ∧ W'.cell? ⟨w4.heap.size, 1, none⟩ = some (.slice ua le uc) ∧ W'.cell? ⟨w4.heap.size, 2, none⟩ = some (.slice ub lk ud)) ∧ W'.cell? ⟨w.heap.size, 0, none⟩ = some (.int .i64 c0) ∧ W'.cell? ⟨w.heap.size, 1, none⟩ = some (.slice ea ne ec) ∧ W'.cell? ⟨w.heap.size, 2, none⟩ = some (.slice ka nk kc)) (go_keep) (first
          | (go_at_call 15; (with_reducible refine (HS1.out W4.drew (Below.refl _ _).drew).mono ?_); rintro en w5 ⟨rfl, b5⟩; have HB5 := hide ((Below.refl W4.heap.size W4).drew.trans b5); have ku5 := HKU.out w5 HB5.out; have kx5 := HKX.out w5 HB5.out; have m0 := ku5.cell 0; have m1 := ku5.cell 1; have m2 := ku5.cell 2; have n0 := kx5.cell 0; have n1 := kx5.cell 1; have n2 := kx5.cell 2; simp only [List.getElem?_cons_zero, List.getElem?_cons_succ] at m0 m1 m2 n0 n1 n2; clear ku5 kx5 b5)
          | (go_at_call_of 16 (Value.agg #[.int .i64 ulv, .slice ua le uc, .slice ub lk ud]); (with_reducible refine (HL1.out w5 HB5.out).mono ?_); rintro en w6 ⟨rfl, b6⟩; have HB6 := hide (HB5.out.trans (b6.mono HB5.out.size)); have ku6 := HKU.out w6 HB6.out; have kx6 := HKX.out w6 HB6.out; have m0 := ku6.cell 0; have m1 := ku6.cell 1; have m2 := ku6.cell 2; have n0 := kx6.cell 0; have n1 := kx6.cell 1; have n2 := kx6.cell 2; simp only [List.getElem?_cons_zero, List.getElem?_cons_succ] at m0 m1 m2 n0 n1 n2; clear ku6 kx6 b6)
          | (go_at_call_of 16 (Value.agg #[.int .i64 c0, .slice ea ne ec, .slice ka nk kc]); (with_reducible refine (HL2.out w6 HB6.out).mono ?_); rintro en w7 ⟨rfl, b7⟩; have HB7 := hide (HB6.out.trans (b7.mono HB6.out.size)); have ku7 := HKU.out w7 HB7.out; have kx7 := HKX.out w7 HB7.out; have m0 := ku7.cell 0; have m1 := ku7.cell 1; have m2 := ku7.cell 2; have n0 := kx7.cell 0; have n1 := kx7.cell 1; have n2 := kx7.cell 2; simp only [List.getElem?_cons_zero, List.getElem?_cons_succ] at m0 m1 m2 n0 n1 n2; clear ku7 kx7 b7))
        have B7 : Below W0.heap.size W0 w7 := HB4.out.trans (HB7.out.mono s4')
        have HB7' := hide B7
        have HC8 := hide (HTAIL.out w7 B7)
        clear B7 HS1 HL1 HL2 HKU HKX
        go_wp2_with fail
        refine HC8.out.mono ?_
        rintro e w4 ⟨y, hy, oky, rfl, b4'⟩
        obtain ⟨NO, hNO⟩ : ∃ NO, NO = nodeOf b := ⟨_, rfl⟩
        rw [← hNO] at hy ⊢
        have HNO := hide hNO
        have B4 : Below W0.heap.size W0 w4 := HB7'.out.trans (b4'.mono HB7'.out.size)
        have s4 := B4.size
        obtain ⟨W5, hW5⟩ : ∃ W5, W5 = w4.alloc (.cells y.cells.toArray 25) := ⟨_, rfl⟩
        have bw : Below w4.heap.size w4 W5 := by rw [hW5]; exact (Below.refl _ _).alloc (Nat.le_refl _) _
        have B5 : Below W0.heap.size W0 W5 := B4.trans (bw.mono s4)
        have hlens := nodeOf_lens b
        rw [← hNO, ← hy] at hlens
        have HC6 := hide (put_node W5 y (oky.below bw) (by omega) (by omega))
        have HF5 := hide (HB0.out.trans (B5.mono (show w.heap.size ≤ W0.heap.size by omega)))
        have HB5 := hide B5
        have s5 := B5.size
        rw [hy] at HC6
        have HOK : Hid (NO.2 = 0 → putE NO.1 = (b, 0)) := by
          refine hide (fun h0 => ?_)
          obtain ⟨q1, q2, q3, q4⟩ := ndB_nodeOf HIB.out (by rw [← HNO.out]; exact h0)
          rw [← HNO.out] at q1 q2
          rw [putE_yes q1 (by rw [q2]; exact q3), q2]
        obtain ⟨⟨lv, es, ks⟩, ya, yc, yk, yd⟩ := y
        simp only [NdA.cells] at *
        obtain ⟨le, hle⟩ : ∃ le, le = es.length := ⟨_, rfl⟩
        obtain ⟨lk, hlk⟩ : ∃ lk, lk = ks.length := ⟨_, rfl⟩
        rw [← hle, ← hlk] at hW5 HC6 ⊢
        rw [hW5] at HC6 HF5
        obtain ⟨er, her⟩ : ∃ er, er = NO.2 := ⟨_, rfl⟩
        rw [← her] at HOK ⊢
        clear hy oky b4' hNO B4 bw B5 hlens hle hlk her
        by_cases h0 : er = 0
        · subst h0
          have hput := HOK.out rfl
          go_wp2_with fail
          refine HC6.out.mono ?_
          rintro e w6 ⟨v6, rfl, o6, b6⟩
          rw [← hW5] at b6
          rw [hput] at o6 ⊢
          obtain ⟨a6, p6, hv6, _, _⟩ := own_form o6
          subst hv6
          have B6 : Below W0.heap.size W0 w6 := HB5.out.trans (b6.mono s5)
          have cv1 := (Rd.own o6).1.conv 26 5 9 Try.underlying26 Try.underlying5 Try.underlying9
          have cv2 := (HRW.out w6 B6).conv 26 5 9 Try.underlying26 Try.underlying5 Try.underlying9
          have HF6 := hide (HB0.out.trans (B6.mono (show w.heap.size ≤ W0.heap.size by omega)))
          simp only at cv1 cv2 ⊢
          rw [← HNB.out] at cv1 cv2 ⊢
          clear o6 b6 B6 hput HC6 HOK
          go_wp2
          go_ret
          exact ⟨rfl, HF6.out⟩
        · have hne : (er != 0) = true := by simpa using h0
          clear h0
          go_wp2
          go_ret
          exact ⟨rfl, HF5.out⟩
      · have hp2 : ((putE n).2 == 0) = false := by simpa using hp
        obtain ⟨er, her⟩ : ∃ er, er = (putE n).2 := ⟨_, rfl⟩
        rw [← her] at hp2 ⊢
        have HC3 := hide (HTAIL.out w3 B3)
        clear o3 b3' B3 hp her HC2
        go_wp2_with fail
        refine HC3.out.mono ?_
        rintro e w4 ⟨y, hy, oky, rfl, b4'⟩
        obtain ⟨NO, hNO⟩ : ∃ NO, NO = nodeOf b := ⟨_, rfl⟩
        rw [← hNO] at hy ⊢
        have HNO := hide hNO
        have B4 : Below W0.heap.size W0 w4 := HB3.out.trans (b4'.mono HB3.out.size)
        have s4 := B4.size
        obtain ⟨W5, hW5⟩ : ∃ W5, W5 = w4.alloc (.cells y.cells.toArray 25) := ⟨_, rfl⟩
        have bw : Below w4.heap.size w4 W5 := by rw [hW5]; exact (Below.refl _ _).alloc (Nat.le_refl _) _
        have B5 : Below W0.heap.size W0 W5 := B4.trans (bw.mono s4)
        have hlens := nodeOf_lens b
        rw [← hNO, ← hy] at hlens
        have HC6 := hide (put_node W5 y (oky.below bw) (by omega) (by omega))
        have HF5 := hide (HB0.out.trans (B5.mono (show w.heap.size ≤ W0.heap.size by omega)))
        have HB5 := hide B5
        have s5 := B5.size
        rw [hy] at HC6
        have HOK : Hid (NO.2 = 0 → putE NO.1 = (b, 0)) := by
          refine hide (fun h0 => ?_)
          obtain ⟨q1, q2, q3, q4⟩ := ndB_nodeOf HIB.out (by rw [← HNO.out]; exact h0)
          rw [← HNO.out] at q1 q2
          rw [putE_yes q1 (by rw [q2]; exact q3), q2]
        obtain ⟨⟨lv, es, ks⟩, ya, yc, yk, yd⟩ := y
        simp only [NdA.cells] at *
        obtain ⟨le, hle⟩ : ∃ le, le = es.length := ⟨_, rfl⟩
        obtain ⟨lk, hlk⟩ : ∃ lk, lk = ks.length := ⟨_, rfl⟩
        rw [← hle, ← hlk] at hW5 HC6 ⊢
        rw [hW5] at HC6 HF5
        obtain ⟨er, her⟩ : ∃ er, er = NO.2 := ⟨_, rfl⟩
        rw [← her] at HOK ⊢
        clear hy oky b4' hNO B4 bw B5 hlens hle hlk her
        by_cases h0 : er = 0
        · subst h0
          have hput := HOK.out rfl
          go_wp2_with fail
          refine HC6.out.mono ?_
          rintro e w6 ⟨v6, rfl, o6, b6⟩
          rw [← hW5] at b6
          rw [hput] at o6 ⊢
          obtain ⟨a6, p6, hv6, _, _⟩ := own_form o6
          subst hv6
          have B6 : Below W0.heap.size W0 w6 := HB5.out.trans (b6.mono s5)
          have cv1 := (Rd.own o6).1.conv 26 5 9 Try.underlying26 Try.underlying5 Try.underlying9
          have cv2 := (HRW.out w6 B6).conv 26 5 9 Try.underlying26 Try.underlying5 Try.underlying9
          have HF6 := hide (HB0.out.trans (B6.mono (show w.heap.size ≤ W0.heap.size by omega)))
          simp only at cv1 cv2 ⊢
          rw [← HNB.out] at cv1 cv2 ⊢
          clear o6 b6 B6 hput HC6 HOK
          go_wp2
          go_ret
          exact ⟨rfl, HF6.out⟩
        · have hne : (er != 0) = true := by simpa using h0
          clear h0
          go_wp2
          go_ret
          exact ⟨rfl, HF5.out⟩
end Go.Proofs.Ytandjkogpdamcaa
