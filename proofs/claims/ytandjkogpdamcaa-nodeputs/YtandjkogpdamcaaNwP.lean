/- NodePuts' walk, over the translation. -/
import Derived.Test.YtandjkogpdamcaaNwB
namespace Go.Proofs.Ytandjkogpdamcaa
open Go.RowKit Apo
set_option maxRecDepth 100000 in
set_option maxHeartbeats 4000000 in
theorem puts9 (w : World) (x : NdA) (hx : OkN w x) (a : Option Addr) (cap : Nat) (b : List Int) (hr : Rd .u8 w a b) (hcap : b.length ≤ cap) (hn : a = none → cap = 0) (hb : InB b) (hbl : b.length ≤ 9223372036854775807) :
    Calls Try.prog 3 #[.agg x.cells.toArray, .slice a b.length cap] w fun e w' => e = .returned (.bool true) ∧ Below w.heap.size w w' := by
  obtain ⟨W0, hW0⟩ : ∃ W0, W0 = w.alloc (.cells x.cells.toArray 25) := ⟨_, rfl⟩
  have b0 : Below w.heap.size w W0 := by rw [hW0]; exact (Below.refl _ w).alloc (Nat.le_refl _) _
  have s0 : W0.heap.size = w.heap.size + 1 := by rw [hW0]; simp
  have kb : Ob W0 w.heap.size 25 x.cells := by rw [hW0]; exact Ob.new w x.cells 25
  have x0 := hx.below b0
  have HXW := hide (fun (W : World) (bb : Below W0.heap.size W0 W) => x0.below bb)
  have HRW := hide (fun (W : World) (bb : Below W0.heap.size W0 W) => (hr.below b0).below bb)
  have HBX := hide (fun (W : World) (bb : Below W0.heap.size W0 W) => kb.old bb)
  have HCA := hide (awake9 W0)
  have HB0 := hide b0
  have HIB := hide hb
  have HNN := hide hn
  obtain ⟨n, hnx⟩ : ∃ n, n = x.n := ⟨_, rfl⟩
  have HSM := hide (fun (W : World) (bb : Below W0.heap.size W0 W) => small_any W x (x0.below bb))
  have HPU := hide (fun (W : World) (bb : Below W0.heap.size W0 W) (he : x.n.es.length ≤ 1000000) (hk : x.n.ks.length ≤ 1000000) => put_node W x (x0.below bb) he hk)
  have HRP := hide (fun (W : World) (bb : Below W0.heap.size W0 W) (he : x.n.es.length ≤ 1000000) (hk : x.n.ks.length ≤ 1000000) => rputnode_any W x (x0.below bb) he hk)
  have HRI := hide (fun (W : World) (bb : Below W0.heap.size W0 W) (he : x.n.es.length ≤ 1000000) (hk : x.n.ks.length ≤ 1000000) => right_any W x (x0.below bb) he hk)
  have HRN := hide (fun (W : World) (bb : Below W0.heap.size W0 W) (he : x.n.es.length ≤ 1000000) (hk : x.n.ks.length ≤ 1000000) => rnode_any W x (x0.below bb) he hk)
  have HCAP := hide hcap
  rw [← hnx] at HSM HPU HRP HRI HRN
  have HNX := hide hnx
  obtain ⟨nb, hnb⟩ : ∃ nb, nb = b.length := ⟨_, rfl⟩
  rw [← hnb] at hbl ⊢
  have HNB := hide hnb
  obtain ⟨xc, hxc⟩ : ∃ xc, xc = x.cells := ⟨_, rfl⟩
  have HXC := hide hxc
  obtain ⟨c0, c1, c2, hcs⟩ : ∃ (z : Int) (c1 c2 : Option Addr × Nat × Nat), x.cells = [.int .i64 z, .slice c1.1 c1.2.1 c1.2.2, .slice c2.1 c2.2.1 c2.2.2] := ⟨x.n.lv, (x.ea, x.n.es.length, x.ec), (x.ka, x.n.ks.length, x.kc), rfl⟩
  obtain ⟨ea, ne, ec⟩ := c1
  obtain ⟨ka, nk, kc⟩ := c2
  simp only at hcs
  have HCS := hide hcs
  rw [hcs] at HBX HSM HPU HRP HRI HRN hW0 ⊢
  rw [hW0] at HCA
  clear hx hr hn hb hcap kb b0 x0 hnx hnb hxc hcs HXC xc
  go_enter Try.func3, Try.ntmps3
  go_wp2_with fail
  refine HCA.out.mono ?_
  rintro e w1 ⟨rfl, b1⟩
  rw [← hW0] at b1
  have HB1 := hide b1
  have HC1 := hide (HSM.out w1 b1)
  have kx := HBX.out w1 b1
  have y0 := kx.cell 0
  have y1 := kx.cell 1
  have y2 := kx.cell 2
  simp only [List.getElem?_cons_zero, List.getElem?_cons_succ] at y0 y1 y2
  clear HCA HSM b1 kx
  go_wp2_with fail
  refine HC1.out.mono ?_
  rintro e w2 ⟨rfl, b2'⟩
  have HB2 := hide (HB1.out.trans (b2'.mono HB1.out.size))
  have HF2 := hide (HB0.out.trans (HB2.out.mono (show w.heap.size ≤ W0.heap.size by omega)))
  have s2 := HB2.out.size
  clear b2' HC1
  cases hsm : smallNd n
  · clear hsm
    go_wp2
    go_ret
    exact ⟨rfl, HF2.out⟩
  · have hl := small_lens hsm
    by_cases hbig : 2000 < nb
    · have d1 : decide ((2000 : Int) < (nb : Int)) = true := by simp; omega
      have d2 : decide (2000 < nb) = true := by simp; omega
      clear hsm hbig
      go_wp2
      go_ret
      exact ⟨rfl, HF2.out⟩
    · have d1 : decide ((2000 : Int) < (nb : Int)) = false := by simp; omega
      have d2 : decide (2000 < nb) = false := by simp; omega
      have HC2 := hide (HPU.out w2 HB2.out (by omega) (by omega))
      have kx := HBX.out w2 HB2.out
      have z0 := kx.cell 0
      have z1 := kx.cell 1
      have z2 := kx.cell 2
      simp only [List.getElem?_cons_zero, List.getElem?_cons_succ] at z0 z1 z2
      have hnb2 : nb ≤ 2000 := by omega
      have HL := hide hl
      clear hsm hbig kx HPU hl
      go_wp2_with fail
      refine HC2.out.mono ?_
      rintro e w3 ⟨v3, rfl, o3, b3'⟩
      have B3 : Below W0.heap.size W0 w3 := HB2.out.trans (b3'.mono s2)
      have HB3 := hide B3
      have s3 := B3.size
      obtain ⟨a3, p3, hv3, hp3, hn3⟩ := own_form o3
      subst hv3
      have HO3 := hide (Rd.own o3).1
      have HC3 := hide (HRP.out w3 B3 (by have := HL.out; omega) (by have := HL.out; omega))
      have kx := HBX.out w3 B3
      have t0 := kx.cell 0
      have t1 := kx.cell 1
      have t2 := kx.cell 2
      simp only [List.getElem?_cons_zero, List.getElem?_cons_succ] at t0 t1 t2
      clear kx o3 b3' B3 HC2 HRP hn3
      go_wp2_with fail
      refine HC3.out.mono ?_
      rintro e w4 ⟨v4, rfl, o4, b4'⟩
      have B4 : Below W0.heap.size W0 w4 := HB3.out.trans (b4'.mono s3)
      have HB4 := hide B4
      have s4 := B4.size
      obtain ⟨a4, p4, hv4, hp4, hn4⟩ := own_form o4
      subst hv4
      have HO4 := hide (Rd.own o4).1
      have HO3' := hide (HO3.out.below b4')
      obtain ⟨PB, hPB⟩ : ∃ PB, PB = (putE n).1 := ⟨_, rfl⟩
      obtain ⟨pe, hpe⟩ : ∃ pe, pe = (putE n).2 := ⟨_, rfl⟩
      rw [← hPB] at HO3' HO4 ⊢
      rw [← hpe]
      obtain ⟨L3, hL3⟩ : ∃ L3, L3 = PB.length := ⟨_, rfl⟩
      rw [← hL3]
      obtain ⟨STR, hSTR⟩ : ∃ STR, STR = strOfNums PB := ⟨_, rfl⟩
      have HL3 := hide hL3
      have HSTR := hide hSTR
      have HC4 : Hid (Calls Try.prog 11 #[.slice a nb cap] w4 (NoP w4 (nodeOf b).1 (nodeOf b).2)) := hide (by rw [HNB.out]; exact of_node w4 a cap b (HRW.out w4 B4) HNN.out HIB.out (by have := HNB.out; omega))
      obtain ⟨NO, hNO⟩ : ∃ NO, NO = nodeOf b := ⟨_, rfl⟩
      rw [← hNO] at HC4
      have HNO := hide hNO
      clear o4 b4' B4 HC3 hn4 hPB hpe HO3 hL3 hSTR hNO
      go_wp2_with fail
      refine HC4.out.mono ?_
      rintro e w5 ⟨y, hy, oky, rfl, b5'⟩
      have B5 : Below W0.heap.size W0 w5 := HB4.out.trans (b5'.mono s4)
      have s5 := B5.size
      obtain ⟨W5, hW5⟩ : ∃ W5, W5 = w5.alloc (.cells y.cells.toArray 25) := ⟨_, rfl⟩
      have bw : Below w5.heap.size w5 W5 := by rw [hW5]; exact (Below.refl _ _).alloc (Nat.le_refl _) _
      have B5' : Below W0.heap.size W0 W5 := B5.trans (bw.mono s5)
      have ky : Ob W5 w5.heap.size 25 y.cells := by rw [hW5]; exact Ob.new w5 y.cells 25
      have b45 : Below w4.heap.size w4 W5 := b5'.trans (bw.mono b5'.size)
      have HO3a := hide (HO3'.out.below b45)
      have HO4a := hide (HO4.out.below b45)
      have HY := hide (And.intro hy (oky.below bw))
      have HKY := hide ky
      have HB5 := hide B5'
      have HC5 : Hid (Calls Try.prog 12 #[.slice a nb cap] W5 (NoP W5 NO.1 NO.2)) := hide (by rw [HNB.out, HNO.out]; exact rnodeof_any W5 a cap b (HRW.out W5 B5') HCAP.out HNN.out HIB.out (by have := HNB.out; omega))
      obtain ⟨pm, hpm⟩ : ∃ pm, pm = w5.heap.size := ⟨_, rfl⟩
      rw [← hpm] at HKY
      have HPM := hide hpm
      obtain ⟨yc, hyc⟩ : ∃ yc, yc = y.cells := ⟨_, rfl⟩
      obtain ⟨mlv, ma, me, mc, mb, mk, md, hcs2⟩ : ∃ mlv ma me mc mb mk md, y.cells = [.int .i64 mlv, .slice ma me mc, .slice mb mk md] := ⟨y.n.lv, y.ea, y.n.es.length, y.ec, y.ka, y.n.ks.length, y.kc, rfl⟩
      have HCS2 := hide hcs2
      rw [hcs2] at hW5 HKY ⊢
      rw [hW5] at HC5
      clear hy oky b5' B5 bw B5' ky b45 HC4 HO3' HO4 hpm hyc yc hcs2
      go_wp2_with fail
      refine HC5.out.mono ?_
      rintro e w6 ⟨z, hz, okz, rfl, b6'⟩
      rw [← hW5] at b6'
      have s5' := HB5.out.size
      have B6 : Below W0.heap.size W0 w6 := HB5.out.trans (b6'.mono s5')
      have s6 := B6.size
      obtain ⟨W6, hW6⟩ : ∃ W6, W6 = w6.alloc (.cells z.cells.toArray 25) := ⟨_, rfl⟩
      have bw : Below w6.heap.size w6 W6 := by rw [hW6]; exact (Below.refl _ _).alloc (Nat.le_refl _) _
      have B6' : Below W0.heap.size W0 W6 := B6.trans (bw.mono s6)
      have b56 : Below W5.heap.size W5 W6 := b6'.trans (bw.mono b6'.size)
      have kz : Ob W6 w6.heap.size 25 z.cells := by rw [hW6]; exact Ob.new w6 z.cells 25
      have okz6 := okz.below bw
      have oky6 := HY.out.2.below b56
      have heq : y.n = z.n := by rw [HY.out.1, hz]
      have HBX' := hide (fun (W : World) (bb : Below W6.heap.size W6 W) => HBX.out W (B6'.trans (bb.mono B6'.size)))
      have HKM := hide (fun (W : World) (bb : Below W6.heap.size W6 W) => (HKY.out.old b56).old bb)
      have HKK := hide (fun (W : World) (bb : Below W6.heap.size W6 W) => kz.old bb)
      have HSN : Hid (∀ W : World, Below W6.heap.size W6 W → Calls Try.prog 15 #[.agg y.cells.toArray, .agg z.cells.toArray] W fun e w' => e = .returned (.bool true) ∧ Below W.heap.size W w') := hide (fun W bb => (sameNd_any W y z (oky6.below bb) (okz6.below bb)).mono (fun e w' h => ⟨by rw [h.1]; simp [heq], h.2⟩))
      have HR1 := hide (fun (W : World) (bb : Below W6.heap.size W6 W) => HRI.out W (B6'.trans (bb.mono B6'.size)) (by have := HL.out; omega) (by have := HL.out; omega))
      have HR2 := hide (fun (W : World) (bb : Below W6.heap.size W6 W) => HRN.out W (B6'.trans (bb.mono B6'.size)) (by have := HL.out; omega) (by have := HL.out; omega))
      have HCV1 : Hid (∀ W : World, Below W6.heap.size W6 W → (convert 26 9 (.slice a3 L3 p3)).run Try.prog W = .ok (.string STR) W) := hide (fun W bb => by rw [HL3.out, HSTR.out]; exact ((HO3a.out.below b56).below bb).conv 26 5 9 Try.underlying26 Try.underlying5 Try.underlying9 _)
      have HCV2 : Hid (∀ W : World, Below W6.heap.size W6 W → (convert 26 9 (.slice a4 L3 p4)).run Try.prog W = .ok (.string STR) W) := hide (fun W bb => by rw [HL3.out, HSTR.out]; exact ((HO4a.out.below b56).below bb).conv 26 5 9 Try.underlying26 Try.underlying5 Try.underlying9 _)
      obtain ⟨klv, qa, qe, qc, qb, qk, qd, hcs3⟩ : ∃ klv qa qe qc qb qk qd, z.cells = [.int .i64 klv, .slice qa qe qc, .slice qb qk qd] := ⟨z.n.lv, z.ea, z.n.es.length, z.ec, z.ka, z.n.ks.length, z.kc, rfl⟩
      rw [hcs3] at hW6 HKK HSN ⊢
      rw [HCS2.out] at HSN
      have HB6 := hide B6'
      have s6' := B6'.size
      obtain ⟨nE, hnE⟩ : ∃ nE, nE = nodeE n := ⟨_, rfl⟩
      rw [← hnE] at HR1 HR2
      obtain ⟨ne2, hne2⟩ : ∃ ne2, ne2 = NO.2 := ⟨_, rfl⟩
      rw [← hne2]
      obtain ⟨pk, hpk⟩ : ∃ pk, pk = w6.heap.size := ⟨_, rfl⟩
      rw [← hpk] at HKK
      have HPK := hide hpk
      have HW6 := hide hW6
      clear hz okz b6' B6 bw b56 kz okz6 oky6 heq B6' HC5 hcs3 hnE hne2 HRI HRN HO3a HO4a hpk HBX
      have HBX := HBX'
      clear HBX'
      rw [← HPM.out]
      clear HPM hW5
      go_wp2
      rw [← HW6.out, ← HPK.out]
      clear HW6 hW6 HPK
      have HB7 : Hid (Below W6.heap.size W6 W6) := hide (Below.refl _ _)
      have fx := (HBX.out W6 HB7.out); have x0' := fx.cell 0; have x1' := fx.cell 1; have x2' := fx.cell 2; have fm := (HKM.out W6 HB7.out); have m0' := fm.cell 0; have m1' := fm.cell 1; have m2' := fm.cell 2; have fk := (HKK.out W6 HB7.out); have k0' := fk.cell 0; have k1' := fk.cell 1; have k2' := fk.cell 2; simp only [List.getElem?_cons_zero, List.getElem?_cons_succ] at x0' x1' x2' m0' m1' m2' k0' k1' k2'; have cva := HCV1.out W6 HB7.out; have cvb := HCV2.out W6 HB7.out
      have cvc := HCV1.out W6.drew (Below.refl _ _).drew
      have cvd := HCV2.out W6.drew (Below.refl _ _).drew
      clear fx fm fk
      go_region_held3 (fun W' => (W'.cell? ⟨w.heap.size, 0, none⟩ = some (.int .i64 c0) ∧ W'.cell? ⟨w.heap.size, 1, none⟩ = some (.slice ea ne ec) ∧ W'.cell? ⟨w.heap.size, 2, none⟩ = some (.slice ka nk kc)) ∧ (W'.cell? ⟨pm, 0, none⟩ = some (.int .i64 mlv) ∧ W'.cell? ⟨pm, 1, none⟩ = some (.slice ma me mc) ∧ W'.cell? ⟨pm, 2, none⟩ = some (.slice mb mk md)) ∧ (W'.cell? ⟨pk, 0, none⟩ = some (.int .i64 klv) ∧ W'.cell? ⟨pk, 1, none⟩ = some (.slice qa qe qc) ∧ W'.cell? ⟨pk, 2, none⟩ = some (.slice qb qk qd)) ∧ (convert 26 9 (.slice a3 L3 p3)).run Try.prog W' = .ok (.string STR) W' ∧ (convert 26 9 (.slice a4 L3 p4)).run Try.prog W' = .ok (.string STR) W') (go_keep) (first
        | (go_at_call 13; (with_reducible refine (HR1.out W6.drew (Below.refl _ _).drew).mono ?_); rintro en w7 ⟨rfl, b7⟩; have HB7 := hide ((Below.refl W6.heap.size W6).drew.trans b7); have fx := (HBX.out w7 HB7.out); have x0' := fx.cell 0; have x1' := fx.cell 1; have x2' := fx.cell 2; have fm := (HKM.out w7 HB7.out); have m0' := fm.cell 0; have m1' := fm.cell 1; have m2' := fm.cell 2; have fk := (HKK.out w7 HB7.out); have k0' := fk.cell 0; have k1' := fk.cell 1; have k2' := fk.cell 2; simp only [List.getElem?_cons_zero, List.getElem?_cons_succ] at x0' x1' x2' m0' m1' m2' k0' k1' k2'; have cva := HCV1.out w7 HB7.out; have cvb := HCV2.out w7 HB7.out; clear b7 fx fm fk)
        | (go_at_call 14; (with_reducible refine (HR2.out w7 HB7.out).mono ?_); rintro en w8 ⟨rfl, b8⟩; have HB8 := hide (HB7.out.trans (b8.mono HB7.out.size)); have fx := (HBX.out w8 HB8.out); have x0' := fx.cell 0; have x1' := fx.cell 1; have x2' := fx.cell 2; have fm := (HKM.out w8 HB8.out); have m0' := fm.cell 0; have m1' := fm.cell 1; have m2' := fm.cell 2; have fk := (HKK.out w8 HB8.out); have k0' := fk.cell 0; have k1' := fk.cell 1; have k2' := fk.cell 2; simp only [List.getElem?_cons_zero, List.getElem?_cons_succ] at x0' x1' x2' m0' m1' m2' k0' k1' k2'; have cva := HCV1.out w8 HB8.out; have cvb := HCV2.out w8 HB8.out; clear b8 fx fm fk)
        | (go_at_call 15; (with_reducible refine (HSN.out w8 HB8.out).mono ?_); rintro en w9 ⟨rfl, b9⟩; have HB9 := hide (HB8.out.trans (b9.mono HB8.out.size)); have fx := (HBX.out w9 HB9.out); have x0' := fx.cell 0; have x1' := fx.cell 1; have x2' := fx.cell 2; have fm := (HKM.out w9 HB9.out); have m0' := fm.cell 0; have m1' := fm.cell 1; have m2' := fm.cell 2; have fk := (HKK.out w9 HB9.out); have k0' := fk.cell 0; have k1' := fk.cell 1; have k2' := fk.cell 2; simp only [List.getElem?_cons_zero, List.getElem?_cons_succ] at x0' x1' x2' m0' m1' m2' k0' k1' k2'; have cva := HCV1.out w9 HB9.out; have cvb := HCV2.out w9 HB9.out; clear b9 fx fm fk))
      have HF := hide (HB0.out.trans ((HB6.out.trans (HB9.out.mono s6')).mono (show w.heap.size ≤ W0.heap.size by omega)))
      go_wp2
      go_ret
      exact ⟨rfl, HF.out⟩
end Go.Proofs.Ytandjkogpdamcaa
