/- SuperKeeps, over the translation. -/
import Derived.Test.YtdpbkmbegjcgjaaCLo
import Derived.Test.YtdpbkmbegjcgjaaSag
import Derived.Test.YtdpbkmbegjcgjaaCNew
import Derived.Test.YtdpbkmbegjcgjaaCAr
import Derived.Test.YtdpbkmbegjcgjaaCCr
import Derived.Test.YtdpbkmbegjcgjaaSKm
import Derived.Test.YtdpbkmbegjcgjaaSupI
import Derived.Test.YtdpbkmbegjcgjaaFatI
import Derived.Test.YtdpbkmbegjcgjaaSpa
namespace Go.Proofs.Ytdpbkmbegjcgjaa
open Go.RowKit Apo Go.Maps

/-- the program's device, and beside it the super and the fate that came in, in their variables -/
structure One (w wr : World) (p : Nat) (O : Nat → Prop) (st : Sd) (s : Sup) (f : Fat) : Prop where
  c : CDev O wr p st
  lo : ∀ i, O i → w.heap.size + 2 ≤ i
  hi : ∀ i, O i → i < wr.heap.size
  bel : Below w.heap.size w wr
  ks : Ob wr w.heap.size 25 s.cells
  kf : Ob wr (w.heap.size + 1) 49 f.cells
section
variable {w wr wq : World} {p : Nat} {O : Nat → Prop} {st st' : Sd} {s : Sup} {f : Fat}
theorem One.turn (h : One w wr p O st s f) (ho : Onl O wr wq) (hd : CDev (Gro O wr wq) wq p st') : One w wq p (Gro O wr wq) st' s f :=
  ⟨hd, Gro.base h.lo h.kf.lt, Gro.lt h.hi ho.size, Below.onl h.bel ho (fun i hi => by have := h.lo i hi; omega) (Nat.le_refl _), h.ks.onl ho (fun q => by have := h.lo _ q; omega), h.kf.onl ho (fun q => by have := h.lo _ q; omega)⟩
theorem One.turn0 (h : One w wr p O st s f) (ho : Onl O wr wq) (hd : CDev O wq p st') : One w wq p O st' s f :=
  ⟨hd, h.lo, fun i hi => Nat.lt_of_lt_of_le (h.hi i hi) ho.size, Below.onl h.bel ho (fun i hi => by have := h.lo i hi; omega) (Nat.le_refl _), h.ks.onl ho (fun q => by have := h.lo _ q; omega), h.kf.onl ho (fun q => by have := h.lo _ q; omega)⟩
theorem One.below (h : One w wr p O st s f) (hb : Below wr.heap.size wr wq) : One w wq p O st s f :=
  ⟨h.c.onl (F := fun _ => False) (Onl.ofBelow hb) (fun _ _ q => q), h.lo, fun i hi => Nat.lt_of_lt_of_le (h.hi i hi) hb.size, h.bel.trans (hb.mono h.bel.size), h.ks.old hb, h.kf.old hb⟩
theorem One.epoch (h : One w wr p O st s f) (e : Nat) (z : Int) (hz : z = e) : One w (wr.setCell ⟨w.heap.size, 0, none⟩ (.int .u64 z)) p O st { s with e := e } f := by
  subst hz
  exact
  ⟨h.c.onl (F := fun i => i = w.heap.size) ((Onl.refl (fun i => i = w.heap.size) wr).set (p := w.heap.size) (.inl rfl) _) (fun i hi q => by have := h.lo i hi; omega), h.lo, fun i hi => by have := h.hi i hi; simpa using this, h.bel.setCell (p := ⟨w.heap.size, 0, none⟩) (Nat.le_refl _) _, h.ks.set 0 _, h.kf.set_other (by omega) _⟩
end
theorem fat_lt {w : World} {g : Fat} (hr : OkT w g) : ∀ x, g.ka = some x → 0 < g.keep.length → x.block < w.heap.size := fun x hx h0 => by
  obtain ⟨b, off, e, hc⟩ := hr.rd 0 h0
  rw [hx] at e
  cases e
  exact World.block_lt_of_cell? w _ hc

set_option maxRecDepth 100000 in
set_option maxHeartbeats 8000000 in
theorem keeps_any (sa : Option Addr) (sc : Nat) (l : List Sup) (s : Sup) (arm : Int) (harm : arm ≤ 9223372036854775807) (f : Fat) (w : World) (hs : s.Ok) (rs : RdS w sa l) (hf : OkT w f) :
    Calls Try.prog 5 #[.slice sa l.length sc, s.val, .int .i64 arm, f.val] w fun e w' => e = .returned (.bool true) ∧ Below w.heap.size w w' := by
  have RS := hide rs
  have HF := hide hf
  have HS := hide hs
  have hfl := hf.len
  unfold maxLen at hfl
  clear rs hf hs
  have hfv : f.val = .agg #[.slice f.ka f.keep.length f.kc, .int .i64 f.torn, .int .i64 f.bytes] := rfl
  rw [hfv, sup_val]
  clear hfv
  have BA := ((Below.refl w.heap.size w).alloc (Nat.le_refl _) (.cells #[.int .u64 s.e, .int .u32 s.st, .int .u32 s.pg, .int .u32 s.sz] 25)).alloc (by simp) (.cells #[.slice f.ka f.keep.length f.kc, .int .i64 f.torn, .int .i64 f.bytes] 49)
  have k0 := (ob_sup w s).alloc (.cells #[.slice f.ka f.keep.length f.kc, .int .i64 f.torn, .int .i64 f.bytes] 49)
  have j0 : Ob ((w.alloc (.cells #[.int .u64 s.e, .int .u32 s.st, .int .u32 s.pg, .int .u32 s.sz] 25)).alloc (.cells #[.slice f.ka f.keep.length f.kc, .int .i64 f.torn, .int .i64 f.bytes] 49)) (w.heap.size + 1) 49 f.cells := by
    have := Ob.new (w.alloc (.cells #[.int .u64 s.e, .int .u32 s.st, .int .u32 s.pg, .int .u32 s.sz] 25)) f.cells 49
    rw [World.size_alloc] at this
    exact this
  generalize hW0 : (w.alloc (.cells #[.int .u64 s.e, .int .u32 s.st, .int .u32 s.pg, .int .u32 s.sz] 25)).alloc (.cells #[.slice f.ka f.keep.length f.kc, .int .i64 f.torn, .int .i64 f.bytes] 49) = W0 at k0 BA j0
  have HK0 := hide k0
  have HJ0 := hide j0
  have HB0 := hide BA
  have HW0 := hide hW0
  clear k0 j0 BA hW0
  go_enter Try.func5, Try.ntmps5
  go_wp2_with fail
  rw [HW0.out]
  refine (awake_any put_does of_does W0).mono ?_
  rintro e w1 ⟨rfl, b1⟩
  have HK1 := hide (HK0.out.old b1)
  have j1 := HJ0.out.old b1
  have HJ1 := hide j1
  have HB1 := hide (HB0.out.trans (b1.mono HB0.out.size))
  have c0 := j1.cell 0
  unfold Fat.cells at c0
  simp only [List.getElem?_cons_zero] at c0
  clear b1 HK0 HJ0 HB0 j1
  by_cases hl8 : 8 < l.length
  · go_wp2
    go_ret
    exact ⟨rfl, HB1.out⟩
  by_cases hk20 : 20 < f.keep.length
  · go_wp2
    go_ret
    exact ⟨rfl, HB1.out⟩
  go_wp2_with fail
  refine (cnew_any 2 w1).mono ?_
  rintro e w2 ⟨p, rfl, D2, b2⟩
  have O2 : One w w2 p (Fresh w1 w2) (newSd 2) s f := ⟨D2, fun i hi => by have h1 := hi.1; have h2 := HJ1.out.lt; omega, fun i hi => hi.2, HB1.out.trans (b2.mono HB1.out.size), HK1.out.old b2, HJ1.out.old b2⟩
  generalize Fresh w1 w2 = O2' at O2
  have KP2 := hide Kp.new
  generalize newSd 2 = st2 at O2 KP2
  have HO2 := hide O2
  clear O2 D2 b2 HK1 HJ1 HB1 c0
  go_wp2
  go_loopw [10, 32] (fun v i wr => ∃ (k : Nat) (O : Nat → Prop) (st : Sd) (c o : List Int), k ≤ l.length ∧ i = .int .i64 k ∧ v = .int .u64 k ∧ Hid (Kp st k c o) ∧ Hid (One w wr p O st s f)) (fun _ i _ => l.length - (intOf i).toNat)
  case atStart => exact ⟨0, O2', st2, _, _, Nat.zero_le _, rfl, rfl, KP2, HO2⟩
  case round =>
    obtain ⟨k, O, st, c, o, hk, rfl, rfl, hKp, hO⟩ := hrel
    by_cases hlt : k < l.length
    · obtain ⟨x, hx⟩ : ∃ x, l[k]? = some x := ⟨_, List.getElem?_eq_getElem hlt⟩
      obtain ⟨okx, b', off', ha', q0, q1, q2, q3⟩ := RS.out.below hO.out.bel k x hx
      subst ha'
      have ok1 : ({ x with e := k + 1 } : Sup).Ok := ⟨by simp; omega, okx.st, okx.pg, okx.sz⟩
      have hsv := hKp.out.save ok1 rfl
      have hC : st.C.length = 0 := by rw [hKp.out.C]; rfl
      have hb1 := (Below.refl wr.heap.size wr).alloc (Nat.le_refl _) (.cells #[.int .u64 ((k : Int) + 1), .int .u32 x.st, .int .u32 x.pg, .int .u32 x.sz] 25)
      have hO1 := hO.out.below hb1
      have HC1 := hide (csave_z hO1.c hO1.hi (by omega) { x with e := k + 1 } ok1 ((k : Int) + 1) rfl)
      have HO1 := hide hO1
      have HSV := hide hsv.1
      have HKN := hide hsv.2
      clear hx okx hsv hb1 hO1
      go_wp2_with fail
      refine HC1.out.mono ?_
      rintro e w3 ⟨rfl, D3, o3⟩
      rw [HSV.out]
      have O3 := hide (HO1.out.turn o3 D3)
      clear D3 o3
      go_wp2
      go_roundw
      case rel => exact ⟨k + 1, _, _, _, _, hlt, by simp, by simp, HKN, O3⟩
      case measure => simp [intOf]; omega
    · have hkl : k = l.length := by omega
      have hC : st.C.length = 0 := by rw [hKp.out.C]; rfl
      have hld := hKp.out.load
      have HC1 := hide (cload_any hO.out.c hO.out.hi (by omega))
      have ok1 : ({ s with e := k + 1 } : Sup).Ok := ⟨by simp; omega, HS.out.st, HS.out.pg, HS.out.sz⟩
      have hcr := hKp.out.crash arm ok1 rfl f
      have hzu : (st.load.2 = 0 ∧ 0 < l.length) ∨ (st.load.2 = 50 ∧ ¬ 0 < l.length ∧ st.load.1 = Sup.none) := by
        rw [hld]
        by_cases h0 : k = 0
        · rw [if_pos h0]; exact .inr ⟨rfl, by omega, rfl⟩
        · rw [if_neg h0]; exact .inl ⟨rfl, by omega⟩
      have HKL := hide hkl
      have HCR := hide hcr
      have HOK := hide ok1
      clear hld hkl hcr ok1
      go_wp2_with fail
      refine HC1.out.mono ?_
      rintro e w3 ⟨rfl, b3⟩
      rw [sup_val]
      have HU : Hid (st.load = (st.load.1, st.load.2)) := rfl
      generalize st.load.1 = u at *
      generalize st.load.2 = z at *
      have BA3 := (Below.refl w3.heap.size w3).alloc (Nat.le_refl _) (.cells #[.int .u64 u.e, .int .u32 u.st, .int .u32 u.pg, .int .u32 u.sz] 25)
      have hnO : ¬ O w3.heap.size := fun q => by have h1 := hO.out.hi _ q; have h2 := b3.size; omega
      have O4 := (hO.out.below b3).below BA3
      have kw4 := ob_sup w3 u
      have hg4 := kw4.lt
      have hgw : w3.heap.size ≠ w.heap.size := by have h1 := hO.out.ks.lt; have h2 := b3.size; omega
      generalize hW4 : w3.alloc (.cells #[.int .u64 u.e, .int .u32 u.st, .int .u32 u.pg, .int .u32 u.sz] 25) = W4 at O4 kw4 hg4
      generalize hgw3 : w3.heap.size = gw at kw4 hnO hgw hg4
      have O5 := O4.epoch (k + 1) ((k : Int) + 1) rfl
      have kw5 := kw4.set_other (q := w.heap.size) (i := 0) hgw (.int .u64 ((k : Int) + 1))
      have s0 := O4.ks.frozen 0
      obtain ⟨x0, x1, x2, x3⟩ := sup_cells O4.ks
      have HO5 := hide O5
      have HK5 := hide kw5
      have HN := hide hnO
      have HG := hide hg4
      have HGW := hide hgw
      clear b3 BA3 O4 kw4 O5 kw5 hnO hg4 hgw
      have HZU := hide hzu
      clear hzu
      rcases HZU.out with ⟨rfl, hl0⟩ | ⟨rfl, hl0, hun⟩
      · clear HZU
        go_wp2_with fail
        refine (carm_any HO5.out.c arm harm).mono ?_
        rintro e w6 ⟨rfl, D6, o6⟩
        have O6 := HO5.out.turn0 o6 D6
        have kw6 := HK5.out.onl o6 HN.out
        have z6 : W4.heap.size ≤ w6.heap.size := by have := o6.size; simpa using this
        obtain ⟨a0, a1, a2, a3⟩ := sup_cells O6.ks
        have a0' : w6.cell? ⟨w.heap.size, 0, none⟩ = some (.int .u64 ((k : Int) + 1)) := a0
        have HO6 := hide O6
        have HK6 := hide kw6
        clear D6 o6 O6 kw6 a0
        go_wp2_with fail
        refine (csave_z HO6.out.c HO6.out.hi (by have : (st.armed arm).C = st.C := rfl; rw [this]; omega) { s with e := k + 1 } HOK.out ((k : Int) + 1) rfl).mono ?_
        rintro e w7 ⟨rfl, D7, o7⟩
        have O7 := HO6.out.turn o7 D7
        have kw7 := HK6.out.onl o7 HN.out
        have hn7 : ¬ Gro O w6 w7 gw := fun q => q.elim HN.out (fun q => by have := q.1; have := HG.out; omega)
        have hC7 : ((st.armed arm).save { s with e := k + 1 }).2.C.length ≤ 1 := by have := save_C (st.armed arm) { s with e := k + 1 }; have h2 : (st.armed arm).C = st.C := rfl; rw [h2] at this; omega
        have hC8 : (((st.armed arm).save { s with e := k + 1 }).2.crashed f).C.length ≤ 1 := by simp [Sd.crashed]
        have g0 := O7.kf.cell 0
        have g1 := O7.kf.cell 1
        have g2 := O7.kf.cell 2
        unfold Fat.cells at g0 g1 g2
        simp only [List.getElem?_cons_zero, List.getElem?_cons_succ] at g0 g1 g2
        have HO7 := hide O7
        have HK7 := hide kw7
        have HN7 := hide hn7
        have HCR2 := hide HCR.out
        generalize hst7 : ((st.armed arm).save { s with e := k + 1 }).2 = st7 at HO7 hC7 hC8 HCR2
        generalize hdn : ((st.armed arm).save { s with e := k + 1 }).1 = dn at HCR2 ⊢
        generalize Gro O w6 w7 = O7' at HO7 HN7
        clear D7 o7 O7 kw7 hn7 hst7 hdn a0' a1 a2 a3 z6
        go_wp2_with fail
        refine (ccrash_any HO7.out.c HO7.out.hi (by omega) f (HF.out.below HO7.out.bel) (fun x hx h0 q => by have h1 := fat_lt HF.out x hx h0; have h2 := HO7.out.lo _ q; omega)).mono ?_
        rintro e w8 ⟨rfl, D8, o8⟩
        have O8 := HO7.out.turn0 o8 D8
        have kw8 := HK7.out.onl o8 HN7.out
        have HO8 := hide O8
        have HK8 := hide kw8
        clear D8 o8 O8 kw8 g0 g1 g2
        go_wp2_with fail
        refine (cload_any HO8.out.c HO8.out.hi (by omega)).mono ?_
        rintro e w9 ⟨rfl, b9⟩
        have O9 := HO8.out.below b9
        have kw9 := HK8.out.old b9
        have hm : Try.prog.eqGuardType Try.prog.depth 25 = false := by kernel_rfl
        rcases HCR2.out with h | ⟨hne, h⟩
        · have hq1 : ∀ w, (binOp .eql 25 (.agg #[.int .u64 ((k : Int) + 1), .int .u32 s.st, .int .u32 s.pg, .int .u32 s.sz]) (.agg #[.int .u64 ((k : Int) + 1), .int .u32 s.st, .int .u32 s.pg, .int .u32 s.sz])).run Try.prog w = .ok (.bool true) w := by
            have := eqS { s with e := k + 1 } { s with e := k + 1 }
            rw [decide_eq_true rfl] at this
            exact this
          have hv : ({ s with e := k + 1 } : Sup).val = .agg #[.int .u64 ((k : Int) + 1), .int .u32 s.st, .int .u32 s.pg, .int .u32 s.sz] := rfl
          rw [h, hv]
          have BA9 := (Below.refl w9.heap.size w9).alloc (Nat.le_refl _) (.cells #[.int .u64 ((k : Int) + 1), .int .u32 s.st, .int .u32 s.pg, .int .u32 s.sz] 25)
          have O10 := O9.below BA9
          have n10 : Ob (w9.alloc (.cells #[.int .u64 ((k : Int) + 1), .int .u32 s.st, .int .u32 s.pg, .int .u32 s.sz] 25)) w9.heap.size 25 ({ s with e := k + 1 } : Sup).cells := ob_sup w9 { s with e := k + 1 }
          obtain ⟨a0, a1, a2, a3⟩ := sup_cells O10.ks
          obtain ⟨c0, c1, c2, c3⟩ := sup_cells n10
          generalize hW10 : w9.alloc (.cells #[.int .u64 ((k : Int) + 1), .int .u32 s.st, .int .u32 s.pg, .int .u32 s.sz] 25) = W10 at *
          have a0' : W10.cell? ⟨w.heap.size, 0, none⟩ = some (.int .u64 ((k : Int) + 1)) := a0
          have c0' : W10.cell? ⟨w9.heap.size, 0, none⟩ = some (.int .u64 ((k : Int) + 1)) := c0
          have HB10 := hide O10.bel
          clear h hv BA9 O10 n10 a0 c0 b9 O9 kw9 HCR2 HCR
          go_wp2
          go_ret
          exact ⟨rfl, HB10.out⟩
        · have hq1 : ∀ w, (binOp .eql 25 (.agg #[.int .u64 u.e, .int .u32 u.st, .int .u32 u.pg, .int .u32 u.sz]) (.agg #[.int .u64 ((k : Int) + 1), .int .u32 s.st, .int .u32 s.pg, .int .u32 s.sz])).run Try.prog w = .ok (.bool (decide (u = { s with e := k + 1 }))) w := eqS u { s with e := k + 1 }
          have hq2 := eqS u u
          rw [decide_eq_true rfl] at hq2
          have hneb : (dn != 0) = true := by simpa using hne
          rw [h, HU.out]
          simp only [sup_val]
          have BA9 := (Below.refl w9.heap.size w9).alloc (Nat.le_refl _) (.cells #[.int .u64 u.e, .int .u32 u.st, .int .u32 u.pg, .int .u32 u.sz] 25)
          have O10 := O9.below BA9
          have n10 := ob_sup w9 u
          have m10 := kw9.old BA9
          obtain ⟨a0, a1, a2, a3⟩ := sup_cells O10.ks
          obtain ⟨c0, c1, c2, c3⟩ := sup_cells n10
          obtain ⟨d0, d1, d2, d3⟩ := sup_cells m10
          generalize hW10 : w9.alloc (.cells #[.int .u64 u.e, .int .u32 u.st, .int .u32 u.pg, .int .u32 u.sz] 25) = W10 at *
          have a0' : W10.cell? ⟨w.heap.size, 0, none⟩ = some (.int .u64 ((k : Int) + 1)) := a0
          have HB10 := hide O10.bel
          clear h hne BA9 O10 n10 m10 a0 b9 O9 kw9 HCR2 HCR
          by_cases hus : u = { s with e := k + 1 }
          · rw [decide_eq_true hus] at hq1
            clear hus
            go_wp2
            go_ret
            exact ⟨rfl, HB10.out⟩
          · rw [decide_eq_false hus] at hq1
            clear hus
            go_wp2
            go_ret
            exact ⟨rfl, HB10.out⟩
      · have HUN := hide hun
        clear HZU hun
        go_wp2_with fail
        refine (carm_any HO5.out.c arm harm).mono ?_
        rintro e w6 ⟨rfl, D6, o6⟩
        have O6 := HO5.out.turn0 o6 D6
        have kw6 := HK5.out.onl o6 HN.out
        have z6 : W4.heap.size ≤ w6.heap.size := by have := o6.size; simpa using this
        obtain ⟨a0, a1, a2, a3⟩ := sup_cells O6.ks
        have a0' : w6.cell? ⟨w.heap.size, 0, none⟩ = some (.int .u64 ((k : Int) + 1)) := a0
        have HO6 := hide O6
        have HK6 := hide kw6
        clear D6 o6 O6 kw6 a0
        go_wp2_with fail
        refine (csave_z HO6.out.c HO6.out.hi (by have : (st.armed arm).C = st.C := rfl; rw [this]; omega) { s with e := k + 1 } HOK.out ((k : Int) + 1) rfl).mono ?_
        rintro e w7 ⟨rfl, D7, o7⟩
        have O7 := HO6.out.turn o7 D7
        have kw7 := HK6.out.onl o7 HN.out
        have hn7 : ¬ Gro O w6 w7 gw := fun q => q.elim HN.out (fun q => by have := q.1; have := HG.out; omega)
        have hC7 : ((st.armed arm).save { s with e := k + 1 }).2.C.length ≤ 1 := by have := save_C (st.armed arm) { s with e := k + 1 }; have h2 : (st.armed arm).C = st.C := rfl; rw [h2] at this; omega
        have hC8 : (((st.armed arm).save { s with e := k + 1 }).2.crashed f).C.length ≤ 1 := by simp [Sd.crashed]
        have g0 := O7.kf.cell 0
        have g1 := O7.kf.cell 1
        have g2 := O7.kf.cell 2
        unfold Fat.cells at g0 g1 g2
        simp only [List.getElem?_cons_zero, List.getElem?_cons_succ] at g0 g1 g2
        have HO7 := hide O7
        have HK7 := hide kw7
        have HN7 := hide hn7
        have HCR2 := hide HCR.out
        generalize hst7 : ((st.armed arm).save { s with e := k + 1 }).2 = st7 at HO7 hC7 hC8 HCR2
        generalize hdn : ((st.armed arm).save { s with e := k + 1 }).1 = dn at HCR2 ⊢
        generalize Gro O w6 w7 = O7' at HO7 HN7
        clear D7 o7 O7 kw7 hn7 hst7 hdn a0' a1 a2 a3 z6
        go_wp2_with fail
        refine (ccrash_any HO7.out.c HO7.out.hi (by omega) f (HF.out.below HO7.out.bel) (fun x hx h0 q => by have h1 := fat_lt HF.out x hx h0; have h2 := HO7.out.lo _ q; omega)).mono ?_
        rintro e w8 ⟨rfl, D8, o8⟩
        have O8 := HO7.out.turn0 o8 D8
        have kw8 := HK7.out.onl o8 HN7.out
        have HO8 := hide O8
        have HK8 := hide kw8
        clear D8 o8 O8 kw8 g0 g1 g2
        go_wp2_with fail
        refine (cload_any HO8.out.c HO8.out.hi (by omega)).mono ?_
        rintro e w9 ⟨rfl, b9⟩
        have O9 := HO8.out.below b9
        have kw9 := HK8.out.old b9
        have hm : Try.prog.eqGuardType Try.prog.depth 25 = false := by kernel_rfl
        rcases HCR2.out with h | ⟨hne, h⟩
        · have hq1 : ∀ w, (binOp .eql 25 (.agg #[.int .u64 ((k : Int) + 1), .int .u32 s.st, .int .u32 s.pg, .int .u32 s.sz]) (.agg #[.int .u64 ((k : Int) + 1), .int .u32 s.st, .int .u32 s.pg, .int .u32 s.sz])).run Try.prog w = .ok (.bool true) w := by
            have := eqS { s with e := k + 1 } { s with e := k + 1 }
            rw [decide_eq_true rfl] at this
            exact this
          have hv : ({ s with e := k + 1 } : Sup).val = .agg #[.int .u64 ((k : Int) + 1), .int .u32 s.st, .int .u32 s.pg, .int .u32 s.sz] := rfl
          rw [h, hv]
          have BA9 := (Below.refl w9.heap.size w9).alloc (Nat.le_refl _) (.cells #[.int .u64 ((k : Int) + 1), .int .u32 s.st, .int .u32 s.pg, .int .u32 s.sz] 25)
          have O10 := O9.below BA9
          have n10 : Ob (w9.alloc (.cells #[.int .u64 ((k : Int) + 1), .int .u32 s.st, .int .u32 s.pg, .int .u32 s.sz] 25)) w9.heap.size 25 ({ s with e := k + 1 } : Sup).cells := ob_sup w9 { s with e := k + 1 }
          obtain ⟨a0, a1, a2, a3⟩ := sup_cells O10.ks
          obtain ⟨c0, c1, c2, c3⟩ := sup_cells n10
          generalize hW10 : w9.alloc (.cells #[.int .u64 ((k : Int) + 1), .int .u32 s.st, .int .u32 s.pg, .int .u32 s.sz] 25) = W10 at *
          have a0' : W10.cell? ⟨w.heap.size, 0, none⟩ = some (.int .u64 ((k : Int) + 1)) := a0
          have c0' : W10.cell? ⟨w9.heap.size, 0, none⟩ = some (.int .u64 ((k : Int) + 1)) := c0
          have HB10 := hide O10.bel
          clear h hv BA9 O10 n10 a0 c0 b9 O9 kw9 HCR2 HCR
          go_wp2
          go_ret
          exact ⟨rfl, HB10.out⟩
        · have hq1 : ∀ w, (binOp .eql 25 (.agg #[.int .u64 u.e, .int .u32 u.st, .int .u32 u.pg, .int .u32 u.sz]) (.agg #[.int .u64 ((k : Int) + 1), .int .u32 s.st, .int .u32 s.pg, .int .u32 s.sz])).run Try.prog w = .ok (.bool (decide (u = { s with e := k + 1 }))) w := eqS u { s with e := k + 1 }
          have hq2 := eqS u u
          rw [decide_eq_true rfl] at hq2
          have hneb : (dn != 0) = true := by simpa using hne
          rw [h, HU.out]
          simp only [sup_val]
          have BA9 := (Below.refl w9.heap.size w9).alloc (Nat.le_refl _) (.cells #[.int .u64 u.e, .int .u32 u.st, .int .u32 u.pg, .int .u32 u.sz] 25)
          have O10 := O9.below BA9
          have n10 := ob_sup w9 u
          have m10 := kw9.old BA9
          obtain ⟨a0, a1, a2, a3⟩ := sup_cells O10.ks
          obtain ⟨c0, c1, c2, c3⟩ := sup_cells n10
          obtain ⟨d0, d1, d2, d3⟩ := sup_cells m10
          generalize hW10 : w9.alloc (.cells #[.int .u64 u.e, .int .u32 u.st, .int .u32 u.pg, .int .u32 u.sz] 25) = W10 at *
          have a0' : W10.cell? ⟨w.heap.size, 0, none⟩ = some (.int .u64 ((k : Int) + 1)) := a0
          have HB10 := hide O10.bel
          clear h hne BA9 O10 n10 m10 a0 b9 O9 kw9 HCR2 HCR
          by_cases hus : u = { s with e := k + 1 }
          · skip
            skip
            exact absurd (congrArg Sup.e hus) (by rw [HUN.out]; simp [Sup.none])
          · rw [decide_eq_false hus] at hq1
            clear hus
            go_wp2
            go_ret
            exact ⟨rfl, HB10.out⟩
end Go.Proofs.Ytdpbkmbegjcgjaa
