/- DevDoes, over the translation: whatever is done with a device, errors and sectors are what the document says. -/
import Derived.Test.YtgkgbemliinajaaDAr
import Derived.Test.YtgkgbemliinajaaRWr
import Derived.Test.YtgkgbemliinajaaRCo
import Derived.Test.YtgkgbemliinajaaRNew
import Derived.Test.YtgkgbemliinajaaRCr
import Derived.BigQuiet
import Derived.Deep.RegionHeld3
namespace Go.Proofs.Ytgkgbemliinajaa
open Go.RowKit Apo Go.Maps

/-- what the document's device owns lies in memory -/
theorem row_cut {O : Nat → Prop} {w : World} {e : TypeId} {size : Nat} {v : Value} {n : Nat} {xs : List Value} (h : Row O w e size v n xs) : Row (fun i => O i ∧ i < w.heap.size) w e size v n xs := ⟨h.1, fun g hg => ⟨h.2 g hg, h.lt g hg⟩⟩
theorem byts_cut {O : Nat → Prop} {e : TypeId} {w : World} {vs : List Value} {rs : List (List Int)} (h : Byts O e w vs rs) : Byts (fun i => O i ∧ i < w.heap.size) e w vs rs := ⟨h.1, fun i v r hv hr => row_cut (h.2 i v r hv hr)⟩
theorem rdev_fresh {w w' : World} {p : Nat} {st : Sd} (h : RDev (fun i => w.heap.size ≤ i) w' p st) : RDev (Fresh w w') w' p st := by
  obtain ⟨vS, vC, vB, rv, cv, h⟩ := h
  exact ⟨vS, vC, vB, rv, cv, ⟨h.ob, ⟨h.own, h.ob.lt⟩, row_cut h.sS, byts_cut h.sR, row_cut h.sC, byts_cut h.sW, row_cut h.sB, h.ok⟩⟩

/-- the program's device and the document's, side by side -/
structure Two (w wr : World) (p q : Nat) (O U : Nat → Prop) (sc sr : Sd) : Prop where
  c : CDev O wr p sc
  r : RDev U wr q sr
  bel : Below w.heap.size w wr
  loO : ∀ i, O i → w.heap.size ≤ i
  loU : ∀ i, U i → w.heap.size ≤ i
  hiO : ∀ i, O i → i < wr.heap.size
  hiU : ∀ i, U i → i < wr.heap.size
  apart : ∀ i, U i → ¬ O i
section
variable {w wr wq : World} {p q p' q' : Nat} {O U : Nat → Prop} {sc sr s' : Sd}
theorem Two.turnC (h : Two w wr p q O U sc sr) (ho : Onl O wr wq) (hd : CDev (Gro O wr wq) wq p s') : Two w wq p q (Gro O wr wq) U s' sr :=
  ⟨hd, h.r.onl ho h.apart, Below.onl h.bel ho h.loO (Nat.le_refl _), Gro.base h.loO h.bel.size, h.loU, Gro.lt h.hiO ho.size, fun i hi => Nat.lt_of_lt_of_le (h.hiU i hi) ho.size, Gro.apart h.apart h.hiU⟩
theorem Two.turnR (h : Two w wr p q O U sc sr) (ho : Onl U wr wq) (hd : RDev (Gro U wr wq) wq q s') : Two w wq p q O (Gro U wr wq) sc s' :=
  ⟨h.c.onl ho (fun i hi hu => h.apart i hu hi), hd, Below.onl h.bel ho h.loU (Nat.le_refl _), h.loO, Gro.base h.loU h.bel.size, fun i hi => Nat.lt_of_lt_of_le (h.hiO i hi) ho.size, Gro.lt h.hiU ho.size, fun i hu hi => hu.elim (fun hu => h.apart i hu hi) (fun hu => absurd (h.hiO i hi) (Nat.not_lt.2 hu.1))⟩
theorem Two.turnC0 (h : Two w wr p q O U sc sr) (ho : Onl O wr wq) (hd : CDev O wq p s') : Two w wq p q O U s' sr :=
  ⟨hd, h.r.onl ho h.apart, Below.onl h.bel ho h.loO (Nat.le_refl _), h.loO, h.loU, fun i hi => Nat.lt_of_lt_of_le (h.hiO i hi) ho.size, fun i hi => Nat.lt_of_lt_of_le (h.hiU i hi) ho.size, h.apart⟩
theorem Two.turnR0 (h : Two w wr p q O U sc sr) (ho : Onl U wr wq) (hd : RDev U wq q s') : Two w wq p q O U sc s' :=
  ⟨h.c.onl ho (fun i hi hu => h.apart i hu hi), hd, Below.onl h.bel ho h.loU (Nat.le_refl _), h.loO, h.loU, fun i hi => Nat.lt_of_lt_of_le (h.hiO i hi) ho.size, fun i hi => Nat.lt_of_lt_of_le (h.hiU i hi) ho.size, h.apart⟩
theorem Two.below (h : Two w wr p q O U sc sr) (hb : Below wr.heap.size wr wq) : Two w wq p q O U sc sr :=
  ⟨h.c.onl (F := fun _ => False) (Onl.ofBelow hb) (fun _ _ q => q), h.r.onl (F := fun _ => False) (Onl.ofBelow hb) (fun _ _ q => q), h.bel.trans (hb.mono h.bel.size), h.loO, h.loU, fun i hi => Nat.lt_of_lt_of_le (h.hiO i hi) hb.size, fun i hi => Nat.lt_of_lt_of_le (h.hiU i hi) hb.size, h.apart⟩
theorem Two.drew (h : Two w wr p q O U sc sr) : Two w wr.drew p q O U sc sr := h.below ((Below.refl _ wr).drew)
theorem Two.drewN (h : Two w wr p q O U sc sr) (n : Nat) : Two w (wr.drewN n) p q O U sc sr := h.below ⟨rfl, rfl, rfl, Nat.le_refl _, fun _ _ => rfl⟩
theorem Two.copyC (h : Two w wr p q O U sc sr) (hb : Below wr.heap.size wr wq) (hd : CDev (Fresh wr wq) wq p' s') : Two w wq p' q (Fresh wr wq) U s' sr :=
  ⟨hd, (h.below hb).r, (h.below hb).bel, fun _ hi => Nat.le_trans h.bel.size hi.1, h.loU, fun _ hi => hi.2, (h.below hb).hiU, fun i hu hi => absurd (h.hiU i hu) (Nat.not_lt.2 hi.1)⟩
theorem Two.copyR (h : Two w wr p q O U sc sr) (hb : Below wr.heap.size wr wq) (hd : RDev (Gro U wr wq) wq q' s') : Two w wq p q' O (Gro U wr wq) sc s' :=
  ⟨(h.below hb).c, hd, (h.below hb).bel, h.loO, Gro.base h.loU h.bel.size, (h.below hb).hiO, Gro.lt h.hiU hb.size, fun i hu hi => hu.elim (fun hu => h.apart i hu hi) (fun hu => absurd (h.hiO i hi) (Nat.not_lt.2 hu.1))⟩
theorem Two.bytC (h : Two w wr p q O U sc sr) {k : IntKind} {a : Option Addr} {l : List Int} (hr : Rd k w a l) : ∀ x, a = some x → 0 < l.length → ¬ O x.block := fun x hx h0 q => by
  subst hx
  exact absurd (hr.lt h0) (Nat.not_lt.2 (h.loO _ q))
theorem Two.bytR (h : Two w wr p q O U sc sr) {k : IntKind} {a : Option Addr} {l : List Int} (hr : Rd k w a l) : ∀ x, a = some x → 0 < l.length → ¬ U x.block := fun x hx h0 q => by
  subst hx
  exact absurd (hr.lt h0) (Nat.not_lt.2 (h.loU _ q))
theorem fat_lt {g : Fat} (hr : OkT w g) : ∀ x, g.ka = some x → 0 < g.keep.length → x.block < w.heap.size := fun x hx h0 => by
  obtain ⟨b, off, e, hc⟩ := hr.rd 0 h0
  rw [hx] at e
  cases e
  exact World.block_lt_of_cell? w _ hc
theorem Two.fatC (h : Two w wr p q O U sc sr) {g : Fat} (hr : OkT w g) : ∀ x, g.ka = some x → 0 < g.keep.length → ¬ O x.block := fun x hx h0 q => absurd (fat_lt hr x hx h0) (Nat.not_lt.2 (h.loO _ q))
theorem Two.fatR (h : Two w wr p q O U sc sr) {g : Fat} (hr : OkT w g) : ∀ x, g.ka = some x → 0 < g.keep.length → ¬ U x.block := fun x hx h0 q => absurd (fat_lt hr x hx h0) (Nat.not_lt.2 (h.loU _ q))
end
theorem Two.cells {w wr : World} {p q : Nat} {O U : Nat → Prop} {sc st : Sd} (h : Two w wr p q O U sc st) : ∃ sa scap ca ccap, wr.cell? ⟨q, 0, none⟩ = some (.slice sa st.S.length scap) ∧ wr.cell? ⟨q, 1, none⟩ = some (.slice ca st.C.length ccap) ∧ wr.cell? ⟨q, 4, none⟩ = some (.bool st.dead) ∧ q < wr.heap.size := by
  obtain ⟨vS, vC, vB, rv, cv, h⟩ := h.r
  obtain ⟨sa, scap, e1, _⟩ := h.sS.form
  obtain ⟨ca, ccap, e2, _⟩ := h.sC.form
  have c0 := h.ob.cell 0
  have c1 := h.ob.cell 1
  have c4 := h.ob.cell 4
  rw [e1, e2] at c0 c1 c4
  exact ⟨sa, scap, ca, ccap, c0, c1, c4, h.ob.lt⟩
theorem armed_C (st : Sd) (n : Int) : (st.armed n).C = st.C := rfl
theorem faulted_C (st : Sd) (a : Int) (on : Bool) : (st.faulted a on).C = st.C := by unfold Sd.faulted; split <;> rfl
attribute [local go_sem ↓] Go.wp_at_zero Go.wp_at_succ

set_option maxRecDepth 100000 in
set_option maxHeartbeats 16000000 in
theorem doesLaw (n : Int) (a : Option Addr) (cap : Nat) (l : List Dd) (w : World) (hr : RdD w a l) (hl : l.length ≤ maxLen) (hn0 : -9223372036854775808 ≤ n) (hn1 : n ≤ 9223372036854775807) :
    Calls Try.prog 3 #[.int .i64 n, .slice a l.length cap] w fun e w' => e = .returned (.bool true) ∧ Below w.heap.size w w' := by
  have HR := hide hr
  unfold maxLen at hl
  clear hr
  by_cases hfew : fewD l = true
  · have hll : l.length ≤ 40 := by simp [fewD] at hfew; exact hfew.2
    by_cases hn : 50 < n
    · go_enter Try.func3, Try.ntmps3
      go_wp2_with fail
      refine (awake_any w).mono ?_
      rintro e w1 ⟨rfl, B1⟩
      go_wp2_with fail
      refine (fewD_any a cap l w1 (HR.out.below B1) (by unfold maxLen; omega)).mono ?_
      rintro e w2 ⟨rfl, b2⟩
      rw [hfew]
      have HB2 := hide (B1.trans (b2.mono B1.size))
      clear B1 b2
      go_wp2
      go_ret
      exact ⟨rfl, HB2.out⟩
    · go_enter Try.func3, Try.ntmps3
      go_wp2_with fail
      refine (awake_any w).mono ?_
      rintro e w1 ⟨rfl, B1⟩
      go_wp2_with fail
      refine (fewD_any a cap l w1 (HR.out.below B1) (by unfold maxLen; omega)).mono ?_
      rintro e w2 ⟨rfl, b2⟩
      rw [hfew]
      have HB2 := hide (B1.trans (b2.mono B1.size))
      clear B1 b2
      go_wp2_with fail
      refine (cnew_any n w2).mono ?_
      rintro e w3 ⟨p, rfl, D3, b3⟩
      have HB3 := hide (HB2.out.trans (b3.mono HB2.out.size))
      have HD3 := hide D3
      have z2 := HB2.out.size
      have z3 := b3.size
      clear D3 b3
      go_wp2_with fail
      refine (rnew_any n w3 hn0 hn1).mono ?_
      rintro e w4 ⟨rfl, R4, b4⟩
      have T4 : Two w w4 p w3.heap.size (Fresh w2 w3) (Fresh w3 w4) (newSd n) (newSd n) := ⟨HD3.out.onl (F := fun _ => False) (Onl.ofBelow b4) (fun _ _ q => q), rdev_fresh R4, HB3.out.trans (b4.mono HB3.out.size), fun i hi => by have := hi.1; omega, fun i hi => by have := hi.1; omega, fun i hi => by have := hi.2; have := b4.size; omega, fun i hi => hi.2, fun i hu hi => absurd hi.2 (Nat.not_lt.2 hu.1)⟩
      generalize Fresh w2 w3 = O4 at T4
      generalize Fresh w3 w4 = U4 at T4
      generalize hq4 : w3.heap.size = q4 at T4
      have hC4 : (newSd n).C.length = 0 := rfl
      generalize newSd n = st4 at T4 hC4
      have HT4 := hide T4
      clear T4 R4 b4 HB3 HD3 HB2 z2 z3 hq4
      go_wp2
      go_loopw [5, 6, 35] (fun v5 v6 i wr => ∃ (k p q : Nat) (O U : Nat → Prop) (st : Sd), k ≤ l.length ∧ v5 = .pointer (some ⟨p, 0, none⟩) ∧ v6 = .pointer (some ⟨q, 0, none⟩) ∧ i = .int .i64 k ∧ st.C.length ≤ k ∧ Hid (Two w wr p q O U st st)) (fun _ _ i _ => l.length - (intOf i).toNat)
      case atStart => exact ⟨0, p, q4, O4, U4, st4, Nat.zero_le _, rfl, rfl, rfl, by omega, HT4⟩
      case round =>
        obtain ⟨k, p, q, O, U, st, hk', rfl, rfl, rfl, hCl, hTw⟩ := hrel
        by_cases hlt : k < l.length
        · obtain ⟨d, hd⟩ : ∃ d, l[k]? = some d := ⟨_, List.getElem?_eq_getElem hlt⟩
          obtain ⟨b', off', ha', q0, q1, q2, q3, q4, q5, q6, okd⟩ := HR.out.below hTw.out.bel k d hd
          subst ha'
          have okd0 : OkD w d := by
            obtain ⟨_, _, _, _, _, _, _, _, _, _, ok⟩ := HR.out k d hd
            exact ok
          have hdl := okd.len
          have hdk := okd.fat.len
          have hdn := okd.n1
          have T5 : Two w (wr.alloc (.cells #[.int .i64 d.k, .int .i64 d.at', .slice d.ba d.b.length d.bc, .int .i64 d.n, .slice d.f.ka d.f.keep.length d.f.kc, .int .i64 d.f.torn, .int .i64 d.f.bytes] 34)) p q O U st st := hTw.out.below ((Below.refl _ wr).alloc (Nat.le_refl _) _)
          have k5 := Ob.new wr [.int .i64 d.k, .int .i64 d.at', .slice d.ba d.b.length d.bc, .int .i64 d.n, .slice d.f.ka d.f.keep.length d.f.kc, .int .i64 d.f.torn, .int .i64 d.f.bytes] 34
          have z5 : (wr.alloc (.cells #[.int .i64 d.k, .int .i64 d.at', .slice d.ba d.b.length d.bc, .int .i64 d.n, .slice d.f.ka d.f.keep.length d.f.kc, .int .i64 d.f.torn, .int .i64 d.f.bytes] 34)).heap.size = wr.heap.size + 1 := by simp
          have hap5 : ∀ i, O i ∨ U i → i < wr.heap.size := fun i hi => hi.elim (hTw.out.hiO i) (hTw.out.hiU i)
          generalize hW5 : wr.alloc (.cells #[.int .i64 d.k, .int .i64 d.at', .slice d.ba d.b.length d.bc, .int .i64 d.n, .slice d.f.ka d.f.keep.length d.f.kc, .int .i64 d.f.torn, .int .i64 d.f.bytes] 34) = W5 at T5 z5
          have k5' : Ob W5 wr.heap.size 34 [.int .i64 d.k, .int .i64 d.at', .slice d.ba d.b.length d.bc, .int .i64 d.n, .slice d.f.ka d.f.keep.length d.f.kc, .int .i64 d.f.torn, .int .i64 d.f.bytes] := by rw [← hW5]; exact k5
          have HT5 := hide T5
          have HK5 := hide k5'
          have HAP := hide hap5
          have HOK := hide okd0
          have HQ := hide hd
          have x0 := k5'.cell 0
          have x1 := k5'.cell 1
          have x2 := k5'.cell 2
          have x3 := k5'.cell 3
          have x4 := k5'.cell 4
          have x5 := k5'.cell 5
          have x6 := k5'.cell 6
          simp only [List.getElem?_cons_zero, List.getElem?_cons_succ] at x0 x1 x2 x3 x4 x5 x6
          clear T5 okd okd0 hd k5 k5' hap5
          by_cases hk3 : d.k = 3
          · have H0 := hide hk3
            rw [hk3] at x0
            clear hk3
            go_wp2_with fail
            refine (carm_any HT5.out.c d.n hdn).mono ?_
            rintro e w6 ⟨rfl, D6, o6⟩
            have T6 := HT5.out.turnC0 o6 D6
            have k6 := HK5.out.onl o6 (fun q => absurd (HAP.out _ (.inl q)) (Nat.lt_irrefl _))
            have x3' := k6.cell 3
            simp only [List.getElem?_cons_zero, List.getElem?_cons_succ] at x3'
            have HT6 := hide T6
            clear D6 o6 T6 k6
            go_wp2_with fail
            refine (rarm_any HT6.out.r d.n hdn).mono ?_
            rintro e w7 ⟨rfl, D7, o7⟩
            have T7 := HT6.out.turnR0 o7 D7
            have hC7 := armed_C st d.n
            generalize st.armed d.n = st7 at T7 hC7
            have hCl7 : st7.C.length ≤ k + 1 := by rw [hC7]; omega
            have HT7 := hide T7
            clear D7 o7 T7 hC7 HT6 HT5 HK5
            obtain ⟨sa, scap, ca, ccap, y0, y1, y4, yq⟩ := HT7.out.cells
            have ysz := HT7.out.r.ok.size
            go_wp2
            go_quiet (first
              | (go_at_call 25; exact (cdead_any (HT7.out.drewN _).c).mono (fun _ _ h => ⟨h.1, _, h.2.symm⟩))
              | (go_at_call 26; exact (ccached_any (HT7.out.drewN _).c).mono (fun _ _ h => ⟨h.1, _, h.2.symm⟩))
              | (go_at_call 27; exact (csize_any (HT7.out.drewN _).c).mono (fun _ _ h => ⟨h.1, _, h.2.symm⟩)))
            go_wp2
            go_roundw
            case rel => exact ⟨k + 1, _, _, _, _, _, hlt, rfl, rfl, rfl, hCl7, HT7.out.drewN _⟩
            case measure => simp [intOf]; omega
          · by_cases hk2 : d.k = 2
            · have H0 := hide hk2
              rw [hk2] at x0
              clear hk2
              go_wp2_with fail
              refine (cflush_any HT5.out.c (by omega)).mono ?_
              rintro e w6 ⟨rfl, D6, o6⟩
              have HT6 := hide (HT5.out.turnC0 o6 D6)
              clear D6 o6
              go_wp2_with fail
              refine (rflush_any HT6.out.r (by omega)).mono ?_
              rintro e w7 ⟨rfl, D7, o7⟩
              have T7 := HT6.out.turnR0 o7 D7
              have hC7 := flushed_C st
              generalize st.flushed.2 = st7 at T7 hC7
              generalize st.flushed.1 = z7
              have hCl7 : st7.C.length ≤ k + 1 := by omega
              have HT7 := hide T7
              clear D7 o7 T7 hC7 HT6 HT5 HK5
              obtain ⟨sa, scap, ca, ccap, y0, y1, y4, yq⟩ := HT7.out.cells
              have ysz := HT7.out.r.ok.size
              go_wp2
              go_quiet (first
                | (go_at_call 25; exact (cdead_any (HT7.out.drewN _).c).mono (fun _ _ h => ⟨h.1, _, h.2.symm⟩))
                | (go_at_call 26; exact (ccached_any (HT7.out.drewN _).c).mono (fun _ _ h => ⟨h.1, _, h.2.symm⟩))
                | (go_at_call 27; exact (csize_any (HT7.out.drewN _).c).mono (fun _ _ h => ⟨h.1, _, h.2.symm⟩)))
              go_wp2
              go_roundw
              case rel => exact ⟨k + 1, _, _, _, _, _, hlt, rfl, rfl, rfl, hCl7, HT7.out.drewN _⟩
              case measure => simp [intOf]; omega
            · by_cases hk4 : d.k = 4
              · have H0 := hide hk4
                rw [hk4] at x0
                clear hk4
                go_wp2_with fail
                refine (ccrash_any HT5.out.c HT5.out.hiO (by omega) d.f (HOK.out.fat.below HT5.out.bel) (HT5.out.fatC HOK.out.fat)).mono ?_
                rintro e w6 ⟨rfl, D6, o6⟩
                have T6 := HT5.out.turnC0 o6 D6
                have k6 := HK5.out.onl o6 (fun q => absurd (HAP.out _ (.inl q)) (Nat.lt_irrefl _))
                have x4' := k6.cell 4
                have x5' := k6.cell 5
                have x6' := k6.cell 6
                simp only [List.getElem?_cons_zero, List.getElem?_cons_succ] at x4' x5' x6'
                have HT6 := hide T6
                clear D6 o6 T6 k6
                go_wp2_with fail
                refine (rcrash_any HT6.out.r HT6.out.hiU (by omega) d.f (HOK.out.fat.below HT6.out.bel) (HT6.out.fatR HOK.out.fat)).mono ?_
                rintro e w7 ⟨rfl, D7, o7⟩
                have T7 := HT6.out.turnR o7 D7
                have hC7 : (st.crashed d.f).C = [] := rfl
                generalize st.crashed d.f = st7 at T7 hC7
                have hCl7 : st7.C.length ≤ k + 1 := by rw [hC7]; simp
                have HT7 := hide T7
                clear D7 o7 T7 hC7 HT6 HT5 HK5
                obtain ⟨sa, scap, ca, ccap, y0, y1, y4, yq⟩ := HT7.out.cells
                have ysz := HT7.out.r.ok.size
                go_wp2
                go_quiet (first
                  | (go_at_call 25; exact (cdead_any (HT7.out.drewN _).c).mono (fun _ _ h => ⟨h.1, _, h.2.symm⟩))
                  | (go_at_call 26; exact (ccached_any (HT7.out.drewN _).c).mono (fun _ _ h => ⟨h.1, _, h.2.symm⟩))
                  | (go_at_call 27; exact (csize_any (HT7.out.drewN _).c).mono (fun _ _ h => ⟨h.1, _, h.2.symm⟩)))
                go_wp2
                go_roundw
                case rel => exact ⟨k + 1, _, _, _, _, _, hlt, rfl, rfl, rfl, hCl7, HT7.out.drewN _⟩
                case measure => simp [intOf]; omega
              · by_cases hk5 : d.k = 5
                · have H0 := hide hk5
                  rw [hk5] at x0
                  clear hk5
                  go_wp2_with fail
                  refine (cfault_any HT5.out.c d.at' _).mono ?_
                  rintro e w6 ⟨rfl, D6, o6⟩
                  have T6 := HT5.out.turnC0 o6 D6
                  have k6 := HK5.out.onl o6 (fun q => absurd (HAP.out _ (.inl q)) (Nat.lt_irrefl _))
                  have x1' := k6.cell 1
                  have x3' := k6.cell 3
                  simp only [List.getElem?_cons_zero, List.getElem?_cons_succ] at x1' x3'
                  have HT6 := hide T6
                  clear D6 o6 T6 k6
                  go_wp2_with fail
                  refine (rfault_any HT6.out.r d.at' _).mono ?_
                  rintro e w7 ⟨rfl, D7, o7⟩
                  have T7 := HT6.out.turnR0 o7 D7
                  have hC7 := faulted_C st d.at' (d.n != 0)
                  generalize st.faulted d.at' (d.n != 0) = st7 at T7 hC7
                  have hCl7 : st7.C.length ≤ k + 1 := by rw [hC7]; omega
                  have HT7 := hide T7
                  clear D7 o7 T7 hC7 HT6 HT5 HK5
                  obtain ⟨sa, scap, ca, ccap, y0, y1, y4, yq⟩ := HT7.out.cells
                  have ysz := HT7.out.r.ok.size
                  go_wp2
                  go_quiet (first
                    | (go_at_call 25; exact (cdead_any (HT7.out.drewN _).c).mono (fun _ _ h => ⟨h.1, _, h.2.symm⟩))
                    | (go_at_call 26; exact (ccached_any (HT7.out.drewN _).c).mono (fun _ _ h => ⟨h.1, _, h.2.symm⟩))
                    | (go_at_call 27; exact (csize_any (HT7.out.drewN _).c).mono (fun _ _ h => ⟨h.1, _, h.2.symm⟩)))
                  go_wp2
                  go_roundw
                  case rel => exact ⟨k + 1, _, _, _, _, _, hlt, rfl, rfl, rfl, hCl7, HT7.out.drewN _⟩
                  case measure => simp [intOf]; omega
                · by_cases hk6 : d.k = 6
                  · have H0 := hide hk6
                    rw [hk6] at x0
                    clear hk6
                    go_wp2_with fail
                    refine (ccopy_any HT5.out.c (by omega)).mono ?_
                    rintro e w6 ⟨p6, rfl, D6, b6⟩
                    have HT6 := hide (HT5.out.copyC b6 D6)
                    clear D6 b6
                    go_wp2_with fail
                    refine (rcopy_any HT6.out.r (by omega)).mono ?_
                    rintro e w7 ⟨q7, rfl, _, D7, b7⟩
                    have HT7 := hide (HT6.out.copyR b7 D7)
                    have hCl7 : st.C.length ≤ k + 1 := by omega
                    clear D7 b7 HT6 HT5 HK5
                    obtain ⟨sa, scap, ca, ccap, y0, y1, y4, yq⟩ := HT7.out.cells
                    have ysz := HT7.out.r.ok.size
                    go_wp2
                    go_quiet (first
                      | (go_at_call 25; exact (cdead_any (HT7.out.drewN _).c).mono (fun _ _ h => ⟨h.1, _, h.2.symm⟩))
                      | (go_at_call 26; exact (ccached_any (HT7.out.drewN _).c).mono (fun _ _ h => ⟨h.1, _, h.2.symm⟩))
                      | (go_at_call 27; exact (csize_any (HT7.out.drewN _).c).mono (fun _ _ h => ⟨h.1, _, h.2.symm⟩)))
                    go_wp2
                    go_roundw
                    case rel => exact ⟨k + 1, _, _, _, _, _, hlt, rfl, rfl, rfl, hCl7, HT7.out.drewN _⟩
                    case measure => simp [intOf]; omega
                  · by_cases hk1 : d.k = 1
                    · have H0 := hide hk1
                      rw [hk1] at x0
                      clear hk1
                      go_wp2_with fail
                      refine (cread_any HT5.out.c (by omega) d.at').mono ?_
                      rintro e w6 ⟨v1, rfl, T1, b6⟩
                      have HT6 := hide (HT5.out.below b6)
                      have k6 := HK5.out.old b6
                      have x1' := k6.cell 1
                      simp only [List.getElem?_cons_zero, List.getElem?_cons_succ] at x1'
                      have cv1 := conv_own T1
                      obtain ⟨va1, vc1, rfl⟩ : ∃ a' c', v1 = .slice a' (st.told d.at').1.length c' := by
                        rcases T1.2 with ⟨h, hz⟩ | ⟨g, c, cur, h, _⟩
                        · exact ⟨none, 0, by rw [hz]; exact h⟩
                        · exact ⟨_, c, h⟩
                      clear T1 b6 k6
                      go_wp2_with fail
                      refine (rread_any HT6.out.r (by omega) d.at').mono ?_
                      rintro e w7 ⟨v2, rfl, T2, b7⟩
                      have HT7 := hide (HT6.out.below b7)
                      have cv2 := conv_own T2
                      obtain ⟨va2, vc2, rfl⟩ : ∃ a' c', v2 = .slice a' (st.told d.at').1.length c' := by
                        rcases T2.2 with ⟨h, hz⟩ | ⟨g, c, cur, h, _⟩
                        · exact ⟨none, 0, by rw [hz]; exact h⟩
                        · exact ⟨_, c, h⟩
                      have d1 := cv1 w7 b7
                      have d2 := cv2 w7 (Below.refl _ _)
                      generalize (st.told d.at').2 = z7
                      generalize (st.told d.at').1 = r7 at d1 d2
                      have hCl7 : st.C.length ≤ k + 1 := by omega
                      clear T2 b7 cv1 cv2 HT6 HT5 HK5
                      obtain ⟨sa, scap, ca, ccap, y0, y1, y4, yq⟩ := HT7.out.cells
                      have ysz := HT7.out.r.ok.size
                      go_wp2
                      go_quiet (first
                        | (go_at_call 25; exact (cdead_any (HT7.out.drewN _).c).mono (fun _ _ h => ⟨h.1, _, h.2.symm⟩))
                        | (go_at_call 26; exact (ccached_any (HT7.out.drewN _).c).mono (fun _ _ h => ⟨h.1, _, h.2.symm⟩))
                        | (go_at_call 27; exact (csize_any (HT7.out.drewN _).c).mono (fun _ _ h => ⟨h.1, _, h.2.symm⟩)))
                      go_wp2
                      go_roundw
                      case rel => exact ⟨k + 1, _, _, _, _, _, hlt, rfl, rfl, rfl, hCl7, HT7.out.drewN _⟩
                      case measure => simp [intOf]; omega
                    · by_cases hk0 : d.k = 0
                      · have H0 := hide hk0
                        rw [hk0] at x0
                        clear hk0
                        have HT5d := hide HT5.out.drew
                        have hRd := hide HOK.out.rd
                        go_wp2
                        go_region_held3 (fun W' => W'.cell? ⟨wr.heap.size, 1, none⟩ = some (.int .i64 d.at') ∧ W'.cell? ⟨wr.heap.size, 2, none⟩ = some (.slice d.ba d.b.length d.bc)) (go_keep) (first
                          | (go_at_call 11; refine (cwrite_any HS1.out.c (by omega) d.at' d.ba d.bc d.b (hRd.out.below HS1.out.bel) (HS1.out.bytC hRd.out) HOK.out.byt).mono ?_; rintro e w7 ⟨rfl, D7, o7⟩; have HT7 := hide (HS1.out.turnC o7 D7); have k7 := Ob.onl (w' := w7) HK6.out o7 (fun q => absurd (HAP.out _ (.inl q)) (Nat.lt_irrefl _)); have x1'' := k7.cell 1; have x2'' := k7.cell 2; simp only [List.getElem?_cons_zero, List.getElem?_cons_succ] at x1'' x2''; clear D7 o7 k7)
                          | (go_at_call 12; refine (rwrite_any HT6.out.r (by omega) d.at' d.ba d.bc d.b (hRd.out.below HT6.out.bel) HOK.out.nil (HT6.out.bytR hRd.out) HOK.out.byt).mono ?_; rintro e w7 ⟨rfl, D7, o7⟩; have HT7 := hide (HT6.out.turnR o7 D7); have k7 := Ob.onl (w' := w7) HK6.out o7 (fun q => absurd (HAP.out _ (.inr q)) (Nat.lt_irrefl _)); have x1'' := k7.cell 1; have x2'' := k7.cell 2; simp only [List.getElem?_cons_zero, List.getElem?_cons_succ] at x1'' x2''; clear D7 o7 k7)
                          | (go_at_call 11; refine (cwrite_any HT5d.out.c (by omega) d.at' d.ba d.bc d.b (hRd.out.below HT5d.out.bel) (HT5d.out.bytC hRd.out) HOK.out.byt).mono ?_; rintro e w6 ⟨rfl, D6, o6⟩; have HT6 := hide (HT5d.out.turnC o6 D6); have k6 := Ob.onl (w' := w6) HK5.out ((Onl.refl O W5).drew.trans o6) (fun q => absurd (HAP.out _ (.inl q)) (Nat.lt_irrefl _)); have x1' := k6.cell 1; have x2' := k6.cell 2; simp only [List.getElem?_cons_zero, List.getElem?_cons_succ] at x1' x2'; have HK6 := hide k6; clear D6 o6 k6)
                          | (go_at_call 12; refine (rwrite_any HT5d.out.r (by omega) d.at' d.ba d.bc d.b (hRd.out.below HT5d.out.bel) HOK.out.nil (HT5d.out.bytR hRd.out) HOK.out.byt).mono ?_; rintro e w6 ⟨rfl, D6, o6⟩; have HS1 := hide (HT5d.out.turnR o6 D6); have k6 := Ob.onl (w' := w6) HK5.out ((Onl.refl U W5).drew.trans o6) (fun q => absurd (HAP.out _ (.inr q)) (Nat.lt_irrefl _)); have x1' := k6.cell 1; have x2' := k6.cell 2; simp only [List.getElem?_cons_zero, List.getElem?_cons_succ] at x1' x2'; have HK6 := hide k6; clear D6 o6 k6))
                        all_goals (
                          have hC7 := wrote_C st d.at' d.b
                          have hT7 := HT7.out
                          generalize (st.wrote d.at' d.b).2 = st7 at hT7 hC7
                          generalize (st.wrote d.at' d.b).1 = z7
                          have hCl7 : st7.C.length ≤ k + 1 := by omega
                          have HT8 := hide hT7
                          clear hT7 HT7 hC7
                          obtain ⟨sa, scap, ca, ccap, y0, y1, y4, yq⟩ := HT8.out.cells
                          have ysz := HT8.out.r.ok.size
                          go_wp2
                          go_quiet (first
                            | (go_at_call 25; exact (cdead_any (HT8.out.drewN _).c).mono (fun _ _ h => ⟨h.1, _, h.2.symm⟩))
                            | (go_at_call 26; exact (ccached_any (HT8.out.drewN _).c).mono (fun _ _ h => ⟨h.1, _, h.2.symm⟩))
                            | (go_at_call 27; exact (csize_any (HT8.out.drewN _).c).mono (fun _ _ h => ⟨h.1, _, h.2.symm⟩)))
                          go_wp2
                          go_roundw
                          case rel => exact ⟨k + 1, _, _, _, _, _, hlt, rfl, rfl, rfl, hCl7, HT8.out.drewN _⟩
                          case measure => simp [intOf]; omega
                          )
                      · have e0 : (d.k == 0) = false := by simpa using hk0
                        have e1 : (d.k == 1) = false := by simpa using hk1
                        have e2 : (d.k == 2) = false := by simpa using hk2
                        have e3 : (d.k == 3) = false := by simpa using hk3
                        have e4 : (d.k == 4) = false := by simpa using hk4
                        have e5 : (d.k == 5) = false := by simpa using hk5
                        have e6 : (d.k == 6) = false := by simpa using hk6
                        have hCl7 : st.C.length ≤ k + 1 := by omega
                        clear hk0 hk1 hk2 hk3 hk4 hk5 hk6
                        obtain ⟨sa, scap, ca, ccap, y0, y1, y4, yq⟩ := HT5.out.cells
                        have ysz := HT5.out.r.ok.size
                        go_wp2
                        go_quiet (first
                          | (go_at_call 25; exact (cdead_any (HT5.out.drewN _).c).mono (fun _ _ h => ⟨h.1, _, h.2.symm⟩))
                          | (go_at_call 26; exact (ccached_any (HT5.out.drewN _).c).mono (fun _ _ h => ⟨h.1, _, h.2.symm⟩))
                          | (go_at_call 27; exact (csize_any (HT5.out.drewN _).c).mono (fun _ _ h => ⟨h.1, _, h.2.symm⟩)))
                        go_wp2
                        go_roundw
                        case rel => exact ⟨k + 1, _, _, _, _, _, hlt, rfl, rfl, rfl, hCl7, HT5.out.drewN _⟩
                        case measure => simp [intOf]; omega
        · obtain ⟨sa, scap, ca, ccap, y0, y1, y4, yq⟩ := hTw.out.cells
          have ysz := hTw.out.r.ok.size
          have hC40 : st.C.length ≤ 40 := by omega
          clear y1 y4
          go_wp2
          go_loopw [164] (fun i wx => ∃ m : Nat, m ≤ st.S.length ∧ i = .int .i64 m ∧ Hid (Two w wx p q O U st st)) (fun i _ => st.S.length - (intOf i).toNat)
          case atStart => exact ⟨0, Nat.zero_le _, rfl, hTw⟩
          case round =>
            obtain ⟨m, hm, rfl, hTx⟩ := hrel
            by_cases hltm : m < st.S.length
            · go_wp2_with fail
              refine (cread_any hTx.out.c (by omega) m).mono ?_
              rintro e w6 ⟨v1, rfl, T1, b6⟩
              have HT6 := hide (hTx.out.below b6)
              have cv1 := conv_own T1
              obtain ⟨va1, vc1, rfl⟩ : ∃ a' c', v1 = .slice a' (st.told m).1.length c' := by
                rcases T1.2 with ⟨h, hz⟩ | ⟨g, c, cur, h, _⟩
                · exact ⟨none, 0, by rw [hz]; exact h⟩
                · exact ⟨_, c, h⟩
              clear T1 b6
              go_wp2_with fail
              refine (rread_any HT6.out.r (by omega) m).mono ?_
              rintro e w7 ⟨v2, rfl, T2, b7⟩
              have HT7 := hide (HT6.out.below b7)
              have cv2 := conv_own T2
              obtain ⟨va2, vc2, rfl⟩ : ∃ a' c', v2 = .slice a' (st.told m).1.length c' := by
                rcases T2.2 with ⟨h, hz⟩ | ⟨g, c, cur, h, _⟩
                · exact ⟨none, 0, by rw [hz]; exact h⟩
                · exact ⟨_, c, h⟩
              have d1 := cv1 w7 b7
              have d2 := cv2 w7 (Below.refl _ _)
              generalize (st.told m).2 = z7
              generalize (st.told m).1 = r7 at d1 d2
              clear T2 b7 cv1 cv2 HT6
              go_wp2
              go_roundw
              case rel => exact ⟨m + 1, hltm, rfl, HT7⟩
              case measure => simp [intOf]; omega
            · go_wp2
              go_ret
              exact ⟨rfl, hTx.out.bel⟩
  · have hfew' : fewD l = false := by simpa using hfew
    go_enter Try.func3, Try.ntmps3
    go_wp2_with fail
    refine (awake_any w).mono ?_
    rintro e w1 ⟨rfl, B1⟩
    go_wp2_with fail
    refine (fewD_any a cap l w1 (HR.out.below B1) (by unfold maxLen; omega)).mono ?_
    rintro e w2 ⟨rfl, b2⟩
    rw [hfew']
    have HB2 := hide (B1.trans (b2.mono B1.size))
    clear B1 b2
    go_wp2
    go_ret
    exact ⟨rfl, HB2.out⟩
end Go.Proofs.Ytgkgbemliinajaa
