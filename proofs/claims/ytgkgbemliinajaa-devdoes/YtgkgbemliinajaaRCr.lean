/- What the document's Crash of a device does, over the translation. -/
import Derived.Test.YtgkgbemliinajaaRWr
namespace Go.Proofs.Ytgkgbemliinajaa
open Go.RowKit Apo
attribute [local go_sem ↓] Apo.app_exec

theorem _root_.Apo.RdB.onl {O : Nat → Prop} {w w' : World} {a : Option Addr} {l : List Bool} (h : RdB w a l) (ho : Onl O w w') (hr : ∀ x, a = some x → 0 < l.length → ¬ O x.block) : RdB w' a l := by
  intro i hi
  obtain ⟨b, off, ha, hc⟩ := h i hi
  exact ⟨b, off, ha, (World.cell?_of_block (ho.block b (World.block_lt_of_cell? w _ hc) (hr ⟨b, off, none⟩ ha (by omega)))).trans hc⟩

/-- the two appends of a torn write: its first bytes, the others as they were -/
theorem torn_app {O : Nat → Prop} {W : World} {gv vcap gu ucap : Nat} {b r0 : List Int} (hb : Byt O 5 W (.slice (some ⟨gv, 0, none⟩) 32 vcap) b) (hr : Byt O 5 W (.slice (some ⟨gu, 0, none⟩) 32 ucap) r0) {n : Nat} (hn : n ≤ 32) :
    ∃ v1 w2 g3 cap3 w3, (Builtin.append_ #[29, 29] 29 #[.slice none 0 0, .slice (some ⟨gv, 0, none⟩) n vcap]).run Try.prog W.drew = .ok v1 w2 ∧
      (Builtin.append_ #[29, 29] 29 #[v1, .slice (if ucap = n then some ⟨gu, 0, none⟩ else some ⟨gu, n, none⟩) (32 - n) (ucap - n)]).run Try.prog w2 = .ok (.slice (some ⟨g3, 0, none⟩) 32 cap3) w3 ∧ Onl (fun _ => False) W w2 ∧ Onl (fun _ => False) W w3 ∧
      w3.ownsRow W.heap.size 5 1 (.slice (some ⟨g3, 0, none⟩) 32 cap3) 32 ((b.take n ++ r0.drop n).map (Value.int .u8)) := by
  obtain ⟨i0, hi, hz0, hz1, hz2⟩ := info_parts info_u8
  have lb : b.length = 32 := by have := hb.len; simpa using this
  have lr : r0.length = 32 := by have := hr.len; simpa using this
  have rb := Rd.take (Rd.own hb.1).1 n
  have lt : (b.take n).length = n := by simp; omega
  have ld : (r0.drop n).length = 32 - n := by simp; omega
  obtain ⟨v1, w2, R1, r1, g1⟩ := run_append_rd (P := Try.prog) (w := W.drew) W.heap.size 29 29 5 i0 (.int .u8 0) 1 Try.underlying29 hi hz0 hz1 hz2 rfl .u8 (.slice none 0 0) [] (World.ownsRow_nil _ _ _ _) (some ⟨gv, 0, none⟩) vcap (b.take n) rb (by simp) (by rw [lt]; unfold maxLen; simp; omega) (by rw [lt]; simp; omega) (Nat.le_refl _)
  rw [lt] at R1
  rw [List.nil_append] at r1
  have o12 : Onl (fun _ => False) W w2 := ((Onl.refl _ W).drew).grown g1 (by simp [Value.ownBlock])
  have rr := rd_drop (at' := n) (Rd.own hr.1).1
  rw [Nat.zero_add] at rr
  obtain ⟨_, _, e32, _, _, hu1, _, _, _⟩ := hr.shape (by decide)
  cases e32
  have rr2 : Rd .u8 w2 (if ucap = n then some ⟨gu, 0, none⟩ else some ⟨gu, n, none⟩) (r0.drop n) := by
    split
    · have : r0.drop n = [] := List.drop_of_length_le (by omega)
      rw [this]
      exact Rd.nil _ _ _
    · exact rr.onl o12 (fun _ _ _ q => q)
  have hnn : (if ucap = n then (some ⟨gu, 0, none⟩ : Option Addr) else some ⟨gu, n, none⟩) = none → ucap - n = 0 := by split <;> simp
  obtain ⟨v2, w3, R2, r2, g2⟩ := run_append_rd (P := Try.prog) (w := w2) W.heap.size 29 29 5 i0 (.int .u8 0) 1 Try.underlying29 hi hz0 hz1 hz2 rfl .u8 v1 (b.take n) r1 _ (ucap - n) (r0.drop n) rr2 hnn (by rw [lt, ld]; unfold maxLen; omega) (by rw [lt, ld]; omega) o12.size
  rw [ld] at R2
  have o23 : Onl (fun _ => False) W w3 := o12.grown g2 (fun k hk => .inr ((r1.lt k hk).1))
  have l32 : (b.take n ++ r0.drop n).length = 32 := by rw [List.length_append, lt, ld]; omega
  rw [l32] at r2
  obtain ⟨g3, cap3, rfl, _⟩ := own_shape2 r2 (by decide)
  exact ⟨v1, w2, g3, cap3, w3, R1, R2, o12, o23, r2⟩

theorem _root_.Apo.Gro.grow {O : Nat → Prop} {w a b : World} (h : a.heap.size ≤ b.heap.size) : ∀ i, Gro O w a i → Gro O w b i := fun _ hi => hi.elim (fun q => Or.inl q) (fun q => Or.inr ⟨q.1, Nat.lt_of_lt_of_le q.2 h⟩)

def crK (st : Sd) (f : Fat) (k : Nat) : Sd := ⟨crashK f.keep f.torn f.bytes st.C st.S k, st.C, st.bad, st.left, st.dead⟩
theorem crK_next {st : Sd} {f : Fat} {k : Nat} {x : Nat × List Int} (hx : st.C[k]? = some x) : crK st f (k + 1) = { crK st f k with S := crashOne f.keep f.torn f.bytes (crK st f k).S k x } := by
  unfold crK
  simp only [crashK, hx]

theorem crK_torn {st : Sd} {f : Fat} {k : Nat} {x : Nat × List Int} {r0 : List Int} (hx : st.C[k]? = some x) (ht : (k : Int) = f.torn) (hr : (crK st f k).S.getD x.1 [] = r0) : crK st f (k + 1) = { crK st f k with S := (crK st f k).S.set x.1 (x.2.take (cutOf f.bytes) ++ r0.drop (cutOf f.bytes)) } := by
  rw [crK_next hx]
  unfold crashOne
  rw [if_pos ht, hr]
theorem crK_keep {st : Sd} {f : Fat} {k : Nat} {x : Nat × List Int} (hx : st.C[k]? = some x) (ht : ¬ (k : Int) = f.torn) (hr : f.keep.getD k false = true) : crK st f (k + 1) = { crK st f k with S := (crK st f k).S.set x.1 x.2 } := by
  rw [crK_next hx]
  unfold crashOne
  rw [if_neg ht, if_pos hr]
theorem crK_skip {st : Sd} {f : Fat} {k : Nat} {x : Nat × List Int} (hx : st.C[k]? = some x) (ht : ¬ (k : Int) = f.torn) (hr : f.keep.getD k false = false) : crK st f (k + 1) = crK st f k := by
  rw [crK_next hx]
  unfold crashOne
  rw [if_neg ht, if_neg (by rw [hr]; decide)]

set_option maxHeartbeats 2000000 in
theorem rcrash_any {O : Nat → Prop} {w : World} {p : Nat} {st : Sd} (h : RDev O w p st) (hlt : ∀ i, O i → i < w.heap.size) (hc : st.C.length ≤ 1099511627776) (f : Fat) (hf : OkT w f) (hko : ∀ x, f.ka = some x → 0 < f.keep.length → ¬ O x.block) :
    Calls Try.prog 20 #[.pointer (some ⟨p, 0, none⟩), f.val] w fun e w' => e = .returned (.tuple #[]) ∧ RDev (Gro O w w') w' p (st.crashed f) ∧ Onl O w w' := by
  obtain ⟨vS, vC, vB, rv, cv, h⟩ := h
  have okc := h.ok.crashed f
  have c1 := h.ob.cell 1
  simp only [List.getElem?_cons_zero, List.getElem?_cons_succ] at c1
  have hplt := h.ob.lt
  obtain ⟨ca, ccap, hvC, hc1, hc2, hc3⟩ := h.sC.form
  subst hvC
  have H := hide h
  have HC3 := hide hc3
  have HF := hide hf
  have HK := hide hko
  have HL := hide hlt
  have HOK := hide okc
  clear h hc3 hf hko hlt okc
  unfold Fat.val Fat.cells
  go_enter Try.func20, Try.ntmps20
  go_wp2
  go_loopw [12] (fun i wr => ∃ k : Nat, k ≤ st.C.length ∧ i = .int .i64 k ∧ ∃ rv', Hid (RParts (Gro O w wr) wr p (crK st f k) vS (.slice ca st.C.length ccap) vB rv' cv) ∧ Hid (Onl O w wr) ∧ Hid (Ob wr w.heap.size 32 f.cells)) (fun i _ => st.C.length - (intOf i).toNat)
  case atStart =>
    refine ⟨0, Nat.zero_le _, rfl, rv, ?_, (Onl.refl _ _).alloc _, Ob.new w f.cells 32⟩
    exact (H.out.kept ((Onl.refl _ _).alloc _)).mono Gro.of
  case round =>
    obtain ⟨k, hk, rfl, rv', hP, hOr, hBx⟩ := hrel
    have d0 := hP.out.ob.cell 0
    have d1 := hP.out.ob.cell 1
    have f1 := hP.out.ob.frozen 1
    have f3 := hP.out.ob.frozen 3
    have f4 := hP.out.ob.frozen 4
    have d3 := hP.out.ob.cell 3
    have d4 := hP.out.ob.cell 4
    have hplt := hP.out.ob.lt
    have b0 := hBx.out.cell 0
    have b1 := hBx.out.cell 1
    have b2 := hBx.out.cell 2
    have hblt := hBx.out.lt
    simp only [List.getElem?_cons_zero, List.getElem?_cons_succ, Fat.cells] at d0 d1 d3 d4 b0 b1 b2
    by_cases hlt : k < st.C.length
    · obtain ⟨g, cap, x, v, hvC, hg, hglt, hcl, hcm, hx, q0, q1, hb, hxl, hsx⟩ := hP.out.cached (k := k) hlt
      cases hvC
      have hxl' : x.1 < (crK st f k).S.length := hxl
      obtain ⟨gs, scap, rfl, hgs, hgslt, hsl, hsm, hscell, hsfr⟩ := hP.out.sS.shape (by omega)
      have s0 := hscell x.1 (by omega)
      have fs := hsfr x.1
      have hrl : rv'.length = (crK st f k).S.length := by have := hP.out.sS.len; omega
      rw [List.getElem?_eq_getElem (by omega)] at s0
      have hu := hP.out.sR.2 x.1 _ _ (List.getElem?_eq_getElem (by omega)) (List.getElem?_eq_getElem hxl')
      generalize rv'[x.1]'(by omega) = u0 at s0 hu
      have hr0 : (crK st f k).S.getD x.1 [] = (crK st f k).S[x.1]'hxl' := by simp [List.getD, hxl']
      have hsr := hP.out.ok.secs _ (List.getElem_mem hxl')
      generalize (crK st f k).S[x.1]'hxl' = r0 at hu hr0 hsr
      have HSR := hide hsr
      have HR0 := hide hr0
      have hsz := hP.out.ok.size
      obtain ⟨gv, vcap, rfl, hgv, hgvlt, hv1, hv2, -, -⟩ := hb.shape (by decide)
      obtain ⟨gu, ucap, rfl, hgu, hgult, hu1, hu2, -, -⟩ := hu.shape (by decide)
      have hx' : st.C[k]? = some x := hx
      have HX := hide hx'
      have HB := hide hb
      have HU := hide hu
      have HS := hide hsx
      clear hx hx' hb hu hscell hsfr hsx hr0 hsr
      have hbne : w.heap.size ≠ gs := fun e => hP.out.sS.apartOb hBx.out (by decide) (by rw [e]; rfl)
      generalize hSl : (crK st f k).S.length = sl at *
      by_cases ht : (k : Int) = f.torn
      · have htb : ((k : Int) == f.torn) = true := by simpa using ht
        have e1 : crK st f (k + 1) = { crK st f k with S := (crK st f k).S.set x.1 (x.2.take (cutOf f.bytes) ++ r0.drop (cutOf f.bytes)) } := crK_torn HX.out ht HR0.out
        have hcut : cutOf f.bytes ≤ 32 := by unfold cutOf; split <;> (try split) <;> omega
        have HE := hide e1
        have oL : Onl (fun _ => False) wr (wr.alloc (.cells #[.int .i64 x.1, .slice (some ⟨gv, 0, none⟩) 32 vcap] 69)) := (Onl.refl _ _).alloc _
        obtain ⟨v1, w2, g3, cap3, w3, R1, R2, o2, o3, r3⟩ := torn_app (HB.out.onl oL (fun _ _ q => q)) (HU.out.onl oL (fun _ _ q => q)) hcut
        have hW2 := hP.out.kept (oL.trans o2)
        have hW3 := hP.out.kept (oL.trans o3)
        have p2 := hW2.ob.cell 0
        have p3 := hW3.ob.cell 0
        simp only [List.getElem?_cons_zero] at p2 p3
        have s2 : w2.cell? ⟨gs, x.1, none⟩ = some (.slice (some ⟨gu, 0, none⟩) 32 ucap) := (World.cell?_of_block ((oL.trans o2).block gs hgslt (by simp))).trans s0
        have s3 : w3.cell? ⟨gs, x.1, none⟩ = some (.slice (some ⟨gu, 0, none⟩) 32 ucap) := (World.cell?_of_block ((oL.trans o3).block gs hgslt (by simp))).trans s0
        have fs3 : w3.frozen? ⟨gs, x.1, none⟩ = false := (World.frozen?_of_block ((oL.trans o3).block gs hgslt (by simp))).trans fs
        have oln := Ob.new wr [.int .i64 x.1, .slice (some ⟨gv, 0, none⟩) 32 vcap] 69
        have l20 := (oln.onl o2 id).cell 0
        have l21 := (oln.onl o2 id).cell 1
        have l30 := (oln.onl o3 id).cell 0
        have l31 := (oln.onl o3 id).cell 1
        simp only [List.getElem?_cons_zero, List.getElem?_cons_succ] at l20 l21 l30 l31
        have HW3 := hide hW3
        have HO3 := hide o3
        have HR3 := hide r3
        have HO2 := hide o2
        clear e1 oln hW2 hW3 o2 o3 r3 ht
        have hbb := HF.out.b0
        have hbb1 := HF.out.b1
        have fin : RParts (Gro O w (w3.setCell ⟨gs, x.1, none⟩ (.slice (some ⟨g3, 0, none⟩) 32 cap3))) (w3.setCell ⟨gs, x.1, none⟩ (.slice (some ⟨g3, 0, none⟩) 32 cap3)) p (crK st f (k + 1)) (.slice (some ⟨gs, 0, none⟩) sl scap) (.slice (some ⟨g, 0, none⟩) st.C.length ccap) vB (rv'.set x.1 (.slice (some ⟨g3, 0, none⟩) 32 cap3)) cv ∧
            Onl O w (w3.setCell ⟨gs, x.1, none⟩ (.slice (some ⟨g3, 0, none⟩) 32 cap3)) ∧ Ob (w3.setCell ⟨gs, x.1, none⟩ (.slice (some ⟨g3, 0, none⟩) 32 cap3)) w.heap.size 32 f.cells := by
          subst hSl
          have sz1 := oL.size
          have sz3 := HO3.out.size
          have szw := hOr.out.size
          have hset : (w3.setCell ⟨gs, x.1, none⟩ (.slice (some ⟨g3, 0, none⟩) 32 cap3)).heap.size = w3.heap.size := by simp [World.setCell]
          have bt3 : Byt (Gro O w w3) 5 w3 (.slice (some ⟨g3, 0, none⟩) 32 cap3) (x.2.take (cutOf f.bytes) ++ r0.drop (cutOf f.bytes)) := ⟨HR3.out.mono (Nat.zero_le _), fun g hg => Gro.new (by have := (HR3.out.lt g hg).1; omega) (HR3.out.lt g hg).2⟩
          have h1 := (HW3.out.mono (Gro.grow (b := w3) (by omega))).setS x.1 bt3 (sec_mix HS.out HSR.out f.bytes)
          rw [← HE.out] at h1
          have o1 : Onl (fun i => i = gs) w3 (w3.setCell ⟨gs, x.1, none⟩ (.slice (some ⟨g3, 0, none⟩) 32 cap3)) := Onl.set (O := fun i => i = gs) (Onl.refl _ w3) (.inl rfl) _
          have oo := oL.trans HO3.out
          exact ⟨h1.mono (Gro.grow (by omega)), (hOr.out.trans (oo.mono (fun _ q => q.elim))).set (hgs.imp id (·.1)) _, (hBx.out.onl oo id).onl o1 hbne⟩
        have HFin := hide fin
        clear fin
        by_cases hb1 : f.bytes < 0
        · have ec : cutOf f.bytes = 0 := by simp [cutOf, hb1]
          rw [ec] at R1 R2
          obtain ⟨x1, x2, x3⟩ := app_runs R1
          obtain ⟨y1, y2, y3⟩ := app_runs R2
          simp only [Nat.sub_zero, ite_self] at y1 y2 y3
          clear R1 R2 ec
          go_wp2
          go_region
          all_goals go_wp2
          go_roundw
          case rel => exact ⟨k + 1, hlt, rfl, _, HFin.out.1, HFin.out.2.1, HFin.out.2.2⟩
          case measure => simp [intOf]; omega
        · by_cases hb2 : 32 < f.bytes
          · have ec : cutOf f.bytes = 32 := by simp [cutOf, hb1, hb2]
            rw [ec] at R1 R2
            obtain ⟨x1, x2, x3⟩ := app_runs R1
            obtain ⟨y1, y2, y3⟩ := app_runs R2
            simp only [Nat.sub_self] at y1 y2 y3
            clear R1 R2 ec
            go_wp2
            go_region
            all_goals go_wp2
            go_roundw
            case rel => exact ⟨k + 1, hlt, rfl, _, HFin.out.1, HFin.out.2.1, HFin.out.2.2⟩
            case measure => simp [intOf]; omega
          · have ec : cutOf f.bytes = f.bytes.toNat := by simp [cutOf, hb1, hb2]
            rw [ec] at R1 R2
            obtain ⟨x1, x2, x3⟩ := app_runs R1
            obtain ⟨y1, y2, y3⟩ := app_runs R2
            clear R1 R2 ec
            go_wp2
            go_region
            all_goals go_wp2
            go_roundw
            case rel => exact ⟨k + 1, hlt, rfl, _, HFin.out.1, HFin.out.2.1, HFin.out.2.2⟩
            case measure => simp [intOf]; omega
      · have htb : ((k : Int) == f.torn) = false := by simpa using ht
        by_cases hkl : k < f.keep.length
        · have hrd := (HF.out.rd.onl (O := fun i => O i ∨ w.heap.size ≤ i) (w' := wr) ⟨hOr.out.os, hOr.out.tape, hOr.out.output, hOr.out.size, fun i hi ho => hOr.out.block i hi (fun q => ho (.inl q))⟩ (fun x hx hl q => q.elim (HK.out x hx hl) (fun q => by
            obtain ⟨b, off, ha, hcc⟩ := HF.out.rd 0 hl
            rw [ha] at hx
            cases hx
            have := World.block_lt_of_cell? w _ hcc
            simp at q
            simp at this
            omega))) k hkl
          obtain ⟨kb, koff, hka, kc⟩ := hrd
          have hkd : f.keep.getD k false = f.keep[k] := by simp [List.getD, hkl]
          rw [hkd] at kc
          have hklt : kb < wr.heap.size := World.block_lt_of_cell? wr _ kc
          rw [hka] at b0
          have HKA := hide hka
          clear hka
          cases hkeep : f.keep[k] with
          | true =>
            rw [hkeep] at kc hkd
            have HKD := hide hkd
            clear hkd
            go_wp2
            go_region
            all_goals go_wp2
            go_roundw
            case rel =>
              subst hSl
              have h1 := hP.out.setS x.1 HB.out HS.out
              have e1 : crK st f (k + 1) = { crK st f k with S := (crK st f k).S.set x.1 x.2 } := crK_keep HX.out ht HKD.out
              rw [← e1] at h1
              have o1 : Onl (fun i => i = gs) wr (wr.setCell ⟨gs, x.1, none⟩ (.slice (some ⟨gv, 0, none⟩) 32 vcap)) := Onl.set (O := fun i => i = gs) (Onl.refl _ wr) (.inl rfl) _
              have b1' := (hBx.out.onl o1 hbne).onl (O := fun _ => False) (((Onl.refl _ _).alloc (.cells #[.int .i64 x.1, .slice (some ⟨gv, 0, none⟩) 32 vcap] 69)).drew) id
              exact ⟨k + 1, hlt, rfl, _, (h1.kept (((Onl.refl _ _).alloc _).drew)).mono (Gro.grow (by simp [World.setCell])), ((hOr.out.set (hgs.imp id (·.1)) _).alloc _).drew, b1'⟩
            case measure => simp [intOf]; omega
          | false =>
            rw [hkeep] at kc hkd
            have HKD := hide hkd
            clear hkd
            go_wp2
            go_roundw
            case rel =>
              have e1 : crK st f (k + 1) = crK st f k := crK_skip HX.out ht HKD.out
              exact ⟨k + 1, hlt, rfl, _, by show RParts _ _ _ _ _ _ _ _ _; rw [e1]; exact (hP.out.kept ((Onl.refl _ _).alloc _)).mono (Gro.grow (by simp)), hOr.out.alloc _, hBx.out.alloc _⟩
            case measure => simp [intOf]; omega
        · have hkd : f.keep.getD k false = false := by simp [List.getD, hkl]
          have HKD := hide hkd
          clear hkd
          go_wp2
          go_roundw
          case rel =>
            have e1 : crK st f (k + 1) = crK st f k := crK_skip HX.out ht HKD.out
            exact ⟨k + 1, hlt, rfl, _, by show RParts _ _ _ _ _ _ _ _ _; rw [e1]; exact (hP.out.kept ((Onl.refl _ _).alloc _)).mono (Gro.grow (by simp)), hOr.out.alloc _, hBx.out.alloc _⟩
          case measure => simp [intOf]; omega
    · go_wp2
      go_end0
      have ek : crashK f.keep f.torn f.bytes st.C st.S k = crashK f.keep f.torn f.bytes st.C st.S st.C.length := by rw [show k = st.C.length by omega]
      have h1 := hP.out.clear
      have h2 := h1.setOb (st' := ⟨crashK f.keep f.torn f.bytes st.C st.S k, [], st.bad, st.left, false⟩) 4 (.bool false) rfl rfl rfl ⟨h1.ok.secs, h1.ok.cach, h1.ok.bads, h1.ok.size, h1.ok.l0, h1.ok.l1⟩ rfl
      have h3 := h2.setOb (st' := st.crashed f) 3 (.int .i64 (-1)) (by simp only [Sd.crashed]; rw [ek]) rfl rfl HOK.out rfl
      have hp' := hP.out.own
      have oo : Onl O w (((wr.setCell ⟨p, 1, none⟩ (.slice none 0 0)).setCell ⟨p, 4, none⟩ (.bool false)).setCell ⟨p, 3, none⟩ (.int .i64 (-1))) := (((hOr.out.set (.inl H.out.own) _).set (.inl H.out.own) _).set (.inl H.out.own) _)
      exact ⟨rfl, ⟨_, _, _, _, _, h3.mono (fun i hi => hi.elim (fun q => Or.inl q) (fun q => Or.inr ⟨q.1, by simpa [World.setCell] using q.2⟩))⟩, oo⟩
end Go.Proofs.Ytgkgbemliinajaa
