/- What the program's Flush of a device does, over the translation. What the program's Crash of a device does, over the translation. -/
import Derived.Deep.RegionLaw
import Derived.Test.YtcmblfhghebjjaaGDk
import Derived.Test.YtcmblfhghebjjaaGLr
namespace Go.Proofs.Ytcmblfhghebjjaa
open Go.RowKit Apo

/-- the cached write k, as it lies in memory -/
theorem CParts.cached {O : Nat → Prop} {w : World} {p : Nat} {st : Sd} {vK vC : Value} {m : Nat} {lf : Int} (h : CParts O w p st vK vC m lf) {k : Nat} (hk : k < st.C.length) :
    ∃ g cap x, vC = .slice (some ⟨g, 0, none⟩) st.C.length cap ∧ O g ∧ g < w.heap.size ∧ st.C.length ≤ cap ∧ cap ≤ maxLen ∧ st.C[k]? = some x ∧ (∀ j, j < 33 → w.cell? ⟨g, k * 33 + j, none⟩ = (wrV x)[j]?) ∧ x.1 < st.S.length ∧ Sec x.2 := by
  obtain ⟨g, cap, rfl, hO, hlt, hnc, hcm, hcell, _⟩ := h.sC.shape (by omega)
  have e1 : st.C[k]? = some st.C[k] := List.getElem?_eq_getElem hk
  have hok := h.ok.cach st.C[k] (List.getElem_mem hk)
  have hlen : ∀ y ∈ st.C, (wrV y).length = 33 := fun y hy => by simp [wrV, secV, (h.ok.cach y hy).2.1]
  exact ⟨g, cap, _, rfl, hO, hlt, hnc, hcm, e1, fun j hj => (hcell _ (by omega)).trans (flat_at hlen e1 hj), hok.1, hok.2⟩

/-- nothing is cached any more -/
theorem CParts.clear {O : Nat → Prop} {w : World} {p : Nat} {st : Sd} {vK vC : Value} {m : Nat} {lf : Int} (h : CParts O w p st vK vC m lf) : CParts O (w.setCell ⟨p, 2, none⟩ (.slice none 0 0)) p { st with C := [] } vK (.slice none 0 0) m lf := by
  have o1 : Onl (fun k => k = p) w (w.setCell ⟨p, 2, none⟩ (.slice none 0 0)) := Onl.set (O := fun k => k = p) (Onl.refl _ w) (.inl rfl) _
  refine ⟨h.ob.set 2 _, h.own, ?_, Row.nil _ _ _ _, h.mO, h.mF.onl o1 (h.mF.ne h.ob), h.hlf, ?_⟩
  · exact h.sS.onl o1 (fun g hg q => h.sS.apartOb h.ob (by decide) (by rw [hg, q]))
  · exact ⟨h.ok.secs, by simp, h.ok.bads, h.ok.size, h.ok.l0, h.ok.l1⟩

theorem mixed_all {x : Nat × List Int} {S : List (List Int)} (hx : Sec x.2) (hS : ∀ r ∈ S, Sec r) : mixed x S 32 = x.2 := by
  have h1 : (S.getD x.1 []).length ≤ 32 := by
    simp only [List.getD]
    cases hq : S[x.1]? with
    | none => simp
    | some r => have := (hS r (List.mem_of_getElem? hq)).1; simp [this]
  unfold mixed
  rw [List.take_of_length_le (by rw [hx.1]; omega), List.drop_eq_nil_of_le h1, List.append_nil]

attribute [local go_sem ↓] ld_exec67 st_exec67 al_exec67

set_option maxHeartbeats 2000000 in
theorem cflush_any {O : Nat → Prop} {w : World} {p : Nat} {st : Sd} (h : CDev O w p st) (hc : st.C.length ≤ 1099511627776) :
    Calls Try.prog 47 #[.pointer (some ⟨p, 0, none⟩)] w fun e w' => e = .returned (.int .i64 st.flushed.1) ∧ CDev O w' p st.flushed.2 ∧ Onl O w w' := by
  have HH := hide h
  obtain ⟨vK, vC, m, lf, h⟩ := h
  have c6 := h.ob.cell 6
  simp only [List.getElem?_cons_zero, List.getElem?_cons_succ] at c6
  have H := hide h
  clear h
  by_cases hd : st.dead = true
  · have e1 : st.acts = false := by simp [Sd.acts, hd]
    have e0 : st.acted = st := by unfold Sd.acted; rw [e1]; cases st; simp at hd; simp [hd]
    have e2 : st.flushed = (40, st) := by simp [Sd.flushed, e1, e0]
    rw [e2]
    rw [hd] at c6
    clear e1 e0 e2
    go_enter Try.func47, Try.ntmps47
    go_wp2
    go_ret
    exact ⟨rfl, HH.out, Onl.refl _ _⟩
  · have hd' : st.dead = false := by simpa using hd
    rw [hd'] at c6
    by_cases ha : st.acts = true
    · have e2 : st.flushed = (0, { st.acted with S := putAll st.C st.S, C := [] }) := by simp [Sd.flushed, ha]
      rw [e2]
      clear e2
      have HD := hide hd'
      clear hd hd'
      go_enter Try.func47, Try.ntmps47
      go_wp2_with fail
      refine (cdies_any HH.out HD.out).mono ?_
      rintro e w1 ⟨rfl, hr, ho⟩
      rw [ha]
      rw [← flK_zero] at hr
      obtain ⟨vK1, vC1, m1, lf1, h⟩ := hr
      obtain ⟨ca, ccap, hvC, hc1, hc2, hc3⟩ := h.sC.form
      have c1 := h.ob.cell 2
      simp only [List.getElem?_cons_zero, List.getElem?_cons_succ] at c1
      subst hvC
      have H1 := hide h
      have HO := hide ho
      have HC := hide hc3
      clear h ho hc3
      have ec : (flK st 0).C = st.C := rfl
      rw [ec] at c1 hc1
      go_wp2
      go_loopw [20] (fun i wr => ∃ k : Nat, k ≤ st.C.length ∧ i = .int .i64 k ∧ Hid (CParts O wr p (flK st k) vK1 (.slice ca st.C.length ccap) m1 lf1) ∧ Hid (Onl O w wr)) (fun i _ => st.C.length - (intOf i).toNat)
      case atStart => exact ⟨0, Nat.zero_le _, rfl, H1.out, HO.out⟩
      case round =>
        obtain ⟨k, hk, rfl, hP, hOr⟩ := hrel
        have f1 := hP.out.ob.frozen 2
        have pc1 := hP.out.ob.cell 2
        simp only [List.getElem?_cons_zero, List.getElem?_cons_succ] at pc1
        by_cases hlt : k < st.C.length
        · obtain ⟨g, cap, x, hvC, hg, hglt, hcl, hcm, hx, hcell, hxl, hsx⟩ := hP.out.cached (k := k) hlt
          cases hvC
          have Lx : Len32 x.2 := ⟨hsx.1⟩
          obtain ⟨l1, l2⟩ := ld_wri (x := x) Lx hcell
          obtain ⟨s1, s2⟩ := st_new_wri wr (x := x) Lx
          have k1 : Ob (wr.alloc (.cells (wrA x) 81)) wr.heap.size 81 (wrV x) := Ob.new wr (wrV x) 81
          have P1 := hP.out.kept ((Onl.refl _ wr).alloc (.cells (wrA x) 81))
          have O1 := hOr.out.alloc (.cells (wrA x) 81)
          generalize hW1 : wr.alloc (.cells (wrA x) 81) = W1 at s2 k1 P1 O1
          obtain ⟨l3, l4⟩ := ld_wri_ob Lx k1
          have hmx := mixed_all (x := x) hsx P1.ok.secs
          have HK := ckeep_any P1 hxl hsx 32 (by omega)
          rw [hmx] at HK
          have hx' : st.C[k]? = some x := hx
          rw [flK_set hx'] at HK
          have HKK := hide HK
          have HX := hide hx
          have HS := hide hsx
          have HO1 := hide O1
          clear hx hx' hcell hsx k1 P1 O1 hmx HK hW1
          go_wp2_with fail
          refine HKK.out.mono ?_
          rintro e w2 ⟨rfl, hP2, hO2⟩
          have HP2 := hide hP2
          have HO2 := hide hO2
          clear hP2 hO2
          go_wp2
          go_roundw
          case rel => exact ⟨k + 1, hlt, rfl, HP2.out, HO1.out.trans HO2.out⟩
          case measure => simp [intOf]; omega
        · go_wp2
          go_ret
          have h1 := hP.out.clear
          rw [flK_end (st := st) (k := k) (by omega)] at h1
          exact ⟨rfl, ⟨_, _, _, _, h1⟩, hOr.out.set (.inl hP.out.own) _⟩
    · have ha' : st.acts = false := by simpa using ha
      have e2 : st.flushed = (40, st.acted) := by simp [Sd.flushed, ha']
      rw [e2]
      clear e2
      have HD := hide hd'
      clear hd hd'
      go_enter Try.func47, Try.ntmps47
      go_wp2_with fail
      refine (cdies_any HH.out HD.out).mono ?_
      rintro e w1 ⟨rfl, hr, ho⟩
      rw [ha']
      have HR := hide hr
      have HO := hide ho
      clear hr ho
      go_wp2
      go_ret
      exact ⟨rfl, HR.out, HO.out⟩
end Go.Proofs.Ytcmblfhghebjjaa
namespace Go.Proofs.Ytcmblfhghebjjaa
open Go.RowKit Apo

/-- how many bytes of the k-th cached write are kept -/
def suv (f : Fat) (k : Nat) : Nat := if (k : Int) = f.torn then cutOf f.bytes else if f.keep.getD k false then 32 else 0
theorem suv_le (f : Fat) (k : Nat) : suv f k ≤ 32 := by
  unfold suv cutOf
  split
  · split <;> (try split) <;> omega
  · split <;> omega
theorem betw_cut (z : Int) : betw z 32 = (cutOf z : Int) := by
  unfold betw cutOf
  split
  · rfl
  · split <;> omega

set_option maxHeartbeats 1000000 in
theorem csurv_any {w : World} (f : Fat) (hf : OkT w f) (k : Nat) :
    Calls Try.prog 38 #[.agg #[.slice f.ka f.keep.length f.kc, .int .i64 f.torn, .int .i64 f.bytes], .int .i64 k] w fun e w' => e = .returned (.int .i64 (suv f k)) ∧ Onl (fun _ => False) w w' := by
  by_cases ht : (k : Int) = f.torn
  · have e1 : suv f k = cutOf f.bytes := by simp [suv, ht]
    have e2 := betw_cut f.bytes
    rw [e1]
    have hq : ((k : Int) == f.torn) = true := by simp [ht]
    have HT := hide ht
    have HE := hide e2
    clear ht e1 e2 hf
    go_enter Try.func38, Try.ntmps38
    go_wp2_with fail
    refine (cbetween_any f.bytes 32 (by omega)).mono ?_
    rintro e w1 ⟨rfl, rfl⟩
    rw [HE.out]
    go_wp2
    go_ret
    exact ⟨rfl, (Onl.refl _ _).alloc _⟩
  · have hq : ((k : Int) == f.torn) = false := by simpa using ht
    by_cases hl : k < f.keep.length
    · obtain ⟨b, off, ha, hc⟩ := hf.rd k hl
      have hblt := World.block_lt_of_cell? w _ hc
      have hml := hf.len
      have hc' : w.cell? ⟨b, off + k, none⟩ = some (.bool (f.keep.getD k false)) := by simpa [List.getD, hl] using hc
      rw [ha]
      cases hb : f.keep.getD k false with
      | true =>
        have e1 : suv f k = 32 := by unfold suv; rw [if_neg ht, hb]; rfl
        rw [e1]
        rw [hb] at hc'
        have HA := hide ha
        have HF := hide hf
        have HT := hide ht
        clear e1 hc ha hf ht hb
        go_enter Try.func38, Try.ntmps38
        go_wp2
        go_ret
        exact ⟨rfl, (Onl.refl _ _).alloc _⟩
      | false =>
        have e1 : suv f k = 0 := by unfold suv; rw [if_neg ht, hb]; rfl
        rw [e1]
        rw [hb] at hc'
        have HA := hide ha
        have HF := hide hf
        have HT := hide ht
        clear e1 hc ha hf ht hb
        go_enter Try.func38, Try.ntmps38
        go_wp2
        go_ret
        exact ⟨rfl, (Onl.refl _ _).alloc _⟩
    · have e1 : suv f k = 0 := by unfold suv; rw [if_neg ht, if_neg (by simp [List.getD, show f.keep.length ≤ k by omega])]
      rw [e1]
      have hml := hf.len
      have HF := hide hf
      have HT := hide ht
      clear e1 hf ht
      go_enter Try.func38, Try.ntmps38
      go_wp2
      go_ret
      exact ⟨rfl, (Onl.refl _ _).alloc _⟩

def ckK (st : Sd) (f : Fat) (k : Nat) : Sd := ⟨crashK f.keep f.torn f.bytes st.C st.S k, st.C, st.bad, st.left, st.dead⟩
theorem crash_mixed {f : Fat} {S : List (List Int)} {k : Nat} {x : Nat × List Int} (hS : ∀ r ∈ S, Sec r) (hx : x.1 < S.length) (hs : Sec x.2) : crashOne f.keep f.torn f.bytes S k x = S.set x.1 (mixed x S (suv f k)) := by
  unfold crashOne suv
  by_cases h1 : (k : Int) = f.torn
  · rw [if_pos h1, if_pos h1]
    rfl
  · rw [if_neg h1, if_neg h1]
    by_cases h2 : f.keep.getD k false = true
    · rw [if_pos h2, if_pos h2, mixed_all hs hS]
    · rw [if_neg h2, if_neg h2]
      simp [mixed, List.getD, hx]
theorem ckK_next {st : Sd} {f : Fat} {k : Nat} {x : Nat × List Int} (hx : st.C[k]? = some x) (hS : ∀ r ∈ (ckK st f k).S, Sec r) (hl : x.1 < (ckK st f k).S.length) (hs : Sec x.2) : ({ ckK st f k with S := (ckK st f k).S.set x.1 (mixed x (ckK st f k).S (suv f k)) } : Sd) = ckK st f (k + 1) := by
  rw [← crash_mixed (f := f) hS hl hs]
  unfold ckK
  simp only [crashK, hx]
theorem rdb_onl {O : Nat → Prop} {w w' : World} {a : Option Addr} {l : List Bool} (h : RdB w a l) (ho : Onl O w w') (hr : ∀ x, a = some x → 0 < l.length → ¬ O x.block) : RdB w' a l := by
  intro i hi
  obtain ⟨b, off, ha, hc⟩ := h i hi
  exact ⟨b, off, ha, (World.cell?_of_block (ho.block b (World.block_lt_of_cell? w _ hc) (hr ⟨b, off, none⟩ ha (by omega)))).trans hc⟩
theorem okt_onl {O : Nat → Prop} {w w' : World} {f : Fat} (h : OkT w f) (ho : Onl O w w') (hr : ∀ x, f.ka = some x → 0 < f.keep.length → ¬ O x.block) : OkT w' f := { h with rd := rdb_onl h.rd ho hr }

attribute [local go_sem ↓] ld_exec67 st_exec67 al_exec67 Go.wp_at_zero Go.wp_at_succ

set_option maxHeartbeats 4000000 in
theorem ccrash_any {O : Nat → Prop} {w : World} {p : Nat} {st : Sd} (h : CDev O w p st) (hlt : ∀ i, O i → i < w.heap.size) (hc : st.C.length ≤ 1099511627776) (f : Fat) (hf : OkT w f) (hko : ∀ x, f.ka = some x → 0 < f.keep.length → ¬ O x.block) :
    Calls Try.prog 13 #[.pointer (some ⟨p, 0, none⟩), f.val] w fun e w' => e = .returned (.tuple #[]) ∧ CDev O w' p (st.crashed f) ∧ Onl O w w' := by
  obtain ⟨vK, vC, m, lf, h⟩ := h
  have okc := h.ok.crashed f
  have c1 := h.ob.cell 2
  simp only [List.getElem?_cons_zero, List.getElem?_cons_succ] at c1
  have hplt := h.ob.lt
  obtain ⟨ca, ccap, hvC, hc1, hc2, hc3⟩ := h.sC.form
  subst hvC
  have H := hide h
  have HC3 := hide hc3
  have HF := hide hf
  have HK := hide hko
  have HOK := hide okc
  have HLT := hide hlt
  clear h hc3 hf hko okc hlt
  unfold Fat.val Fat.cells
  go_enter Try.func13, Try.ntmps13
  go_wp2
  go_loopw [13] (fun i wr => ∃ k : Nat, k ≤ st.C.length ∧ i = .int .i64 k ∧ Hid (CParts O wr p (ckK st f k) vK (.slice ca st.C.length ccap) m lf) ∧ Hid (Onl O w wr) ∧ Hid (Ob wr w.heap.size 26 f.cells) ∧ w.heap.size < wr.heap.size) (fun i _ => st.C.length - (intOf i).toNat)
  case atStart =>
    refine ⟨0, Nat.zero_le _, rfl, ?_, (Onl.refl _ _).alloc _, Ob.new w f.cells 26, by simp⟩
    exact H.out.kept ((Onl.refl _ _).alloc _)
  case round =>
    obtain ⟨k, hk, rfl, hP, hOr, hBx, hwlt⟩ := hrel
    have d2 := hP.out.ob.cell 2
    have d4 := hP.out.ob.cell 4
    have d5 := hP.out.ob.cell 5
    have d6 := hP.out.ob.cell 6
    have f2 := hP.out.ob.frozen 2
    have f4 := hP.out.ob.frozen 4
    have f5 := hP.out.ob.frozen 5
    have f6 := hP.out.ob.frozen 6
    have hplt := hP.out.ob.lt
    simp only [List.getElem?_cons_zero, List.getElem?_cons_succ] at d2 d4 d5 d6
    by_cases hlt : k < st.C.length
    · obtain ⟨g, cap, x, hvC, hg, hglt, hcl, hcm, hx, hcell, hxl, hsx⟩ := hP.out.cached (k := k) hlt
      cases hvC
      have Lx : Len32 x.2 := ⟨hsx.1⟩
      obtain ⟨l1, l2⟩ := ld_wri (x := x) Lx hcell
      obtain ⟨s1, s2⟩ := st_new_wri wr (x := x) Lx
      have k1 : Ob (wr.alloc (.cells (wrA x) 81)) wr.heap.size 81 (wrV x) := Ob.new wr (wrV x) 81
      have P1 := hP.out.kept ((Onl.refl _ wr).alloc (.cells (wrA x) 81))
      have O1 := hOr.out.alloc (.cells (wrA x) 81)
      have B1 := hBx.out.alloc (.cells (wrA x) 81)
      have z1 : (wr.alloc (.cells (wrA x) 81)).heap.size = wr.heap.size + 1 := by simp
      generalize hW1 : wr.alloc (.cells (wrA x) 81) = W1 at s2 k1 P1 O1 B1 z1
      have k1d : Ob W1.drew wr.heap.size 81 (wrV x) := k1
      obtain ⟨l3, l4⟩ := ld_wri_ob Lx k1d
      have b0 := B1.cell 0
      have b1 := B1.cell 1
      have b2 := B1.cell 2
      simp only [List.getElem?_cons_zero, List.getElem?_cons_succ, Fat.cells] at b0 b1 b2
      have hfW : OkT W1.drew f := okt_onl HF.out O1.drew HK.out
      have HFW := hide hfW
      have HX := hide hx
      have HS := hide hsx
      have HK1 := hide k1
      have HP1 := hide P1
      have HO1 := hide O1
      have HB1 := hide B1
      have HL := hide Lx
      clear hx hcell hsx k1 P1 O1 hW1 hfW k1d B1 Lx
      go_wp2
      go_region_law (first
        | (go_simp; first
          | (go_at_call 38; refine (csurv_any f HFW.out k).mono ?_; rintro e w2 ⟨rfl, hO2⟩; have k2 := Ob.onl (w' := w2) HK1.out ((Onl.refl _ W1).drew.trans hO2) (fun q => q); obtain ⟨l5, l6⟩ := ld_wri_ob HL.out k2; have HB2 := hide (Ob.onl (w' := w2) HB1.out ((Onl.refl _ W1).drew.trans hO2) (fun q => q)); have HP2 := hide (HP1.out.kept ((Onl.refl _ W1).drew.trans hO2)); have HO2 := hide (HO1.out.drew.trans (hO2.mono (fun _ q => q.elim))); clear hO2 k2)
          | (go_at_call 37; refine (ckeep_any HP2.out (x := x) (by exact hxl) HS.out (suv f k) (suv_le f k)).mono ?_; rintro e w3 ⟨rfl, hP3, hO3⟩; have HP3 := hide hP3; have HO3 := hide (HO2.out.trans hO3); have HB3 := hide hO3; clear hP3 hO3)))
      all_goals (
        go_wp2
        go_roundw
        case rel =>
          have e := ckK_next (st := st) (f := f) HX.out HP2.out.ok.secs (by exact hxl) HS.out
          have hP3 := HP3.out
          rw [e] at hP3
          exact ⟨k + 1, hlt, rfl, hP3, HO3.out, HB2.out.onl HB3.out (fun q => absurd (HLT.out _ q) (Nat.lt_irrefl _)), Nat.lt_of_lt_of_le HB2.out.lt HB3.out.size⟩
        case measure => simp [intOf]; omega)
    · have hkk : k = st.C.length := by omega
      have HKK := hide hkk
      clear hkk
      go_wp2
      go_end0
      have h1 := hP.out.clear
      have hp := hP.out.own
      have e0 : (ckK st f k).S = crashK f.keep f.torn f.bytes st.C st.S st.C.length := by rw [HKK.out]; rfl
      have h2 := h1.reob (lf' := 0) (st' := st.crashed f) ((((Onl.refl _ _).set (O := fun k => k = p) (.inl rfl) _).set (.inl rfl) _).set (.inl rfl) _) e0.symm rfl rfl HOK.out (fun q => absurd q (by simp [Sd.crashed])) (((h1.ob.set 6 (.bool false)).set 4 (.bool false)).set 5 (.int .i64 0))
      exact ⟨rfl, ⟨_, _, _, _, h2⟩, (((hOr.out.set (.inl hp) _).set (.inl hp) _).set (.inl hp) _).set (.inl hp) _⟩
end Go.Proofs.Ytcmblfhghebjjaa
