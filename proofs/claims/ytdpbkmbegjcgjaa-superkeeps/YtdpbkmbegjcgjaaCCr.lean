/- What the program's Crash of a device does, over the translation. -/
import Derived.Test.YtdpbkmbegjcgjaaCFl
import Derived.Deep.RegionLaw
namespace Go.Proofs.Ytdpbkmbegjcgjaa
open Go.RowKit Apo

/-- how many bytes of the k-th cached write are kept -/
def suv (f : Fat) (k : Nat) : Nat := if (k : Int) = f.torn then cutOf f.bytes else if f.keep.getD k false then 32 else 0
theorem suv_le (f : Fat) (k : Nat) : suv f k ≤ 32 := by
  unfold suv cutOf
  split
  · split <;> (try split) <;> omega
  · split <;> omega
theorem betw_cut (z : Int) : betw z 32 = (cutOf z : Int) := by
  unfold betw cutOf
  split
  · rfl
  · split <;> omega

set_option maxHeartbeats 1000000 in
theorem csurv_any {w : World} (f : Fat) (hf : OkT w f) (k : Nat) :
    Calls Try.prog 39 #[.agg #[.slice f.ka f.keep.length f.kc, .int .i64 f.torn, .int .i64 f.bytes], .int .i64 k] w fun e w' => e = .returned (.int .i64 (suv f k)) ∧ Onl (fun _ => False) w w' := by
  by_cases ht : (k : Int) = f.torn
  · have e1 : suv f k = cutOf f.bytes := by simp [suv, ht]
    have e2 := betw_cut f.bytes
    rw [e1]
    have hq : ((k : Int) == f.torn) = true := by simp [ht]
    have HT := hide ht
    have HE := hide e2
    clear ht e1 e2 hf
    go_enter Try.func39, Try.ntmps39
    go_wp2_with fail
    refine (cbetween_any f.bytes 32 (by omega)).mono ?_
    rintro e w1 ⟨rfl, rfl⟩
    rw [HE.out]
    go_wp2
    go_ret
    exact ⟨rfl, (Onl.refl _ _).alloc _⟩
  · have hq : ((k : Int) == f.torn) = false := by simpa using ht
    by_cases hl : k < f.keep.length
    · obtain ⟨b, off, ha, hc⟩ := hf.rd k hl
      have hblt := World.block_lt_of_cell? w _ hc
      have hml := hf.len
      have hc' : w.cell? ⟨b, off + k, none⟩ = some (.bool (f.keep.getD k false)) := by simpa [List.getD, hl] using hc
      rw [ha]
      cases hb : f.keep.getD k false with
      | true =>
        have e1 : suv f k = 32 := by unfold suv; rw [if_neg ht, hb]; rfl
        rw [e1]
        rw [hb] at hc'
        have HA := hide ha
        have HF := hide hf
        have HT := hide ht
        clear e1 hc ha hf ht hb
        go_enter Try.func39, Try.ntmps39
        go_wp2
        go_ret
        exact ⟨rfl, (Onl.refl _ _).alloc _⟩
      | false =>
        have e1 : suv f k = 0 := by unfold suv; rw [if_neg ht, hb]; rfl
        rw [e1]
        rw [hb] at hc'
        have HA := hide ha
        have HF := hide hf
        have HT := hide ht
        clear e1 hc ha hf ht hb
        go_enter Try.func39, Try.ntmps39
        go_wp2
        go_ret
        exact ⟨rfl, (Onl.refl _ _).alloc _⟩
    · have e1 : suv f k = 0 := by unfold suv; rw [if_neg ht, if_neg (by simp [List.getD, show f.keep.length ≤ k by omega])]
      rw [e1]
      have hml := hf.len
      have HF := hide hf
      have HT := hide ht
      clear e1 hf ht
      go_enter Try.func39, Try.ntmps39
      go_wp2
      go_ret
      exact ⟨rfl, (Onl.refl _ _).alloc _⟩

def ckK (st : Sd) (f : Fat) (k : Nat) : Sd := ⟨crashK f.keep f.torn f.bytes st.C st.S k, st.C, st.bad, st.left, st.dead⟩
theorem crash_mixed {f : Fat} {S : List (List Int)} {k : Nat} {x : Nat × List Int} (hS : ∀ r ∈ S, Sec r) (hx : x.1 < S.length) (hs : Sec x.2) : crashOne f.keep f.torn f.bytes S k x = S.set x.1 (mixed x S (suv f k)) := by
  unfold crashOne suv
  by_cases h1 : (k : Int) = f.torn
  · rw [if_pos h1, if_pos h1]
    rfl
  · rw [if_neg h1, if_neg h1]
    by_cases h2 : f.keep.getD k false = true
    · rw [if_pos h2, if_pos h2, mixed_all hs hS]
    · rw [if_neg h2, if_neg h2]
      simp [mixed, List.getD, hx]
theorem ckK_next {st : Sd} {f : Fat} {k : Nat} {x : Nat × List Int} (hx : st.C[k]? = some x) (hS : ∀ r ∈ (ckK st f k).S, Sec r) (hl : x.1 < (ckK st f k).S.length) (hs : Sec x.2) : ({ ckK st f k with S := (ckK st f k).S.set x.1 (mixed x (ckK st f k).S (suv f k)) } : Sd) = ckK st f (k + 1) := by
  rw [← crash_mixed (f := f) hS hl hs]
  unfold ckK
  simp only [crashK, hx]
theorem rdb_onl {O : Nat → Prop} {w w' : World} {a : Option Addr} {l : List Bool} (h : RdB w a l) (ho : Onl O w w') (hr : ∀ x, a = some x → 0 < l.length → ¬ O x.block) : RdB w' a l := by
  intro i hi
  obtain ⟨b, off, ha, hc⟩ := h i hi
  exact ⟨b, off, ha, (World.cell?_of_block (ho.block b (World.block_lt_of_cell? w _ hc) (hr ⟨b, off, none⟩ ha (by omega)))).trans hc⟩
theorem okt_onl {O : Nat → Prop} {w w' : World} {f : Fat} (h : OkT w f) (ho : Onl O w w') (hr : ∀ x, f.ka = some x → 0 < f.keep.length → ¬ O x.block) : OkT w' f := { h with rd := rdb_onl h.rd ho hr }

attribute [local go_sem ↓] ld_exec67 st_exec67 al_exec67 Go.wp_at_zero Go.wp_at_succ

set_option maxHeartbeats 4000000 in
theorem ccrash_any {O : Nat → Prop} {w : World} {p : Nat} {st : Sd} (h : CDev O w p st) (hlt : ∀ i, O i → i < w.heap.size) (hc : st.C.length ≤ 1099511627776) (f : Fat) (hf : OkT w f) (hko : ∀ x, f.ka = some x → 0 < f.keep.length → ¬ O x.block) :
    Calls Try.prog 21 #[.pointer (some ⟨p, 0, none⟩), f.val] w fun e w' => e = .returned (.tuple #[]) ∧ CDev O w' p (st.crashed f) ∧ Onl O w w' := by
  obtain ⟨vK, vC, m, lf, h⟩ := h
  have okc := h.ok.crashed f
  have c1 := h.ob.cell 2
  simp only [List.getElem?_cons_zero, List.getElem?_cons_succ] at c1
  have hplt := h.ob.lt
  obtain ⟨ca, ccap, hvC, hc1, hc2, hc3⟩ := h.sC.form
  subst hvC
  have H := hide h
  have HC3 := hide hc3
  have HF := hide hf
  have HK := hide hko
  have HOK := hide okc
  have HLT := hide hlt
  clear h hc3 hf hko okc hlt
  unfold Fat.val Fat.cells
  go_enter Try.func21, Try.ntmps21
  go_wp2
  go_loopw [13] (fun i wr => ∃ k : Nat, k ≤ st.C.length ∧ i = .int .i64 k ∧ Hid (CParts O wr p (ckK st f k) vK (.slice ca st.C.length ccap) m lf) ∧ Hid (Onl O w wr) ∧ Hid (Ob wr w.heap.size 49 f.cells) ∧ w.heap.size < wr.heap.size) (fun i _ => st.C.length - (intOf i).toNat)
  case atStart =>
    refine ⟨0, Nat.zero_le _, rfl, ?_, (Onl.refl _ _).alloc _, Ob.new w f.cells 49, by simp⟩
    exact H.out.kept ((Onl.refl _ _).alloc _)
  case round =>
    obtain ⟨k, hk, rfl, hP, hOr, hBx, hwlt⟩ := hrel
    have d2 := hP.out.ob.cell 2
    have d4 := hP.out.ob.cell 4
    have d5 := hP.out.ob.cell 5
    have d6 := hP.out.ob.cell 6
    have f2 := hP.out.ob.frozen 2
    have f4 := hP.out.ob.frozen 4
    have f5 := hP.out.ob.frozen 5
    have f6 := hP.out.ob.frozen 6
    have hplt := hP.out.ob.lt
    simp only [List.getElem?_cons_zero, List.getElem?_cons_succ] at d2 d4 d5 d6
    by_cases hlt : k < st.C.length
    · obtain ⟨g, cap, x, hvC, hg, hglt, hcl, hcm, hx, hcell, hxl, hsx⟩ := hP.out.cached (k := k) hlt
      cases hvC
      have Lx : Len32 x.2 := ⟨hsx.1⟩
      obtain ⟨l1, l2⟩ := ld_wri (x := x) Lx hcell
      obtain ⟨s1, s2⟩ := st_new_wri wr (x := x) Lx
      have k1 : Ob (wr.alloc (.cells (wrA x) 80)) wr.heap.size 80 (wrV x) := Ob.new wr (wrV x) 80
      have P1 := hP.out.kept ((Onl.refl _ wr).alloc (.cells (wrA x) 80))
      have O1 := hOr.out.alloc (.cells (wrA x) 80)
      have B1 := hBx.out.alloc (.cells (wrA x) 80)
      have z1 : (wr.alloc (.cells (wrA x) 80)).heap.size = wr.heap.size + 1 := by simp
      generalize hW1 : wr.alloc (.cells (wrA x) 80) = W1 at s2 k1 P1 O1 B1 z1
      have k1d : Ob W1.drew wr.heap.size 80 (wrV x) := k1
      obtain ⟨l3, l4⟩ := ld_wri_ob Lx k1d
      have b0 := B1.cell 0
      have b1 := B1.cell 1
      have b2 := B1.cell 2
      simp only [List.getElem?_cons_zero, List.getElem?_cons_succ, Fat.cells] at b0 b1 b2
      have hfW : OkT W1.drew f := okt_onl HF.out O1.drew HK.out
      have HFW := hide hfW
      have HX := hide hx
      have HS := hide hsx
      have HK1 := hide k1
      have HP1 := hide P1
      have HO1 := hide O1
      have HB1 := hide B1
      have HL := hide Lx
      clear hx hcell hsx k1 P1 O1 hW1 hfW k1d B1 Lx
      go_wp2
      go_region_law (first
        | (go_simp; first
          | (go_at_call 39; refine (csurv_any f HFW.out k).mono ?_; rintro e w2 ⟨rfl, hO2⟩; have k2 := Ob.onl (w' := w2) HK1.out ((Onl.refl _ W1).drew.trans hO2) (fun q => q); obtain ⟨l5, l6⟩ := ld_wri_ob HL.out k2; have HB2 := hide (Ob.onl (w' := w2) HB1.out ((Onl.refl _ W1).drew.trans hO2) (fun q => q)); have HP2 := hide (HP1.out.kept ((Onl.refl _ W1).drew.trans hO2)); have HO2 := hide (HO1.out.drew.trans (hO2.mono (fun _ q => q.elim))); clear hO2 k2)
          | (go_at_call 38; refine (ckeep_any HP2.out (x := x) (by exact hxl) HS.out (suv f k) (suv_le f k)).mono ?_; rintro e w3 ⟨rfl, hP3, hO3⟩; have HP3 := hide hP3; have HO3 := hide (HO2.out.trans hO3); have HB3 := hide hO3; clear hP3 hO3)))
      all_goals (
        go_wp2
        go_roundw
        case rel =>
          have e := ckK_next (st := st) (f := f) HX.out HP2.out.ok.secs (by exact hxl) HS.out
          have hP3 := HP3.out
          rw [e] at hP3
          exact ⟨k + 1, hlt, rfl, hP3, HO3.out, HB2.out.onl HB3.out (fun q => absurd (HLT.out _ q) (Nat.lt_irrefl _)), Nat.lt_of_lt_of_le HB2.out.lt HB3.out.size⟩
        case measure => simp [intOf]; omega)
    · have hkk : k = st.C.length := by omega
      have HKK := hide hkk
      clear hkk
      go_wp2
      go_end0
      have h1 := hP.out.clear
      have hp := hP.out.own
      have e0 : (ckK st f k).S = crashK f.keep f.torn f.bytes st.C st.S st.C.length := by rw [HKK.out]; rfl
      have h2 := h1.reob (lf' := 0) (st' := st.crashed f) ((((Onl.refl _ _).set (O := fun k => k = p) (.inl rfl) _).set (.inl rfl) _).set (.inl rfl) _) e0.symm rfl rfl HOK.out (fun q => absurd q (by simp [Sd.crashed])) (((h1.ob.set 6 (.bool false)).set 4 (.bool false)).set 5 (.int .i64 0))
      exact ⟨rfl, ⟨_, _, _, _, h2⟩, (((hOr.out.set (.inl hp) _).set (.inl hp) _).set (.inl hp) _).set (.inl hp) _⟩
end Go.Proofs.Ytdpbkmbegjcgjaa
