/- What the program's Flush of a device does, over the translation. What the program's Crash of a device does, over the translation. -/
import Derived.Deep.RegionLaw
import Derived.Test.YtegadgncggbeoaaGreatQGDk
import Derived.Test.YtegadgncggbeoaaGreatQGLr
namespace Go.Proofs.YtegadgncggbeoaaGreat
open Go.RowKit Apo

/-- the cached write k, as it lies in memory -/
theorem CParts.cached {O : Nat → Prop} {w : World} {p : Nat} {st : Sd} {vK vC : Value} {m : Nat} {lf : Int} (h : CParts O w p st vK vC m lf) {k : Nat} (hk : k < st.C.length) :
    ∃ g cap x, vC = .slice (some ⟨g, 0, none⟩) st.C.length cap ∧ O g ∧ g < w.heap.size ∧ st.C.length ≤ cap ∧ cap ≤ maxLen ∧ st.C[k]? = some x ∧ (∀ j, j < 33 → w.cell? ⟨g, k * 33 + j, none⟩ = (wrV x)[j]?) ∧ x.1 < st.S.length ∧ Sec x.2 := by
  obtain ⟨g, cap, rfl, hO, hlt, hnc, hcm, hcell, _⟩ := h.sC.shape (by omega)
  have e1 : st.C[k]? = some st.C[k] := List.getElem?_eq_getElem hk
  have hok := h.ok.cach st.C[k] (List.getElem_mem hk)
  have hlen : ∀ y ∈ st.C, (wrV y).length = 33 := fun y hy => by simp [wrV, secV, (h.ok.cach y hy).2.1]
  exact ⟨g, cap, _, rfl, hO, hlt, hnc, hcm, e1, fun j hj => (hcell _ (by omega)).trans (flat_at hlen e1 hj), hok.1, hok.2⟩

/-- nothing is cached any more -/
theorem CParts.clear {O : Nat → Prop} {w : World} {p : Nat} {st : Sd} {vK vC : Value} {m : Nat} {lf : Int} (h : CParts O w p st vK vC m lf) : CParts O (w.setCell ⟨p, 2, none⟩ (.slice none 0 0)) p { st with C := [] } vK (.slice none 0 0) m lf := by
  have o1 : Onl (fun k => k = p) w (w.setCell ⟨p, 2, none⟩ (.slice none 0 0)) := Onl.set (O := fun k => k = p) (Onl.refl _ w) (.inl rfl) _
  refine ⟨h.ob.set 2 _, h.own, ?_, Row.nil _ _ _ _, h.mO, h.mF.onl o1 (h.mF.ne h.ob), h.hlf, ?_⟩
  · exact h.sS.onl o1 (fun g hg q => h.sS.apartOb h.ob (by decide) (by rw [hg, q]))
  · exact ⟨h.ok.secs, by simp, h.ok.bads, h.ok.size, h.ok.l0, h.ok.l1⟩

theorem mixed_all {x : Nat × List Int} {S : List (List Int)} (hx : Sec x.2) (hS : ∀ r ∈ S, Sec r) : mixed x S 32 = x.2 := by
  have h1 : (S.getD x.1 []).length ≤ 32 := by
    simp only [List.getD]
    cases hq : S[x.1]? with
    | none => simp
    | some r => have := (hS r (List.mem_of_getElem? hq)).1; simp [this]
  unfold mixed
  rw [List.take_of_length_le (by rw [hx.1]; omega), List.drop_eq_nil_of_le h1, List.append_nil]

attribute [local go_sem ↓] ld_exec67 st_exec67 al_exec67

set_option maxHeartbeats 2000000 in
theorem cflush_any {O : Nat → Prop} {w : World} {p : Nat} {st : Sd} (h : CDev O w p st) (hc : st.C.length ≤ 1099511627776) :
    Calls Tryz.prog 98 #[.pointer (some ⟨p, 0, none⟩)] w fun e w' => e = .returned (.int .i64 st.flushed.1) ∧ CDev O w' p st.flushed.2 ∧ Onl O w w' := by
  have HH := hide h
  obtain ⟨vK, vC, m, lf, h⟩ := h
  have c6 := h.ob.cell 6
  simp only [List.getElem?_cons_zero, List.getElem?_cons_succ] at c6
  have H := hide h
  clear h
  by_cases hd : st.dead = true
  · have e1 : st.acts = false := by simp [Sd.acts, hd]
    have e0 : st.acted = st := by unfold Sd.acted; rw [e1]; cases st; simp at hd; simp [hd]
    have e2 : st.flushed = (40, st) := by simp [Sd.flushed, e1, e0]
    rw [e2]
    rw [hd] at c6
    clear e1 e0 e2
    go_enter Tryz.func98, Tryz.ntmps98
    go_wp2
    go_ret
    exact ⟨rfl, HH.out, Onl.refl _ _⟩
  · have hd' : st.dead = false := by simpa using hd
    rw [hd'] at c6
    by_cases ha : st.acts = true
    · have e2 : st.flushed = (0, { st.acted with S := putAll st.C st.S, C := [] }) := by simp [Sd.flushed, ha]
      rw [e2]
      clear e2
      have HD := hide hd'
      clear hd hd'
      go_enter Tryz.func98, Tryz.ntmps98
      go_wp2_with fail
      refine (cdies_any HH.out HD.out).mono ?_
      rintro e w1 ⟨rfl, hr, ho⟩
      rw [ha]
      rw [← flK_zero] at hr
      obtain ⟨vK1, vC1, m1, lf1, h⟩ := hr
      obtain ⟨ca, ccap, hvC, hc1, hc2, hc3⟩ := h.sC.form
      have c1 := h.ob.cell 2
      simp only [List.getElem?_cons_zero, List.getElem?_cons_succ] at c1
      subst hvC
      have H1 := hide h
      have HO := hide ho
      have HC := hide hc3
      clear h ho hc3
      have ec : (flK st 0).C = st.C := rfl
      rw [ec] at c1 hc1
      go_wp2
      go_loopw [20] (fun i wr => ∃ k : Nat, k ≤ st.C.length ∧ i = .int .i64 k ∧ Hid (CParts O wr p (flK st k) vK1 (.slice ca st.C.length ccap) m1 lf1) ∧ Hid (Onl O w wr)) (fun i _ => st.C.length - (intOf i).toNat)
      case atStart => exact ⟨0, Nat.zero_le _, rfl, H1.out, HO.out⟩
      case round =>
        obtain ⟨k, hk, rfl, hP, hOr⟩ := hrel
        have f1 := hP.out.ob.frozen 2
        have pc1 := hP.out.ob.cell 2
        simp only [List.getElem?_cons_zero, List.getElem?_cons_succ] at pc1
        by_cases hlt : k < st.C.length
        · obtain ⟨g, cap, x, hvC, hg, hglt, hcl, hcm, hx, hcell, hxl, hsx⟩ := hP.out.cached (k := k) hlt
          cases hvC
          have Lx : Len32 x.2 := ⟨hsx.1⟩
          obtain ⟨l1, l2⟩ := ld_wri (x := x) Lx hcell
          obtain ⟨s1, s2⟩ := st_new_wri wr (x := x) Lx
          have k1 : Ob (wr.alloc (.cells (wrA x) 106)) wr.heap.size 106 (wrV x) := Ob.new wr (wrV x) 106
          have P1 := hP.out.kept ((Onl.refl _ wr).alloc (.cells (wrA x) 106))
          have O1 := hOr.out.alloc (.cells (wrA x) 106)
          generalize hW1 : wr.alloc (.cells (wrA x) 106) = W1 at s2 k1 P1 O1
          obtain ⟨l3, l4⟩ := ld_wri_ob Lx k1
          have hmx := mixed_all (x := x) hsx P1.ok.secs
          have HK := ckeep_any P1 hxl hsx 32 (by omega)
          rw [hmx] at HK
          have hx' : st.C[k]? = some x := hx
          rw [flK_set hx'] at HK
          have HKK := hide HK
          have HX := hide hx
          have HS := hide hsx
          have HO1 := hide O1
          clear hx hx' hcell hsx k1 P1 O1 hmx HK hW1
          go_wp2_with fail
          refine HKK.out.mono ?_
          rintro e w2 ⟨rfl, hP2, hO2⟩
          have HP2 := hide hP2
          have HO2 := hide hO2
          clear hP2 hO2
          go_wp2
          go_roundw
          case rel => exact ⟨k + 1, hlt, rfl, HP2.out, HO1.out.trans HO2.out⟩
          case measure => simp [intOf]; omega
        · go_wp2
          go_ret
          have h1 := hP.out.clear
          rw [flK_end (st := st) (k := k) (by omega)] at h1
          exact ⟨rfl, ⟨_, _, _, _, h1⟩, hOr.out.set (.inl hP.out.own) _⟩
    · have ha' : st.acts = false := by simpa using ha
      have e2 : st.flushed = (40, st.acted) := by simp [Sd.flushed, ha']
      rw [e2]
      clear e2
      have HD := hide hd'
      clear hd hd'
      go_enter Tryz.func98, Tryz.ntmps98
      go_wp2_with fail
      refine (cdies_any HH.out HD.out).mono ?_
      rintro e w1 ⟨rfl, hr, ho⟩
      rw [ha']
      have HR := hide hr
      have HO := hide ho
      clear hr ho
      go_wp2
      go_ret
      exact ⟨rfl, HR.out, HO.out⟩
end Go.Proofs.YtegadgncggbeoaaGreat
namespace Go.Proofs.YtegadgncggbeoaaGreat
open Go.RowKit Apo

attribute [local go_sem ↓] ld_exec67 st_exec67 al_exec67 Go.wp_at_zero Go.wp_at_succ

end Go.Proofs.YtegadgncggbeoaaGreat
