/- What the document's Flush and Read of a device do, over the translation. -/
import Derived.Test.YtdpbkmbegjcgjaaRDev
import Derived.BigRegion
import Derived.Test.YtdpbkmbegjcgjaaApp
namespace Go.Proofs.Ytdpbkmbegjcgjaa
open Go.RowKit Apo

/-- the cached write k, as it lies in memory -/
theorem RParts.cached {O : Nat → Prop} {w : World} {p : Nat} {st : Sd} {vS vC vB : Value} {rv cv : List Value} (h : RParts O w p st vS vC vB rv cv) {k : Nat} (hk : k < st.C.length) :
    ∃ g cap x v, vC = .slice (some ⟨g, 0, none⟩) st.C.length cap ∧ O g ∧ g < w.heap.size ∧ st.C.length ≤ cap ∧ cap ≤ maxLen ∧ st.C[k]? = some x ∧ w.cell? ⟨g, k * 2, none⟩ = some (.int .i64 x.1) ∧ w.cell? ⟨g, k * 2 + 1, none⟩ = some v ∧ Byt O 5 w v x.2 ∧ x.1 < st.S.length ∧ Sec x.2 := by
  obtain ⟨g, cap, rfl, hO, hlt, hnc, hcm, hcell, _⟩ := h.sC.shape (by omega)
  have hl := h.sW.1
  rw [List.length_map] at hl
  have e1 : st.C[k]? = some st.C[k] := List.getElem?_eq_getElem hk
  have e2 : cv[k]? = some cv[k] := List.getElem?_eq_getElem (by omega)
  obtain ⟨a1, a2⟩ := ccells_at e1 e2
  have hb := h.sW.2 k _ _ e2 (by rw [List.getElem?_map, e1]; rfl)
  have hok := h.ok.cach st.C[k] (List.getElem_mem hk)
  exact ⟨g, cap, _, _, rfl, hO, hlt, hnc, hcm, e1, (hcell (k * 2) (by omega)).trans a1, (hcell (k * 2 + 1) (by omega)).trans a2, hb, hok.1, hok.2⟩

def flK (st : Sd) (k : Nat) : Sd := ⟨putAll (st.C.take k) st.S, st.C, st.bad, st.acted.left, st.acted.dead⟩
theorem flK_zero (st : Sd) : flK st 0 = st.acted := by
  unfold flK
  have e1 := acted_S st
  have e2 := acted_C st
  have e3 := acted_bad st
  cases h : st.acted
  rw [h] at e1 e2 e3
  simp only at e1 e2 e3
  subst e1 e2 e3
  rfl
theorem flK_end {st : Sd} {k : Nat} (hk : st.C.length ≤ k) : ({ flK st k with C := [] } : Sd) = { st.acted with S := putAll st.C st.S, C := [] } := by
  unfold flK
  rw [List.take_of_length_le hk]
  have e3 := acted_bad st
  rw [← e3]
theorem flK_set {st : Sd} {k : Nat} {x : Nat × List Int} (hx : st.C[k]? = some x) : ({ flK st k with S := (flK st k).S.set x.1 x.2 } : Sd) = flK st (k + 1) := by
  unfold flK
  simp only
  rw [putAll_snoc hx]

theorem RParts.kept {O : Nat → Prop} {w w' : World} {p : Nat} {st : Sd} {vS vC vB : Value} {rv cv : List Value} (h : RParts O w p st vS vC vB rv cv) (ho : Onl (fun _ => False) w w') : RParts O w' p st vS vC vB rv cv := h.onl ho (fun _ _ q => q)

/-- nothing is cached any more -/
theorem RParts.clear {O : Nat → Prop} {w : World} {p : Nat} {st : Sd} {vS vC vB : Value} {rv cv : List Value} (h : RParts O w p st vS vC vB rv cv) : RParts O (w.setCell ⟨p, 1, none⟩ (.slice none 0 0)) p { st with C := [] } vS (.slice none 0 0) vB rv [] := by
  have o1 : Onl (fun k => k = p) w (w.setCell ⟨p, 1, none⟩ (.slice none 0 0)) := Onl.set (O := fun k => k = p) (Onl.refl _ w) (.inl rfl) _
  refine ⟨h.ob.set 1 _, h.own, ?_, ?_, Row.nil _ _ _ _, Byts.nil _ _ _, ?_, ?_⟩
  · exact h.sS.onl o1 (fun g hg q => h.sS.apartOb h.ob (by decide) (by rw [hg, q]))
  · exact h.sR.onl o1 (fun v r g hb hg q => Row.apartOb hb h.ob (by decide) (by rw [hg, q]))
  · exact h.sB.onl o1 (fun g hg q => h.sB.apartOb h.ob (by decide) (by rw [hg, q]))
  · exact ⟨h.ok.secs, by simp, h.ok.bads, h.ok.size, h.ok.l0, h.ok.l1⟩

set_option maxHeartbeats 1000000 in
theorem rflush_any {O : Nat → Prop} {w : World} {p : Nat} {st : Sd} (h : RDev O w p st) (hc : st.C.length ≤ 1099511627776) :
    Calls Try.prog 35 #[.pointer (some ⟨p, 0, none⟩)] w fun e w' => e = .returned (.int .i64 st.flushed.1) ∧ RDev O w' p st.flushed.2 ∧ Onl O w w' := by
  by_cases ha : st.acts = true
  · have e2 : st.flushed = (0, { st.acted with S := putAll st.C st.S, C := [] }) := by simp [Sd.flushed, ha]
    rw [e2]
    clear e2
    have HH := hide h
    clear h
    go_enter Try.func35, Try.ntmps35
    go_wp2_with fail
    refine (ract_any HH.out).mono ?_
    rintro e w1 ⟨rfl, hr, ho⟩
    rw [ha]
    rw [← flK_zero] at hr
    obtain ⟨vS, vC, vB, rv, cv, h⟩ := hr
    obtain ⟨ca, ccap, hvC, hc1, hc2, hc3⟩ := h.sC.form
    have c1 := h.ob.cell 1
    simp only [List.getElem?_cons_zero, List.getElem?_cons_succ] at c1
    subst hvC
    have H := hide h
    have HO := hide ho
    have HC := hide hc3
    clear h ho hc3
    have ec : (flK st 0).C = st.C := rfl
    rw [ec] at c1 hc1
    go_wp2
    go_loopw [13] (fun i wr => ∃ k : Nat, k ≤ st.C.length ∧ i = .int .i64 k ∧ ∃ rv', Hid (RParts O wr p (flK st k) vS (.slice ca st.C.length ccap) vB rv' cv) ∧ Hid (Onl O w wr)) (fun i _ => st.C.length - (intOf i).toNat)
    case atStart => exact ⟨0, Nat.zero_le _, rfl, rv, H.out, HO.out⟩
    case round =>
      obtain ⟨k, hk, rfl, rv', hP, hOr⟩ := hrel
      have d0 := hP.out.ob.cell 0
      have f1 := hP.out.ob.frozen 1
      have hplt := hP.out.ob.lt
      have pc1 := hP.out.ob.cell 1
      simp only [List.getElem?_cons_zero, List.getElem?_cons_succ] at d0 pc1
      by_cases hlt : k < st.C.length
      · obtain ⟨g, cap, x, v, hvC, hg, hglt, hcl, hcm, hx, q0, q1, hb, hxl, hsx⟩ := hP.out.cached (k := k) hlt
        cases hvC
        have hxl' : x.1 < (flK st k).S.length := hxl
        obtain ⟨gs, scap, rfl, hgs, hgslt, hsl, hsm, hscell, hsfr⟩ := hP.out.sS.shape (by omega)
        have s0 := hscell x.1 (by omega)
        have fs := hsfr x.1
        have hrl : rv'.length = (flK st k).S.length := by have := hP.out.sS.len; omega
        rw [List.getElem?_eq_getElem (by omega)] at s0
        generalize rv'[x.1]'(by omega) = u0 at s0
        have hsz := hP.out.ok.size
        obtain ⟨gv, vcap, rfl, hgv, hgvlt, hv1, hv2, _, _⟩ := hb.shape (by decide)
        have HX := hide hx
        have HB := hide hb
        have HS := hide hsx
        clear hx hb hscell hsfr hsx
        generalize hSl : (flK st k).S.length = sl at *
        go_wp2
        go_region
        all_goals go_wp2
        go_roundw
        case rel =>
          subst hSl
          have h1 := hP.out.setS x.1 HB.out HS.out
          have hx' : st.C[k]? = some x := HX.out
          have e := flK_set hx'
          simp only at e h1
          rw [e] at h1
          exact ⟨k + 1, hlt, rfl, _, RParts.kept h1 (((Onl.refl _ _).alloc _).drew), ((hOr.out.set (.inl hgs) _).alloc _).drew⟩
        case measure => simp [intOf]; omega
      · go_wp2
        go_ret
        have h1 := hP.out.clear
        rw [flK_end (st := st) (k := k) (by omega)] at h1
        exact ⟨rfl, ⟨_, _, _, _, _, h1⟩, hOr.out.set (.inl hP.out.own) _⟩
  · have ha' : st.acts = false := by simpa using ha
    have e2 : st.flushed = (40, st.acted) := by simp [Sd.flushed, ha']
    rw [e2]
    clear e2
    have HH := hide h
    clear h
    go_enter Try.func35, Try.ntmps35
    go_wp2_with fail
    refine (ract_any HH.out).mono ?_
    rintro e w1 ⟨rfl, hr, ho⟩
    rw [ha']
    have HR := hide hr
    have HO := hide ho
    clear hr ho
    go_wp2
    go_ret
    exact ⟨rfl, HR.out, HO.out⟩

theorem info_u8 : (Try.prog.info? 5).map (fun i => (i.zero, i.size, i.bytes)) = some (some (.int .u8 0), 1, 1) := by kernel_rfl

/-- what Read hands out: a row of its own, or nothing -/
def Told (w : World) (B : Nat) (v : Value) (l : List Int) : Prop := w.ownsRow B 5 1 v l.length (l.map (Value.int .u8))

set_option maxHeartbeats 1000000 in
theorem rread_any {O : Nat → Prop} {w : World} {p : Nat} {st : Sd} (h : RDev O w p st) (hc : st.C.length ≤ 1099511627776) (a : Int) :
    Calls Try.prog 37 #[.pointer (some ⟨p, 0, none⟩), .int .i64 a] w fun e w' => ∃ v, e = .returned (.tuple #[v, .int .i64 (st.told a).2]) ∧ Told w' w.heap.size v (st.told a).1 ∧ Below w.heap.size w w' := by
  have hR := hide h
  obtain ⟨vS, vC, vB, rv, cv, h⟩ := h
  have c4 := h.ob.cell 4
  have c0 := h.ob.cell 0
  have c1 := h.ob.cell 1
  have c2 := h.ob.cell 2
  simp only [List.getElem?_cons_zero, List.getElem?_cons_succ] at c0 c1 c2 c4
  have hplt := h.ob.lt
  have H := hide h
  clear h
  by_cases hd : st.dead = true
  · have e1 : st.told a = ([], 40) := by simp [Sd.told, hd]
    rw [e1]
    rw [hd] at c4
    clear e1
    go_enter Try.func37, Try.ntmps37
    go_wp2
    go_returns
    exact ⟨_, rfl, World.ownsRow_nil _ _ _ _, Below.refl _ _⟩
  · have hd' : st.dead = false := by simpa using hd
    rw [hd'] at c4
    by_cases ha : st.has a = true
    · have ha2 := has_iff.1 ha
      obtain ⟨i, rfl⟩ := Int.eq_ofNat_of_zero_le ha2.1
      have hbd := H.out.ok.bads
      have hsz := H.out.ok.size
      have hi : i < st.bad.length := by omega
      have hi2 : i < st.S.length := by omega
      obtain ⟨gb, bcap, hvB, hO, hblt, hb1, hb2, hbcell, _⟩ := H.out.sB.shape (by omega)
      have ci := hbcell i (by omega)
      rw [List.getElem?_map, List.getElem?_eq_getElem hi] at ci
      simp only [Option.map_some] at ci
      subst hvB
      have hilt : (i : Int) < (st.bad.length : Int) := by omega
      cases hbad : st.bad[i] with
      | true =>
        have e1 : st.told i = ([], 41) := by simp [Sd.told, hd', ha, List.getD, hi, hbad]
        rw [e1]
        rw [hbad] at ci
        clear e1 hbcell
        go_enter Try.func37, Try.ntmps37
        go_wp2_with fail
        refine (rhas_any hR.out i).mono ?_
        rintro e w1 ⟨rfl, rfl⟩
        rw [ha]
        go_wp2
        go_returns
        exact ⟨_, rfl, World.ownsRow_nil _ _ _ _, Below.refl _ _⟩
      | false =>
        have e1 : st.told i = (lastOf st.C i (st.S.getD i []), 0) := by simp [Sd.told, hd', ha, List.getD, hi, hbad]
        rw [e1]
        rw [hbad] at ci
        clear e1 hbcell
        obtain ⟨gs, scap, hvS, hgs, hgslt, hs1, hs2, hscell, _⟩ := H.out.sS.shape (by omega)
        subst hvS
        have hrl : rv.length = st.S.length := by have := H.out.sS.len; omega
        have si := hscell i (by omega)
        rw [List.getElem?_eq_getElem (by omega)] at si
        have hb0 := H.out.sR.2 i _ _ (List.getElem?_eq_getElem (by omega)) (List.getElem?_eq_getElem hi2)
        generalize rv[i]'(by omega) = u at si hb0
        obtain ⟨gu, ucap, rfl, _⟩ := hb0.shape (by decide)
        have HB0 := hide hb0
        obtain ⟨ca, ccap, hvC, hc1, hc2, hc3⟩ := H.out.sC.form
        subst hvC
        have HC3 := hide hc3
        obtain ⟨i0, hI, hz0, hz1, hz2⟩ := info_parts info_u8
        clear hb0 hscell hc3
        go_enter Try.func37, Try.ntmps37
        go_wp2_with fail
        refine (rhas_any hR.out i).mono ?_
        rintro e w1 ⟨rfl, rfl⟩
        rw [ha]
        go_wp2
        go_loopw [6, 36] (fun b j wr => ∃ k : Nat, k ≤ st.C.length ∧ j = .int .i64 k ∧ Hid (Byt O 5 w b (lastOf (st.C.take k) i (st.S.getD i []))) ∧ Below w.heap.size w wr) (fun _ j _ => st.C.length - (intOf j).toNat)
        case atStart => exact ⟨0, Nat.zero_le _, rfl, by show Byt _ _ _ _ _; have := HB0.out; simpa [lastOf, List.getD, hi2] using this, Below.refl _ _⟩
        case round =>
          obtain ⟨k, hk, rfl, hB, hbr⟩ := hrel
          by_cases hlt : k < st.C.length
          · obtain ⟨g, cap, x, v, hvC, hg, hglt, hcl, hcm, hx, q0, q1, hb, hxl, hsx⟩ := H.out.cached (k := k) hlt
            cases hvC
            obtain ⟨gv, vcap, rfl, _⟩ := hb.shape (by decide)
            have q0' := (hbr.cell (p := ⟨g, k * 2, none⟩) hglt).trans q0
            have q1' := (hbr.cell (p := ⟨g, k * 2 + 1, none⟩) hglt).trans q1
            have HX := hide hx
            have HB := hide hb
            have hsz2 := hbr.size
            clear hx hb
            by_cases hxi : x.1 = i
            · have hbq : ((x.1 : Int) == (i : Int)) = true := by simp [hxi]
              go_wp2
              go_roundw
              case rel => exact ⟨k + 1, hlt, rfl, by show Byt _ _ _ _ _; rw [lastOf_snoc HX.out, if_pos hxi]; exact HB.out, hbr.alloc hsz2 _⟩
              case measure => simp [intOf]; omega
            · have hbq : ((x.1 : Int) == (i : Int)) = false := by simp; omega
              go_wp2
              go_roundw
              case rel => exact ⟨k + 1, hlt, rfl, by show Byt _ _ _ _ _; rw [lastOf_snoc HX.out, if_neg hxi]; exact hB.out, hbr.alloc hsz2 _⟩
              case measure => simp [intOf]; omega
          · have ek : st.C.take k = st.C := List.take_of_length_le (by omega)
            obtain ⟨gr, rcap, hu6, _⟩ := hB.out.shape (by decide)
            subst hu6
            have hB2 := hB.out
            rw [ek] at hB2
            have hlen : (lastOf st.C i (st.S.getD i [])).length = 32 := by have := hB2.len; simpa using this
            obtain ⟨hrd, _, _⟩ := Rd.own hB2.1
            have hrd2 := hrd.below hbr
            obtain ⟨v', w', hrun, r1, r2⟩ := run_append_rd (P := Try.prog) (w := wr) w.heap.size 26 26 5 i0 (.int .u8 0) 1 Try.underlying26 hI hz0 hz1 hz2 rfl .u8 (.slice none 0 0) [] (World.ownsRow_nil _ _ _ _) (some ⟨gr, 0, none⟩) rcap _ hrd2 (by simp) (by rw [hlen]; unfold maxLen; simp) (by rw [hlen]; simp) hbr.size
            rw [hlen] at hrun
            have HR := hide hrun
            have HO := hide r1
            have HG := hide r2
            have HL := hide hlen
            clear hrun r1 r2 hlen hrd hrd2 hB2 ek
            go_wp2_with (at_builtin; refine wpList_appends rfl _ _ 26 rfl _ _ v' w' rfl rfl HR.out ?_)
            go_wp2
            go_returns
            exact ⟨_, rfl, by have := HO.out; simpa [Told] using this, hbr.grown HG.out hbr.size (by simp [Value.ownBlock])⟩
    · have ha' : st.has a = false := by simpa using ha
      have e1 : st.told a = ([], 1) := by simp [Sd.told, hd', ha']
      rw [e1]
      clear e1
      go_enter Try.func37, Try.ntmps37
      go_wp2_with fail
      refine (rhas_any hR.out a).mono ?_
      rintro e w1 ⟨rfl, rfl⟩
      rw [ha']
      go_wp2
      go_returns
      exact ⟨_, rfl, World.ownsRow_nil _ _ _ _, Below.refl _ _⟩
end Go.Proofs.Ytdpbkmbegjcgjaa
