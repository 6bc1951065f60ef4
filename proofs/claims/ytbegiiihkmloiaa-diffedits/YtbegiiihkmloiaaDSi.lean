/- insertionSortCmpFunc, over the translation. -/
import Derived.Test.YtbegiiihkmloiaaDSr
namespace Go.Proofs.Ytbegiiihkmloiaa
open Go.RowKit Apo Go.Sort
attribute [local go_sem ↓] ldE_exec stE_exec
def InI (d : List Ed) (a i j : Nat) : Prop := ∀ p q, a ≤ p → p < q → q ≤ i → q ≠ j → leK (kAt d p) (kAt d q)
theorem InI.stop {d : List Ed} {a i j : Nat} (h : InI d a i j) (hji : j ≤ i) (hs : j ≤ a ∨ leK (kAt d (j - 1)) (kAt d j)) : SrtIn d a (i + 1) := fun p q h1 h2 h3 => by
  by_cases z : q = j
  · subst z
    rcases hs with y | y
    · omega
    · by_cases x : p = q - 1
      · rw [x]; exact y
      · exact leK_trans (h p (q - 1) h1 (by omega) (by omega) (by omega)) y
  · exact h p q h1 h2 (by omega) z
theorem InI.step {d : List Ed} {a i j : Nat} (h : InI d a i j) (haj : a < j) (hji : j ≤ i) (hil : i < d.length) (hlt : sLt (kAt d j) (kAt d (j - 1)) = true) : InI (swL d j (j - 1)) a i (j - 1) := fun p q h1 h2 h3 h4 => by
  rw [swL_key (by omega) (by omega), swL_key (by omega) (by omega)]
  rw [if_neg h4]
  by_cases z : q = j
  · rw [if_pos z]
    by_cases x : p = j - 1
    · rw [if_pos x]; exact leK_of hlt
    · rw [if_neg x, if_neg (by omega)]
      exact h p (j - 1) h1 (by omega) (by omega) (by omega)
  · rw [if_neg z]
    by_cases x : p = j - 1
    · rw [if_pos x]; exact h j q (by omega) (by omega) h3 z
    · rw [if_neg x]
      by_cases y : p = j
      · rw [if_pos y]; exact h (j - 1) q (by omega) (by omega) h3 z
      · rw [if_neg y]; exact h p q h1 h2 h3 z
/-- how two edits are held against each other -/
structure CmpE (cf : Nat) : Prop where
  en : ∀ args w, (callFunc cf args).run Try.prog w = .ok (.enter cf args) w
  gives : ∀ (x y : Ed) (W : World), Calls Try.prog cf #[aggE x, aggE y] W fun e w' => e = .returned (.int .i64 (cmpS x.k y.k)) ∧ ∃ q os, w' = grow (W.drewN q) os
/-- what is kept while a row is sorted between two places -/
structure Kee (w : World) (g : Nat) (ex : List Value) (d0 : List Ed) (a b : Nat) (d : List Ed) (W : World) : Prop where
  ro : RoE W g d ex
  stb : Stb d0 d
  out : Out d0 d a b
  frm : Frm d0 d a b
  on : Onl (fun j => j = g) w W
theorem Kee.len {w : World} {g : Nat} {ex : List Value} {d0 : List Ed} {a b : Nat} {d : List Ed} {W : World} (h : Kee w g ex d0 a b d W) : d.length = d0.length := h.stb.1
theorem Kee.grown {w : World} {g : Nat} {ex : List Value} {d0 : List Ed} {a b : Nat} {d : List Ed} {W W' : World} (h : Kee w g ex d0 a b d W) (hb : Below W.heap.size W W') : Kee w g ex d0 a b d W' := ⟨h.ro.old hb, h.stb, h.out, h.frm, h.on.trans (Onl.ofBelow hb)⟩
theorem Kee.swap {w : World} {g : Nat} {ex : List Value} {d0 : List Ed} {a b : Nat} {d : List Ed} {W S2 : World} {i : Nat} (h : Kee w g ex d0 a b d W) (hr : RoE S2 g (swL d (i + 1) i) ex) (ho : Onl (fun j => j = g) W S2) (hi : i + 1 < d.length) (ha : a ≤ i) (hb : i + 1 < b) (hk : kAt d i ≠ kAt d (i + 1)) : Kee w g ex d0 a b (swL d (i + 1) i) S2 :=
  ⟨hr, h.stb.trans (by rw [swL_comm hi (by omega)]; exact swL_stb hi hk), Out.trans h.out (swL_out (a := a) (b := b) hi (by omega) (by omega) ha hb (by omega)) (Nat.le_refl _) (Nat.le_refl _) (Nat.le_refl _) (Nat.le_refl _), h.frm.trans (swL_frm hi (by omega) (by omega) ha hb (by omega)), h.on.trans ho⟩
theorem Kee.swap' {w : World} {g : Nat} {ex : List Value} {d0 : List Ed} {a b : Nat} {d : List Ed} {W S2 : World} {i : Nat} (h : Kee w g ex d0 a b d W) (hr : RoE S2 g (swL d i (i + 1)) ex) (ho : Onl (fun j => j = g) W S2) (hi : i + 1 < d.length) (ha : a ≤ i) (hb : i + 1 < b) (hk : kAt d i ≠ kAt d (i + 1)) : Kee w g ex d0 a b (swL d i (i + 1)) S2 :=
  ⟨hr, h.stb.trans (swL_stb hi hk), Out.trans h.out (swL_out (a := a) (b := b) (by omega) hi ha (by omega) (by omega) hb) (Nat.le_refl _) (Nat.le_refl _) (Nat.le_refl _) (Nat.le_refl _), h.frm.trans (swL_frm (by omega) hi ha (by omega) (by omega) hb), h.on.trans ho⟩
/-- an edit's cells in every world that a comparison may leave -/
theorem RoE.grown {w : World} {g : Nat} {d : List Ed} {ex : List Value} (h : RoE w g d ex) {i : Nat} {x : Ed} (hx : d[i]? = some x) : (∀ n os, (grow (w.drewN n) os).cell? ⟨g, i * 3, none⟩ = some (.string x.k)) ∧ (∀ n os, (grow (w.drewN n) os).cell? ⟨g, i * 3 + 1, none⟩ = some (.string x.v)) ∧ ∀ n os, (grow (w.drewN n) os).cell? ⟨g, i * 3 + 2, none⟩ = some (.bool x.g) :=
  ⟨fun n os => (h.old (below_grown_sl _ w n os (Nat.le_refl _))).at hx 0 _ rfl, fun n os => (h.old (below_grown_sl _ w n os (Nat.le_refl _))).at hx 1 _ rfl, fun n os => (h.old (below_grown_sl _ w n os (Nat.le_refl _))).at hx 2 _ rfl⟩
def InP (w : World) (g : Nat) (ex : List Value) (d : List Ed) (a b : Nat) (e : Ending) (w' : World) : Prop := SoP w g ex (fun d' => Stb d d' ∧ Out d d' a b ∧ Frm d d' a b ∧ SrtIn d' a b) e w'
set_option maxRecDepth 100000 in
set_option maxHeartbeats 8000000 in
theorem ins_any (cf : Nat) (hcf : CmpE cf) (w : World) (g cap : Nat) (d : List Ed) (ex : List Value) (h : RoE w g d ex) (hl : d.length ≤ 1000000) (a b : Nat) (hab : a ≤ b) (hb : b ≤ d.length) :
    Calls Try.prog 33 #[.slice (some ⟨g, 0, none⟩) d.length cap, .int .i64 a, .int .i64 b, .func (.func cf) #[] #[]] w (InP w g ex d a b) := by
  have eg := hcf.en
  have HC := hide hcf
  obtain ⟨ln, hln⟩ : ∃ ln, ln = d.length := ⟨_, rfl⟩
  have HLN := hide hln
  have HK0 : Hid (Kee w g ex d a b d w) := hide ⟨h, Stb.refl _, Out.refl _ _ _, Frm.refl _ _ _, Onl.refl _ _⟩
  rw [← hln] at hb hl ⊢
  clear h hln hcf
  have mixed : Try.prog.follows .mixedOrders = true := by kernel_rfl
  go_enter Try.func33, Try.ntmps33
  go_wp2
  go_loopw [8] (fun v wr => ∃ (i : Nat) (d' : List Ed), a < i ∧ (i ≤ b ∨ i = a + 1) ∧ v = .int .i64 i ∧ Hid (Kee w g ex d a b d' wr ∧ SrtIn d' a i)) (fun v _ => b + 1 - (intOf v).toNat)
  case atStart => exact ⟨a + 1, d, by omega, .inr rfl, by go_num, hide ⟨HK0.out, fun i j h1 h2 h3 => by omega⟩⟩
  case round =>
    obtain ⟨i, d1, hai, hib, rfl, HK1⟩ := hrel
    by_cases hlt : i < b
    · have hltz : decide ((i : Int) < (b : Int)) = true := decide_eq_true (by omega)
      obtain ⟨w1, rfl⟩ : ∃ w1, w1 = wr := ⟨_, rfl⟩
      go_wp2
      go_loopw [9] (fun v wr => ∃ (j : Nat) (d' : List Ed), a ≤ j ∧ j ≤ i ∧ v = .int .i64 j ∧ Hid (Kee w g ex d a b d' wr ∧ InI d' a i j)) (fun v _ => (intOf v).toNat)
      case atStart => exact ⟨i, d1, by omega, Nat.le_refl _, rfl, hide ⟨HK1.out.1, fun p q h1 h2 h3 h4 => HK1.out.2 p q h1 h2 (by omega)⟩⟩
      case round =>
        clear HK1
        obtain ⟨j, d2, haj, hji, rfl, HK2⟩ := hrel
        have hlen2 := HK2.out.1.len
        have hlen3 := HLN.out
        by_cases hja : a < j
        · obtain ⟨jp, hjp⟩ : ∃ jp, jp = j - 1 := ⟨_, rfl⟩
          have hjaz : decide ((a : Int) < (j : Int)) = true := decide_eq_true (by omega)
          have hjaz2 : (a : Int) < (j : Int) := by omega
          obtain ⟨xj, hxj⟩ : ∃ x, d2[j]? = some x := ⟨d2[j]'(by omega), List.getElem?_eq_getElem _⟩
          obtain ⟨xp, hxp⟩ : ∃ x, d2[jp]? = some x := ⟨d2[jp]'(by omega), List.getElem?_eq_getElem _⟩
          obtain ⟨j1, j2, j3⟩ := HK2.out.1.ro.grown hxj
          obtain ⟨p1, p2, p3⟩ := HK2.out.1.ro.grown hxp
          have HX := hide (And.intro (kAt_some hxj) (kAt_some hxp))
          have hcg : ∀ n os, Calls Try.prog cf #[aggE xj, aggE xp] (grow (wr.drewN n) os) fun e w' => e = .returned (.int .i64 (cmpS xj.k xp.k)) ∧ ∃ q os', w' = grow ((grow (wr.drewN n) os).drewN q) os' := fun n os => HC.out.gives xj xp _
          have HLE : Hid (cmpS xj.k xp.k < 0 ↔ sLt xj.k xp.k = true) := hide cmpS_lt
          obtain ⟨z, hz⟩ : ∃ z, z = cmpS xj.k xp.k := ⟨_, rfl⟩
          rw [← hz] at hcg HLE
          unfold aggE at hcg
          have wj : IntKind.i64.wrap ((j : Int) - 1) = (jp : Int) := by rw [IntKind.wrap_i64]; omega
          have wj2 : (j : Int) - 1 = (jp : Int) := by omega
          have wj3 : IntKind.i64.wrap (jp : Int) = (jp : Int) := by rw [IntKind.wrap_i64]; omega
          have g1 : j < ln := by omega
          have g2 : jp < ln := by omega
          have HG : Hid (∀ n os, Below wr.heap.size wr (grow (wr.drewN n) os)) := hide (fun n os => below_grown_sl _ wr n os (Nat.le_refl _))
          have HJP := hide hjp
          clear hxj hxp hz hlen2 hlen3 hjp
          by_cases hneg : z < 0
          · have hd : decide (z < 0) = true := decide_eq_true hneg
            go_wp2_with fail
            go_quiet_grown (first | (go_at_fn cf; refine Calls.grown_of (hcg _ _)))
            go_wp2_with fail
            obtain ⟨W3, hW3⟩ : ∃ W3, W3 = grow (wr.drewN nq) osq := ⟨_, rfl⟩
            have b3 : Below wr.heap.size wr W3 := by rw [hW3]; exact HG.out nq osq
            rw [← hW3]
            have K3 := HK2.out.1.grown b3
            have hl3 := K3.len
            obtain ⟨x, y, S1, S2, sw⟩ := (K3.ro.drew).swap (i := j) (j := jp) (by have := HLN.out; omega) (by have := HLN.out; omega)
            obtain ⟨l1, l2, l3, l4, s1, s2, s3, s4, ro, on⟩ := sw
            have hjj := HJP.out
            have hslt : sLt (kAt d2 j) (kAt d2 jp) = true := by rw [HX.out.1, HX.out.2]; exact HLE.out.1 hneg
            have HF : Hid (Kee w g ex d a b (swL d2 j jp) S2 ∧ InI (swL d2 j jp) a i jp) := by
              obtain rfl : j = jp + 1 := by omega
              refine hide ⟨K3.swap ro ((Onl.refl _ W3).drew.trans on) (by have := HLN.out; omega) (by omega) (by omega) (fun q => neK_lt hslt q.symm), ?_⟩
              have := HK2.out.2.step (by omega) hji (by have := HLN.out; omega) hslt
              exact this
            unfold aggE at l2 l4 s1 s2 s3 s4
            clear hW3 b3 K3 hl3 ro on hjj hslt j1 j2 j3 p1 p2 p3 hcg HK2 HG
            go_region
            go_wp2
            go_roundw
            case rel => exact ⟨jp, _, by have := HJP.out; omega, by have := HJP.out; omega, rfl, HF⟩
            case measure => have := HJP.out; simp [intOf]; omega
          · have hd : decide (z < 0) = false := decide_eq_false hneg
            have HS : Hid (SrtIn d2 a (i + 1)) := by
              refine hide (HK2.out.2.stop hji (.inr ?_))
              rw [← HJP.out, HX.out.1, HX.out.2]
              cases q : sLt xj.k xp.k with
              | false => exact q
              | true => exact absurd (HLE.out.2 q) hneg
            go_wp2_with fail
            go_quiet_grown (first | (go_at_fn cf; refine Calls.grown_of (hcg _ _)))
            go_wp2
            go_roundw
            case rel => exact ⟨i + 1, d2, by omega, .inl (by omega), by go_num, hide ⟨HK2.out.1.grown (HG.out nq osq), HS.out⟩⟩
            case measure => simp [intOf]; omega
        · have hjaz : decide ((a : Int) < (j : Int)) = false := decide_eq_false (by omega)
          have HS : Hid (SrtIn d2 a (i + 1)) := hide (HK2.out.2.stop hji (.inl (by omega)))
          clear hlen2 hlen3
          go_wp2
          go_quiet (fail)
          go_wp2
          go_roundw
          case rel => exact ⟨i + 1, d2, by omega, .inl (by omega), by go_num, hide ⟨HK2.out.1.grown (below_drewN (Below.refl _ _) _), HS.out⟩⟩
          case measure => simp [intOf]; omega
    · have hltz : decide ((i : Int) < (b : Int)) = false := decide_eq_false (by omega)
      have HF : Hid (InP w g ex d a b (.returned (.tuple #[])) wr) := hide ⟨rfl, d1, HK1.out.1.ro, ⟨HK1.out.1.stb, HK1.out.1.out, HK1.out.1.frm, HK1.out.2.sub (Nat.le_refl _) (by omega)⟩, HK1.out.1.on⟩
      go_wp2
      go_end0
      exact HF.out
end Go.Proofs.Ytbegiiihkmloiaa
