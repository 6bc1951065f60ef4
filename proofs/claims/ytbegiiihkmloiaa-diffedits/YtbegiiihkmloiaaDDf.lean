/- The document's Diff, over the translation. -/
import Derived.Test.YtbegiiihkmloiaaDKf
namespace Go.Proofs.Ytbegiiihkmloiaa
open Go.RowKit Apo
attribute [local go_sem ↓] app_exec
/-- a change of a key between two maps -/
def IsCh (es fs : List En) (c : Ch) : Prop := Gets es c.k c.was c.had ∧ Gets fs c.k c.now c.has ∧ ¬ ((c.had, c.was) = (c.has, c.now))
/-- changes between two maps -/
def DiffC (es fs : List En) (cs : List Ch) : Prop := Rise (cs.map Ch.k) ∧ ∀ c, c ∈ cs ↔ IsCh es fs c
def DfR (es fs : List En) (ks : List ByteArray) (cs : List Ch) : Prop := Rise (cs.map Ch.k) ∧ (∀ c, c ∈ cs ↔ c.k ∈ ks ∧ IsCh es fs c) ∧ cs.length ≤ ks.length
theorem DfR.nil (es fs : List En) : DfR es fs [] [] := ⟨List.Pairwise.nil, fun c => by simp, Nat.le_refl _⟩
theorem DfR.skip {es fs : List En} {ks : List ByteArray} {cs : List Ch} {key v v' : ByteArray} {b b' : Bool} (hr : RiseE es) (hr' : RiseE fs) (h : DfR es fs ks cs) (h1 : Gets es key v b) (h2 : Gets fs key v' b') (h3 : (b, v) = (b', v')) : DfR es fs (ks ++ [key]) cs := by
  refine ⟨h.1, fun c => ?_, by have := h.2.2; simp; omega⟩
  rw [h.2.1, List.mem_append, List.mem_singleton]
  constructor
  · exact fun q => ⟨.inl q.1, q.2⟩
  · rintro ⟨q | q, z⟩
    · exact ⟨q, z⟩
    · exfalso
      obtain ⟨z1, z2, z3⟩ := z
      rw [q] at z1 z2
      obtain ⟨e1, e2⟩ := gets_uniq hr z1 h1
      obtain ⟨e3, e4⟩ := gets_uniq hr' z2 h2
      exact z3 (by rw [e1, e2, e3, e4]; exact h3)
theorem DfR.put {es fs : List En} {ks : List ByteArray} {cs : List Ch} {key v v' : ByteArray} {b b' : Bool} (hr : RiseE es) (hr' : RiseE fs) (h : DfR es fs ks cs) (hk : ∀ k ∈ ks, sLt k key = true) (h1 : Gets es key v b) (h2 : Gets fs key v' b') (h3 : ¬ (b, v) = (b', v')) : DfR es fs (ks ++ [key]) (cs ++ [⟨key, b, v, b', v'⟩]) := by
  refine ⟨?_, fun c => ?_, by have := h.2.2; simp; omega⟩
  · unfold Rise
    rw [List.map_append, List.pairwise_append]
    refine ⟨h.1, by simp, fun x hx y hy => ?_⟩
    simp only [List.map_cons, List.map_nil, List.mem_singleton] at hy
    subst hy
    obtain ⟨c, hc, rfl⟩ := List.mem_map.1 hx
    exact hk _ ((h.2.1 c).1 hc).1
  · rw [List.mem_append, List.mem_singleton, List.mem_append, List.mem_singleton, h.2.1]
    constructor
    · rintro (q | rfl)
      · exact ⟨.inl q.1, q.2⟩
      · exact ⟨.inr rfl, h1, h2, h3⟩
    · rintro ⟨q | q, z⟩
      · exact .inl ⟨q, z⟩
      · right
        obtain ⟨ck, chad, cwas, chas, cnow⟩ := c
        simp only at q
        subst q
        obtain ⟨z1, z2, z3⟩ := z
        obtain ⟨e1, e2⟩ := gets_uniq hr z1 h1
        obtain ⟨e3, e4⟩ := gets_uniq hr' z2 h2
        simp only at e1 e2 e3 e4
        rw [e1, e2, e3, e4]
theorem DfR.done {es fs : List En} {ks : List ByteArray} {cs : List Ch} (h : DfR es fs ks cs) (h1 : ∀ e ∈ es, e.k ∈ ks) (h2 : ∀ e ∈ fs, e.k ∈ ks) : DiffC es fs cs := by
  refine ⟨h.1, fun c => ⟨fun q => ((h.2.1 c).1 q).2, fun q => (h.2.1 c).2 ⟨?_, q⟩⟩⟩
  obtain ⟨z1, z2, z3⟩ := q
  rcases z1 with ⟨_, e, he, hk, _⟩ | ⟨a1, a2, _⟩
  · rw [← hk]; exact h1 e he
  · rcases z2 with ⟨_, e, he, hk, _⟩ | ⟨a3, a4, _⟩
    · rw [← hk]; exact h2 e he
    · exact absurd (by rw [a1, a2, a3, a4]) z3
/-- the same changes are told once -/
theorem DiffC.uniq {es fs : List En} {cs cs' : List Ch} (h : DiffC es fs cs) (h' : DiffC es fs cs') : cs = cs' := by
  obtain ⟨r, m⟩ := h
  obtain ⟨r', m'⟩ := h'
  have hm : ∀ c, c ∈ cs ↔ c ∈ cs' := fun c => (m c).trans (m' c).symm
  clear m m'
  induction cs generalizing cs' with
  | nil =>
    cases cs' with
    | nil => rfl
    | cons c l => exact absurd ((hm c).2 (by simp)) (by simp)
  | cons c l ih =>
    cases cs' with
    | nil => exact absurd ((hm c).1 (by simp)) (by simp)
    | cons c' l' =>
      unfold Rise at r r'
      rw [List.map_cons, List.pairwise_cons] at r r'
      have hcc : c = c' := by
        rcases List.mem_cons.1 ((hm c).1 (by simp)) with q | q
        · exact q
        · rcases List.mem_cons.1 ((hm c').2 (by simp)) with q' | q'
          · exact q'.symm
          · have z1 := r'.1 c.k (List.mem_map.2 ⟨c, q, rfl⟩)
            have z2 := r.1 c'.k (List.mem_map.2 ⟨c', q', rfl⟩)
            have := sLt_trans z1 z2
            rw [sLt_irr] at this
            cases this
      subst hcc
      congr 1
      refine ih r.2 r'.2 (fun x => ?_)
      constructor
      · intro hx
        rcases List.mem_cons.1 ((hm x).1 (by simp [hx])) with q | q
        · have := r.1 x.k (List.mem_map.2 ⟨x, hx, rfl⟩)
          rw [q, sLt_irr] at this
          cases this
        · exact q
      · intro hx
        rcases List.mem_cons.1 ((hm x).2 (by simp [hx])) with q | q
        · have := r'.1 x.k (List.mem_map.2 ⟨x, hx, rfl⟩)
          rw [q, sLt_irr] at this
          cases this
        · exact q
set_option maxRecDepth 100000 in
set_option maxHeartbeats 8000000 in
theorem rdiff_any (w : World) (a b : Option Addr) (ca cb : Nat) (es fs : List En) (ha : RdEn w a es) (hb : RdEn w b fs) (hla : es.length ≤ 100000) (hlb : fs.length ≤ 100000) (hra : RiseE es) (hrb : RiseE fs) :
    Calls Try.prog 10 #[.slice a es.length ca, .slice b fs.length cb] w (ChP (DiffC es fs) w) := by
  have CG1 : ∀ W key, Below w.heap.size w W → Calls Try.prog 23 #[.slice a es.length ca, .string key] W (RgP es key W) := fun W key hW => rget_any W a ca es key (ha.below hW) (by omega)
  have CG2 : ∀ W key, Below w.heap.size w W → Calls Try.prog 23 #[.slice b fs.length cb, .string key] W (RgP fs key W) := fun W key hW => rget_any W b cb fs key (hb.below hW) (by omega)
  obtain ⟨W0, hW0⟩ : ∃ W0, W0 = w.alloc (.cells #[.slice a es.length ca, .slice b fs.length cb] 22) := ⟨_, rfl⟩
  have b0 : Below w.heap.size w W0 := by rw [hW0]; exact (Below.refl _ w).alloc (Nat.le_refl _) _
  have k0 : Ob W0 w.heap.size 22 [.slice a es.length ca, .slice b fs.length cb] := by rw [hW0]; exact Ob.new w [.slice a es.length ca, .slice b fs.length cb] 22
  have hM : RdM W0 (some ⟨w.heap.size, 0, none⟩) [(a, ca, es), (b, cb, fs)] := by
    intro i m hm
    match i with
    | 0 => simp at hm; subst hm; exact ⟨⟨_, _, rfl, by simpa using k0.cell 0⟩, ha.below b0⟩
    | 1 => simp at hm; subst hm; exact ⟨⟨_, _, rfl, by simpa using k0.cell 1⟩, hb.below b0⟩
    | i + 2 => simp at hm
  have CK := rkeys_any W0 _ 2 [(a, ca, es), (b, cb, fs)] hM (by simp) (by simp; omega)
  rw [show [(a, ca, es), (b, cb, fs)].length = 2 from rfl] at CK
  obtain ⟨n, hn⟩ : ∃ n, n = es.length := ⟨_, rfl⟩
  obtain ⟨m, hm⟩ : ∃ m, m = fs.length := ⟨_, rfl⟩
  rw [← hn] at CG1 hW0 ⊢
  rw [← hm] at CG2 hW0 ⊢
  have HCK := hide CK
  have HG1 := hide CG1
  have HG2 := hide CG2
  have HRR := hide (And.intro hra hrb)
  have HLL := hide (And.intro hla hlb)
  have HB0 := hide b0
  clear CK CG1 CG2 hM k0 b0 ha hb hn hm hra hrb hla hlb
  go_enter Try.func10, Try.ntmps10
  go_wp2_with fail
  rw [← hW0]
  clear hW0
  refine HCK.out.mono ?_
  rintro e' w1 ⟨ks, ka, kc, rfl, hks, krow, kb⟩
  obtain ⟨ln, hln⟩ : ∃ ln, ln = ks.length := ⟨_, rfl⟩
  rw [← hln] at krow
  rw [← hln]
  have hlk : ln ≤ 1000000 := by have h1 := hks.len; have h2 := HLL.out; simp at h1; omega
  have b1 : Below w.heap.size w w1 := HB0.out.trans (kb.mono HB0.out.size)
  have HKS := hide hks
  have HLN := hide hln
  rw [hln] at krow
  obtain ⟨a', cp', hv', rd', _⟩ := rd_gcells cTx_len krow
  injection hv' with e1 e2 e3
  subst e1 e3
  have HRD := hide rd'
  have HB1 := hide b1
  clear hks hln krow kb rd' b1 e2 HCK HB0
  go_wp2
  go_loopw [5, 15] (fun v i wr => ∃ (j : Nat) (cs : List Ch) (va : Option Addr) (vc nk : Nat), j ≤ ln ∧ i = .int .i64 j ∧ v = .slice va nk vc ∧ Hid (nk = cs.length) ∧ Hid (DfR es fs (ks.take j) cs) ∧ Hid (Row (fun g => w1.heap.size ≤ g) wr 35 5 (.slice va cs.length vc) cs.length (gcells cCh cs)) ∧ Hid (Below w1.heap.size w1 wr)) (fun _ i _ => ln - (intOf i).toNat)
  case atStart => exact ⟨0, [], none, 0, 0, Nat.zero_le _, rfl, rfl, hide rfl, hide (by simpa using DfR.nil es fs), hide (Row.nil _ _ _ _), hide (Below.refl _ _)⟩
  case round =>
    obtain ⟨j, cs, va, vc, nk, hj, rfl, rfl, HNK, HD, HRW, HBr⟩ := hrel
    by_cases hjn : j < ln
    · obtain ⟨key, hx⟩ : ∃ x, ks[j]? = some x := ⟨ks[j]'(by have := HLN.out; omega), List.getElem?_eq_getElem _⟩
      obtain ⟨g, o, rfl, c0⟩ := (HRD.out.below HBr.out).tx hx
      have hB2 := HB1.out.trans (HBr.out.mono HB1.out.size)
      have HB2 := hide hB2
      have HC1 := hide (HG1.out wr key hB2)
      have HX := hide hx
      clear hB2 hx
      go_wp2_with fail
      refine HC1.out.mono ?_
      rintro e' w2 ⟨v1, b1, rfl, g1, bb2⟩
      have HC2 := hide (HG2.out w2 key (HB2.out.trans (bb2.mono HB2.out.size)))
      have HGE1 := hide g1
      have HBB2 := hide bb2
      clear g1 bb2 HC1
      go_wp2_with fail
      refine HC2.out.mono ?_
      rintro e' w4 ⟨v2, b2, rfl, g2, bb4⟩
      have hb4 : Below wr.heap.size wr w4 := HBB2.out.trans (bb4.mono HBB2.out.size)
      obtain ⟨w5, hw5⟩ : ∃ w5, w5 = (w4.alloc (.cells #[.bool b1, .string v1] 49)).alloc (.cells #[.bool b2, .string v2] 49) := ⟨_, rfl⟩
      have bb5 : Below w4.heap.size w4 w5 := by rw [hw5]; exact ((Below.refl _ w4).alloc (Nat.le_refl _) _).alloc (by simp) _
      have s5 : w5.heap.size = w4.heap.size + 2 := by rw [hw5]; simp
      have k5 : Ob w5 w4.heap.size 49 [.bool b1, .string v1] := by rw [hw5]; exact (Ob.new w4 [.bool b1, .string v1] 49).alloc _
      have k6 : Ob w5 (w4.heap.size + 1) 49 [.bool b2, .string v2] := by
        rw [hw5]
        have := Ob.new (w4.alloc (.cells #[.bool b1, .string v1] 49)) [.bool b2, .string v2] 49
        rw [World.size_alloc] at this
        exact this
      have hb5 : Below wr.heap.size wr w5 := hb4.trans (bb5.mono hb4.size)
      have row5 := HRW.out.onl (F := fun _ => False) (Onl.ofBelow hb5) (fun _ _ q => q)
      have y0 := k5.cell 0
      have y1 := k5.cell 1
      have x0 := k6.cell 0
      have x1 := k6.cell 1
      simp only [List.getElem?_cons_zero, List.getElem?_cons_succ] at y0 y1 x0 x1
      have hcmp := neqSd b1 b2 v1 v2
      have hgd : Try.prog.eqGuardType Try.prog.depth 49 = false := by kernel_rfl
      have htk : ks.take (j + 1) = ks.take j ++ [key] := by rw [List.take_add_one, HX.out]; rfl
      have hlt : ∀ k ∈ ks.take j, sLt k key = true := fun k hk => by
        obtain ⟨t, ht, rfl⟩ := List.mem_iff_getElem.1 hk
        simp only [List.length_take] at ht
        rw [List.getElem_take]
        have hq := (List.getElem?_eq_some_iff.1 HX.out)
        rw [← hq.2]
        exact List.pairwise_iff_getElem.1 HKS.out.rise t j (by omega) hq.1 (by omega)
      have HB5 := hide (HBr.out.trans (hb5.mono HBr.out.size))
      have hsz5 : w1.heap.size ≤ w5.heap.size := HB5.out.size
      by_cases heq : (b1, v1) = (b2, v2)
      · rw [decide_eq_true heq] at hcmp
        simp only [Bool.not_true] at hcmp
        have HF : Hid (DfR es fs (ks.take (j + 1)) cs) := by
          rw [htk]
          exact hide (HD.out.skip HRR.out.1 HRR.out.2 HGE1.out g2 heq)
        have HRF := hide row5
        rw [hw5] at y0 y1 x0 x1 HB5 HRF
        clear hw5 k5 k6 bb5 s5 row5 hb5 hb4 bb4 g2 heq htk hlt
        go_wp2
        go_roundw
        case rel => exact ⟨j + 1, cs, va, vc, nk, by omega, by simp, rfl, HNK, HF, HRF, HB5⟩
        case measure => simp [intOf]; omega
      · rw [decide_eq_false heq] at hcmp
        simp only [Bool.not_false] at hcmp
        obtain ⟨x, hx⟩ : ∃ x : Ch, x = ⟨key, b1, v1, b2, v2⟩ := ⟨_, rfl⟩
        obtain ⟨w6, hw6⟩ : ∃ w6, w6 = w5.alloc (.cells (cCh x).toArray 35) := ⟨_, rfl⟩
        have bb6 : Below w5.heap.size w5 w6 := by rw [hw6]; exact (Below.refl _ w5).alloc (Nat.le_refl _) _
        have row6 := row5.onl (F := fun _ => False) (Onl.ofBelow bb6) (fun _ _ q => q)
        have rd6 : RdG cCh 5 w6 (some ⟨w5.heap.size, 0, none⟩) [x] := by rw [hw6]; exact rd_lit _ _ x
        obtain ⟨v8, w8, RR, r8, o8, ow8⟩ := app_ch (cp := 1) row6 (by have := HD.out.2.2; simp at this; simp; omega) rd6
        obtain ⟨va8, vc8, hva8, _⟩ := r8.form
        obtain ⟨n8, hn8⟩ : ∃ n8, n8 = (cs ++ [x]).length := ⟨_, rfl⟩
        rw [hva8] at r8 RR
        rw [show [x].length = 1 from rfl, ← hn8, ← HNK.out] at RR
        have hs6 : w6.heap.size = w5.heap.size + 1 := by rw [hw6, World.size_alloc]
        have hb8 : Below w1.heap.size w1 w8 := Below.onl (HB5.out.trans (bb6.mono hsz5)) o8 (fun i q => HRW.out.2 i q) (Nat.le_refl _)
        have HB8 := hide hb8
        have HF : Hid (DfR es fs (ks.take (j + 1)) (cs ++ [x])) := by
          rw [htk, hx]
          exact hide (HD.out.put HRR.out.1 HRR.out.2 hlt HGE1.out g2 heq)
        have HRF : Hid (Row (fun g => w1.heap.size ≤ g) w8 35 5 (.slice va8 (cs ++ [x]).length vc8) (cs ++ [x]).length (gcells cCh (cs ++ [x]))) := hide ⟨r8.1, fun g hg => (r8.2 g hg).elim (fun z => z) (fun z => by omega)⟩
        have HN8 := hide hn8
        rw [hw6, hx] at RR
        simp only [cCh] at RR
        rw [hw5] at RR y0 y1 x0 x1
        simp only [World.size_alloc] at RR
        obtain ⟨z1, z2, z3⟩ := app_runs RR
        clear hw5 k5 k6 bb5 s5 row5 hb5 hb4 bb4 g2 heq htk hlt hw6 bb6 row6 rd6 r8 o8 ow8 hva8 hn8 hs6 hb8 RR HB5 hsz5
        go_wp2
        go_roundw
        case rel => exact ⟨j + 1, cs ++ [x], va8, vc8, n8, by omega, by simp, rfl, HN8, HF, HRF, HB8⟩
        case measure => simp [intOf]; omega
    · have HF : Hid (ChP (DiffC es fs) w (.returned (.slice va nk vc)) wr) := by
        have hD := HD.out
        rw [List.take_of_length_le (by have := HLN.out; omega)] at hD
        refine hide ⟨cs, va, vc, by rw [HNK.out], hD.done (fun e he => (HKS.out.mem _).2 (by simp; exact .inl ⟨e, he, rfl⟩)) (fun e he => (HKS.out.mem _).2 (by simp; exact .inr ⟨e, he, rfl⟩)), HRW.out.mono (fun g hg => by have := HB1.out.size; omega), HB1.out.trans (HBr.out.mono HB1.out.size)⟩
      clear HD HRW
      go_wp2
      go_ret
      exact HF.out
end Go.Proofs.Ytbegiiihkmloiaa
