/- What the program's last does: a sector as it was written last. Over the translation. -/
import Derived.Test.YtdpbkmbegjcgjaaCBk
import Derived.BigRegionIn
namespace Go.Proofs.Ytdpbkmbegjcgjaa
open Go.RowKit Go.Shelf Apo
attribute [local go_sem] Oper.semAt_some
attribute [local go_sem ↓] ld_sem65 ld_sem67 st_sem65 st_sem67 al_sem65 al_sem67 ld_exec65 ld_exec67 st_exec65 st_exec67 al_exec65 al_exec67

/-- the whole of a sector's variable is stored -/
theorem st_sec_ob {W : World} {g : Nat} {q r : List Int} (hq : Len32 q) (hr : Len32 r) (h : Ob W g 78 (secV q)) : ∃ W', (StRuns Try.prog W 78 (.pointer (some ⟨g, 0, none⟩)) (.agg (secA r)) ∧ stWld Try.prog W 78 (.pointer (some ⟨g, 0, none⟩)) (.agg (secA r)) = W') ∧ Ob W' g 78 (secV r) ∧ Onl (fun k => k = g) W W' := by
  obtain ⟨W', h1, h2, h3⟩ := run_storeAt_cells (P := Try.prog) (w := W) 78 78 g 0 (secV q) (secV r) (by rw [size_sec]; simp [secV, hr.len]) (secV_one _) h (by simp [secV, hq.len, hr.len])
  have e : over (secV q) 0 (secV r) = secV r := by
    have : (secV r).length = (secV q).length := by simp [secV, hq.len, hr.len]
    simp [over, this]
  rw [e] at h2
  exact ⟨W', st_runs h1, h2, h3⟩
theorem grown_onl {W W' : World} {g : Nat} (h : Onl (fun k => k = g) W W') : W.grownBy W' (some g) := ⟨h.os, h.tape, h.output, h.size, fun i hi hr => h.block i hi (fun e => hr (by rw [e]))⟩
theorem ob_own {β : Type} (B : Nat) (t : TypeId) (f : β → List Value) : Own (fun s W => Ob W B t (f s)) := fun s X Y row hs hg hrow =>
  hs.kept hg (fun e' => by obtain ⟨o, ho, hc⟩ := hrow B e'; rw [show X.heap[B]? = _ from hs] at ho; cases ho; cases hc)

/-! the last of the cached writes of a sector -/
theorem lastOf_none : ∀ {C : List (Nat × List Int)} {i : Nat} (b : List Int), (∀ x ∈ C, x.1 ≠ i) → lastOf C i b = b
  | [], _, _, _ => rfl
  | x :: C, i, b, h => by
    have h1 := h x (by simp)
    have h2 := lastOf_none (C := C) b (fun y hy => h y (by simp [hy]))
    simp only [lastOf, List.foldl_cons, if_neg h1] at h2 ⊢
    exact h2
theorem lastOf_some {C : List (Nat × List Int)} {i q : Nat} {x : Nat × List Int} (b : List Int) (hx : C[q]? = some x) (hi : x.1 = i) (h : ∀ r y, q < r → C[r]? = some y → y.1 ≠ i) : lastOf C i b = x.2 := by
  have hq : q < C.length := (List.getElem?_eq_some_iff.1 hx).1
  have e : C = C.take q ++ (x :: C.drop (q + 1)) := by
    have := List.take_append_drop q C
    rw [List.drop_eq_getElem_cons hq] at this
    rw [← (List.getElem?_eq_some_iff.1 hx).2]
    exact this.symm
  rw [e]
  have h2 := lastOf_none (C := C.drop (q + 1)) (i := i) x.2 (fun y hy => by
    obtain ⟨k, hk⟩ := List.getElem?_of_mem hy
    rw [List.getElem?_drop] at hk
    exact h (q + 1 + k) y (by omega) hk)
  simp only [lastOf, List.foldl_append, List.foldl_cons, if_pos hi] at h2 ⊢
  exact h2
theorem last_all {C : List (Nat × List Int)} {hC : ∀ x ∈ C, Sec x.2} {i : Nat} (b : List Int) (h : ∀ y ∈ upto (wxAt C hC) C.length, y.x.1 ≠ i) : lastOf C i b = b := by
  refine lastOf_none b (fun x hx => ?_)
  obtain ⟨k, hk⟩ := List.getElem?_of_mem hx
  have hkl := (List.getElem?_eq_some_iff.1 hk).1
  have := h (wxAt C hC (C.length - 1 - k)) (by simp only [upto, List.mem_map, List.mem_range]; exact ⟨C.length - 1 - k, by omega, rfl⟩)
  have e : C.length - 1 - (C.length - 1 - k) = k := by omega
  simp only [wxAt, e, List.getD, hk] at this
  exact this
theorem last_at {C : List (Nat × List Int)} {hC : ∀ x ∈ C, Sec x.2} {i k : Nat} (b : List Int) (hk : k ≤ C.length) {ini : List Wx} {z : Wx} (e : upto (wxAt C hC) k = ini ++ [z]) (h : ∀ y ∈ ini, y.x.1 ≠ i) (hz : z.x.1 = i) : lastOf C i b = z.x.2 := by
  obtain ⟨k', rfl⟩ : ∃ k', k = k' + 1 := by
    cases k with
    | zero => simp [upto] at e
    | succ k' => exact ⟨k', rfl⟩
  rw [upto_succ] at e
  obtain ⟨rfl, e5⟩ := List.append_inj' e rfl
  obtain rfl : wxAt C hC k' = z := by simpa using e5
  have hq : C.length - 1 - k' < C.length := by omega
  have hx : C[C.length - 1 - k']? = some C[C.length - 1 - k'] := List.getElem?_eq_getElem hq
  have ex : (wxAt C hC k').x = C[C.length - 1 - k'] := by simp [wxAt, List.getD, hx]
  rw [ex] at hz ⊢
  refine lastOf_some b hx hz (fun r y hr hy => ?_)
  have hrl := (List.getElem?_eq_some_iff.1 hy).1
  have := h (wxAt C hC (C.length - 1 - r)) (by simp only [upto, List.mem_map, List.mem_range]; exact ⟨C.length - 1 - r, by omega, rfl⟩)
  have e : C.length - 1 - (C.length - 1 - r) = r := by omega
  simp only [wxAt, e, List.getD, hy] at this
  exact this

set_option maxRecDepth 100000 in
set_option maxHeartbeats 4000000 in
theorem clast_in {O : Nat → Prop} {w : World} {p : Nat} {st : Sd} {vK vC : Value} {m : Nat} {lf : Int} (h : CParts O w p st vK vC m lf) (hc : st.C.length ≤ 1099511627776) (i : Nat) (hi : i < st.S.length) :
    CallsIn Fence.wide 3 Try.prog 43 #[.pointer (some ⟨p, 0, none⟩), .int .i64 i] w fun e W' => e = .returned (.agg (secA (lastOf st.C i (st.S.getD i [])))) ∧ Below w.heap.size w W' := by
  have h1 : 1 ≤ 3 := by omega
  have hro : Fence.wide.round = none := rfl
  have h33 : Fence.wide.fn 43 := trivial
  have h40 : Fence.wide.fn 45 := trivial
  have h42 : Fence.wide.fn 46 := trivial
  have c2 := h.ob.cell 2
  obtain ⟨ca, ccap, hvC, hc1, hc2, hc3, hc4⟩ := h.sC.form
  subst hvC
  simp only [List.getElem?_cons_zero, List.getElem?_cons_succ] at c2
  have hplt := h.ob.lt
  have H := hide h
  have HC := hide hc4
  have HC3 := hide hc3
  clear h hc4 hc3
  refine callsIn_of_wp_marks Try.func43 rfl h33 ?_ hro
  simp only [Try.ntmps43, List.size_toArray, List.length_cons, List.length_nil, Nat.reduceAdd, Nat.reduceSub, Array.replicate_succ, Array.replicate_zero, List.push_toArray, List.append_toArray, List.nil_append, List.cons_append]
  gi_wp2_with (gi_at_call 45; refine (cback_in Fence.wide _ h40 hro _ _ _ _).mono ?_; rintro e w' ⟨rfl, rfl⟩)
  have bA : Boxed (((w.alloc (.cells #[.int .i64 i] 3)).alloc (.cells (zc Try.prog 78) 78)).alloc (.cells #[.slice ca st.C.length ccap] 70)) w.heap.size 3 (.int .i64 i) := ((Boxed.new w 3 (.int .i64 i)).alloc _).alloc _
  have bR : Ob (((w.alloc (.cells #[.int .i64 i] 3)).alloc (.cells (zc Try.prog 78) 78)).alloc (.cells #[.slice ca st.C.length ccap] 70)) (w.heap.size + 1) 78 (secV zeros) := by
    have := (Ob.new (w.alloc (.cells #[.int .i64 i] 3)) (secV zeros) 78).alloc (.cells #[.slice ca st.C.length ccap] 70)
    rw [World.size_alloc] at this
    rw [zc_sec]
    exact this
  have bS := Boxed.new ((w.alloc (.cells #[.int .i64 i] 3)).alloc (.cells (zc Try.prog 78) 78)) 70 (.slice ca st.C.length ccap)
  simp only [World.size_alloc] at bS
  have hB0 : Below w.heap.size w (((w.alloc (.cells #[.int .i64 i] 3)).alloc (.cells (zc Try.prog 78) 78)).alloc (.cells #[.slice ca st.C.length ccap] 70)) := (((Below.refl _ w).alloc (Nat.le_refl _) _).alloc (by simp) _).alloc (by simp; omega) _
  have hsz : (((w.alloc (.cells #[.int .i64 i] 3)).alloc (.cells (zc Try.prog 78) 78)).alloc (.cells #[.slice ca st.C.length ccap] 70)).heap.size = w.heap.size + 3 := by simp
  obtain ⟨W0, hW0⟩ : ∃ W0, ((w.alloc (.cells #[.int .i64 i] 3)).alloc (.cells (zc Try.prog 78) 78)).alloc (.cells #[.slice ca st.C.length ccap] 70) = W0 := ⟨_, rfl⟩
  rw [hW0] at bA bR bS hB0 hsz ⊢
  clear hW0
  have hS : ∀ x ∈ st.C, Sec x.2 := fun x hx => (H.out.ok.cach x hx).2
  have P0 := H.out.kept (Onl.ofBelow hB0)
  refine wpIn_rangeFunc_ownH hro h1 (gf := 46) (lb := #[.pointer (some ⟨w.heap.size + 1 + 1, 0, none⟩)]) rfl h42 (enters_of Try.func46 (by kernel_rfl) rfl)
    (cback_stops Fence.wide 2 h42 hro (by omega) (w.heap.size + 1 + 1) W0.heap.size ca ccap st.C hS hc W0 (by omega) (Nat.le_refl _) bS.cell
      (fun e => ⟨List.eq_nil_of_length_eq_zero (by have := HC3.out e; omega), HC3.out e⟩)
      (fun x e => by
        obtain ⟨g, rfl, _⟩ := HC.out x e
        subst e
        refine ⟨g, rfl, P0.sC.lt g rfl, fun k y hy j hj => ?_⟩
        have hlen : ∀ y ∈ st.C, (wrV y).length = 33 := fun y hy => by simp [wrV, secV, (hS y hy).1]
        have hk : k < st.C.length := (List.getElem?_eq_some_iff.1 hy).1
        exact (P0.sC.1.cellAt _ (by omega)).trans (flat_at hlen hy hj)))
    belowK_t (belowK_b (Nat.le_refl _)) (Below.refl _ _) (fun _ => rfl)
    (fun pre W => (((∀ y ∈ pre, y.x.1 ≠ i) ∧ Ob W (w.heap.size + 1) 78 (secV zeros)) ∧ Boxed W w.heap.size 3 (.int .i64 i)) ∧ (W0.heap.size ≤ W.heap.size ∧ Below w.heap.size w W))
    (fun c pre W => ((c = .ret ∧ ∃ ini last, pre = ini ++ [last] ∧ (∀ y ∈ ini, y.x.1 ≠ i) ∧ last.x.1 = i ∧ Ob W (w.heap.size + 1) 78 (secV last.x.2))) ∧ Below w.heap.size w W)
    (OwnFrom.and (OwnFrom.and (OwnFrom.and (ownFrom_pure _ _) (Own.from (ob_own _ _ _) _)) (Own.from (boxed_own _ _ _) _)) (OwnFrom.and (fun _ _ _ _ hs hg _ => Nat.le_trans hs hg.size) (ownFrom_below (Nat.le_refl _) (by omega))))
    (fun c => OwnFrom.and (fun s A B row hs hg hr => by obtain ⟨hcc, ini, last, e1, e2, e3, e4⟩ := hs; exact ⟨hcc, ini, last, e1, e2, e3, ob_own (w.heap.size + 1) 78 (fun (_ : Unit) => secV last.x.2) () A B row e4 hg (fun r e => (hr r e).2)⟩) (ownFrom_below (Nat.le_refl _) (by omega)))
    ⟨⟨⟨by simp, bR⟩, bA⟩, Nat.le_refl _, hB0⟩
    (fun x a' W => ∃ Bx, w.heap.size + 2 < Bx ∧ Ob W Bx 80 (wrV x.x) ∧ a' = { tmps := #[.pointer (some ⟨p, 0, none⟩), .int .i64 i, undef, .pointer (some ⟨w.heap.size, 0, none⟩), .pointer (some ⟨w.heap.size + 1, 0, none⟩), undef, .pointer (some ⟨Bx, 0, none⟩), .pointer (some ⟨p, 0, none⟩), .pointer (some ⟨p, 0, none⟩), .pointer (some ⟨p, 2, none⟩), .slice ca st.C.length ccap, .func (.func 46) #[] #[.pointer (some ⟨w.heap.size + 1 + 1, 0, none⟩)], .int .i64 (x.i : Int), .agg (wrA x.x), undef, undef, undef, undef, undef, undef, undef, undef, undef, undef, undef, undef, undef], defers := [] })
    (fun x a' _ X Y row hs hg hr => by obtain ⟨Bx, e1, e2, e3⟩ := hs; exact ⟨Bx, e1, ob_own Bx 80 (fun (_ : Unit) => wrV x.x) () X Y row e2 hg (fun r e => (hr r e).2), e3⟩)
    ?assign ?body ?done ?stop
  case assign =>
    rintro l pre x W K hI hK
    obtain ⟨s1, s2⟩ := st_new_wri W (x := x.x) ⟨x.ok.1⟩
    obtain ⟨⟨⟨hne, hR⟩, hA⟩, hsW, hB⟩ := hI
    gi_wp2
    exact hK _ _ ((KeepsOthers.alloc _ _).from _) ((Below.refl _ W).alloc hsW _) ⟨⟨⟨hne, hR.alloc _⟩, hA.alloc _⟩, by simp; omega, hB.alloc (by omega) _⟩ ⟨W.heap.size, by omega, Ob.new W (wrV x.x) 80, rfl⟩
  case body =>
    rintro l pre x a' W hl ⟨r, hr⟩ ⟨⟨⟨hne, hR⟩, hA⟩, hsW, hB⟩ ⟨Bx, hBx, bX, rfl⟩ hlt
    have x0 : W.cell? ⟨Bx, 0, none⟩ = some (.int .i64 x.x.1) := by have := bX.cell 0; simpa [wrV] using this
    have a0 := hA.cell
    by_cases hxi : x.x.1 = i
    · have hq : ((x.x.1 : Int) == (i : Int)) = true := by simp [hxi]
      obtain ⟨l1, l2⟩ := ld_sec (w := W) (g := Bx) (o := 1) (r := x.x.2) ⟨x.ok.1⟩ (fun j hj => by
        have := bX.cell (1 + j)
        rw [Nat.add_comm 1 j] at this ⊢
        simpa [wrV] using this)
      obtain ⟨W', ⟨s1, s2⟩, k1, o1⟩ := st_sec_ob zeros32 ⟨x.ok.1⟩ hR
      have HK := hide k1
      have HO := hide o1
      have HX := hide hxi
      have HR := hide hR
      clear k1 o1 hxi hR
      gi_wp2
      refine ⟨KeepsFrom.of_grownBy (grown_onl HO.out) (fun j e => by cases e; omega), ⟨rfl, pre, x, rfl, hne, HX.out, HK.out⟩, hB.grown (grown_onl HO.out) hB.size (fun k e => by cases e; omega)⟩
    · have hq : ((x.x.1 : Int) == (i : Int)) = false := by simp; omega
      have HX := hide hxi
      clear hxi
      gi_wp2
      exact ⟨KeepsFrom.refl _ _, Below.refl _ _, ⟨⟨fun y hy => (List.mem_append.1 hy).elim (hne y) (fun e => by simp at e; subst e; exact HX.out), hR⟩, hA⟩, hsW, hB⟩
  case done =>
    rintro D ys W hD rfl ⟨⟨⟨hne, hR⟩, hA⟩, hsW, hB⟩ hK
    have hl := last_all (st.S.getD i []) hne
    have PW := H.out.kept (Onl.ofBelow hB)
    obtain ⟨gs, scap, hvK, hgs, hgslt, hsl, hsm, hscell, _⟩ := PW.sS.shape (by omega)
    subst hvK
    have c1 := PW.ob.cell 1
    simp only [List.getElem?_cons_zero, List.getElem?_cons_succ] at c1
    have hr0 : st.S[i]? = some st.S[i] := List.getElem?_eq_getElem hi
    have hS0 : Sec st.S[i] := PW.ok.secs _ (List.getElem_mem hi)
    have hgd : st.S.getD i [] = st.S[i] := by simp [List.getD, hi]
    rw [hgd] at hl
    generalize hrr : st.S[i] = r0 at hr0 hS0 hl hgd
    clear hrr
    have hlen : ∀ y ∈ st.S, (secV y).length = 32 := fun y hy => by simp [secV, (PW.ok.secs y hy).1]
    obtain ⟨l1, l2⟩ := ld_sec (w := W.drew) (g := gs) (o := i * 32) (r := r0) ⟨hS0.1⟩ (fun j hj => (hscell _ (by omega)).trans (flat_at hlen hr0 hj))
    have hRd : Ob W.drew (w.heap.size + 1) 78 (secV zeros) := hR
    obtain ⟨W', ⟨s1, s2⟩, k1, o1⟩ := st_sec_ob zeros32 (r := r0) ⟨hS0.1⟩ hRd
    have a0 := hA.cell
    have hsz2 := PW.ok.size
    have HK := hide k1
    have HO := hide o1
    have HR := hide hR
    have HS := hide hscell
    have HP := hide PW
    have HH := hide hK
    have HL := hide hl
    have HG := hide hgd
    have HL2 := hide hlen
    have H0 := hide hr0
    clear k1 o1 hR hscell PW hK hl hlen hr0 hgd hRd
    gi_wp2
    gi_region
    gi_wp2
    have hK' : W'.heap[D]? = some (.deferred (some [])) := by
      refine Eq.trans (HO.out.block D ?_ ?_) HH.out
      · exact (Array.getElem?_eq_some_iff.1 HH.out).1
      · intro e
        have q := HR.out
        unfold Ob at q
        rw [← e, HH.out] at q
        cases q
    refine ⟨by simp, .inl ⟨_, _, rfl, run_takeDeferred hK', ?_⟩⟩
    have hob : Ob (W'.putObj D (.deferred none)) (w.heap.size + 1) 78 (secV r0) := ob_own (w.heap.size + 1) 78 (fun (_ : Unit) => secV r0) () W' _ (some D) HK.out (grownBy_putObj' _ D (.deferred none)) (fun r e => by cases e; exact ⟨_, hK', rfl⟩)
    refine ⟨.agg (secA r0), results_cell_row rfl _ _ (w.heap.size + 1) 78 (secA r0) (0, 0) _ (by simp) hob Try.underlying78 rfl (by rw [secA_size ⟨hS0.1⟩]; exact size_sec), by rw [HG.out, HL.out], ?_⟩
    have b1 : Below w.heap.size w W' := hB.drew.grown (grown_onl HO.out) hB.size (fun k e => by cases e; omega)
    exact b1.trans (belowK_b (w := w) (Nat.le_refl _) _ D _ _ (by omega) hK' rfl rfl)
  case stop =>
    rintro D c pre W hD ⟨k, hk, rfl⟩ ⟨⟨rfl, ini, last, e1, e2, e3, hcr⟩, hB⟩ hK
    gi_wp2
    refine ⟨by simp, .inl ⟨_, _, rfl, run_takeDeferred hK, ?_⟩⟩
    have hob : Ob (W.putObj D (.deferred none)) (w.heap.size + 1) 78 (secV last.x.2) := ob_own (w.heap.size + 1) 78 (fun (_ : Unit) => secV last.x.2) () W _ (some D) hcr (grownBy_putObj' _ D (.deferred none)) (fun r e => by cases e; exact ⟨_, hK, rfl⟩)
    refine ⟨.agg (secA last.x.2), results_cell_row rfl _ _ (w.heap.size + 1) 78 (secA last.x.2) (0, 0) _ (by simp) hob Try.underlying78 rfl (by rw [secA_size ⟨last.ok.1⟩]; exact size_sec), by rw [last_at (st.S.getD i []) hk e1 e2 e3], ?_⟩
    exact hB.trans (belowK_b (w := w) (Nat.le_refl _) _ D _ _ (by omega) hK rfl rfl)

theorem clast_any {O : Nat → Prop} {w : World} {p : Nat} {st : Sd} {vK vC : Value} {m : Nat} {lf : Int} (h : CParts O w p st vK vC m lf) (hc : st.C.length ≤ 1099511627776) (i : Nat) (hi : i < st.S.length) :
    Calls Try.prog 43 #[.pointer (some ⟨p, 0, none⟩), .int .i64 i] w fun e W' => e = .returned (.agg (secA (lastOf st.C i (st.S.getD i [])))) ∧ Below w.heap.size w W' := callsIn_wide.1 (clast_in h hc i hi)
end Go.Proofs.Ytdpbkmbegjcgjaa
