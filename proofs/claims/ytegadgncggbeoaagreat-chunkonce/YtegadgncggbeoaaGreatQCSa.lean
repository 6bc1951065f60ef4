/- What the program's super.Save does, over the translation. -/
import Derived.Test.YtegadgncggbeoaaGreatQGSp
import Derived.Test.YtegadgncggbeoaaGreatQGDf
import Derived.Test.YtegadgncggbeoaaGreatQCWr
import Derived.Test.YtegadgncggbeoaaGreatQGLr
namespace Go.Proofs.YtegadgncggbeoaaGreat
open Go.RowKit Apo

set_option maxRecDepth 100000 in
set_option maxHeartbeats 4000000 in
theorem csave_any {O : Nat → Prop} {w : World} {p : Nat} {st : Sd} (h : CDev O w p st) (hlt : ∀ i, O i → i < w.heap.size) (hc : st.C.length < 1099511627776) (s : Sup) (hs : s.Ok) :
    Calls Tryz.prog 66 #[.pointer (some ⟨p, 0, none⟩), s.val] w fun e w' => e = .returned (.int .i64 (st.save s).1) ∧ CDev (Gro O w w') w' p (st.save s).2 ∧ Onl O w w' := by
  have hse := hs.e
  have hmod : IntKind.i64.wrap ((s.e : Int).tmod 2) = (s.e : Int) % 2 := by
    rw [Int.tmod_eq_emod_of_nonneg (by omega), IntKind.wrap_i64]
    omega
  have HH := hide h
  have HLT := hide hlt
  have HS := hide hs
  clear h hlt hs
  have k0 : Ob (w.alloc (.cells s.cells.toArray 119)) w.heap.size 119 s.cells := Ob.new w s.cells 119
  have z0 : (w.alloc (.cells s.cells.toArray 119)).heap.size = w.heap.size + 1 := by simp
  have o0 : Onl O w (w.alloc (.cells s.cells.toArray 119)) := (Onl.refl _ w).alloc _
  have d0 : CDev O (w.alloc (.cells s.cells.toArray 119)) p st := HH.out.onl (F := fun _ => False) ((Onl.refl _ w).alloc _) (fun _ _ q => q)
  unfold Sup.cells at k0 z0 o0 d0
  have HV := hide (put_any s HS.out)
  unfold Sup.val Sup.cells at HV
  unfold Sup.val Sup.cells
  generalize hW0 : w.alloc (.cells [.int .u64 s.e, .int .u32 s.st, .int .u32 s.pg, .int .u32 s.sz].toArray 119) = W0 at k0 z0 o0 d0
  have HK0 := hide k0
  have HO0 := hide o0
  have HD0 := hide d0
  clear k0 o0 d0
  go_enter Tryz.func66, Tryz.ntmps66
  go_wp2_with fail
  refine (cflush_any HD0.out (by omega)).mono ?_
  rintro e w1 ⟨rfl, d1, o1⟩
  have k1 := HK0.out.onl o1 (fun q => absurd (HLT.out _ q) (Nat.lt_irrefl _))
  have c1 : st.flushed.2.C.length ≤ st.C.length := by
    unfold Sd.flushed
    split
    · simp
    · rw [acted_C]; simp
  have x0 := k1.cell 0
  have x1 := k1.cell 1
  have x2 := k1.cell 2
  have x3 := k1.cell 3
  simp only [List.getElem?_cons_zero, List.getElem?_cons_succ] at x0 x1 x2 x3
  have z1 := o1.size
  have HK1 := hide k1
  have HD1 := hide d1
  have HO1 := hide (HO0.out.trans o1)
  clear k1 d1 o1
  rcases flushed_vals st with hf | hf
  · have HSV : Hid (st.save s = (if (st.flushed.2.wrote ((s.e : Int) % 2) (superB s)).1 = 0 then (st.flushed.2.wrote ((s.e : Int) % 2) (superB s)).2.flushed else st.flushed.2.wrote ((s.e : Int) % 2) (superB s))) := by
      show st.save s = _
      unfold Sd.save
      rw [if_pos hf]
    rw [hf]
    have HF := hide hf
    clear hf
    generalize st.flushed.2 = st1 at *
    go_wp2
    go_region_held3 (fun W' => W'.cell? ⟨w.heap.size, 0, none⟩ = some (.int .u64 s.e) ∧ W'.cell? ⟨w.heap.size, 1, none⟩ = some (.int .u32 s.st) ∧ W'.cell? ⟨w.heap.size, 2, none⟩ = some (.int .u32 s.pg) ∧ W'.cell? ⟨w.heap.size, 3, none⟩ = some (.int .u32 s.sz)) (go_keep) (first
      | (go_at_call 99; refine (HV.out w1.drew).mono ?_; rintro e w2 ⟨v2, rfl, r2, b2⟩; obtain ⟨a2, c2, hv2⟩ := own_len r2; subst hv2; have k2 := Ob.old (w := w1.drew) HK1.out b2; have y0 := k2.cell 0; have y1 := k2.cell 1; have y2 := k2.cell 2; have y3 := k2.cell 3; simp only [List.getElem?_cons_zero, List.getElem?_cons_succ] at y0 y1 y2 y3; have HR2 := hide (rdown r2); have HD2 := hide (HD1.out.onl (F := fun _ => False) ((Onl.refl _ w1).drew.trans (Onl.ofBelow b2)) (fun _ _ q => q)); have HO2 := hide (HO1.out.drew.trans (Onl.ofBelow b2)); have HK2 := hide k2; have z2 := b2.size; clear r2 b2 k2)
      | (go_at_call 22; have KW := cwrite_any HD2.out (by omega) ((s.e : Int) % 2) a2 c2 (superB s) HR2.out.1 (fun x hx _ q => by have h1 := HR2.out.2.2.2 x hx; have h2 := HLT.out _ q; have h3 : w1.drew.heap.size = w1.heap.size := rfl; omega) (superB_byt s); rw [superB_len] at KW; refine KW.mono ?_; rintro e w3 ⟨rfl, d3, o3⟩; have k3 := HK2.out.onl o3 (fun q => absurd (HLT.out _ q) (Nat.lt_irrefl _)); have u0 := k3.cell 0; have u1 := k3.cell 1; have u2 := k3.cell 2; have u3 := k3.cell 3; simp only [List.getElem?_cons_zero, List.getElem?_cons_succ] at u0 u1 u2 u3; have HD3 := hide d3; have HO3 := hide (HO2.out.trans o3); have z3 := o3.size; clear d3 o3 k3 KW))
    have c3 : (st1.wrote ((s.e : Int) % 2) (superB s)).2.C.length ≤ st1.C.length + 1 := by
      unfold Sd.wrote
      split
      · simp
      · split
        · split
          · simp
          · rw [acted_C]; simp
        · simp
    have hv3 := wrote_vals st1 ((s.e : Int) % 2) (superB s)
    have hz2 : w.heap.size ≤ w2.heap.size := by have h3 : w1.drew.heap.size = w1.heap.size := rfl; omega
    generalize hst3 : (st1.wrote ((s.e : Int) % 2) (superB s)).2 = st3 at *
    generalize hz3 : (st1.wrote ((s.e : Int) % 2) (superB s)).1 = e3 at *
    have HST3 := hide hst3
    have HZ3 := hide hz3
    clear hst3 hz3
    by_cases he3 : e3 = 0
    · subst he3
      have HS2 : Hid (st.save s = st3.flushed) := by
        show st.save s = _
        rw [HSV.out]
        simp
      clear hv3
      go_wp2_with fail
      refine (cflush_any HD3.out (by omega)).mono ?_
      rintro e w4 ⟨rfl, d4, o4⟩
      have HD4 := hide d4
      have HO4 := hide (HO3.out.more o4 (fun i hi => hi.elim .inl (fun q => .inr (by omega))))
      have z4 := o4.size
      clear d4 o4
      go_wp2
      go_ret
      refine ⟨by rw [HS2.out]; rfl, ?_, HO4.out⟩
      rw [HS2.out]
      exact HD4.out.mono (fun i hi => hi.elim .inl (fun q => .inr ⟨by omega, by omega⟩))
    · have HS2 : Hid (st.save s = (e3, st3)) := by
        show st.save s = _
        rw [HSV.out, if_neg he3, ← HZ3.out, ← HST3.out]
      have hb3 : (e3 != 0) = true := by simpa using he3
      clear he3 hv3
      go_wp2
      go_ret
      refine ⟨by rw [HS2.out]; rfl, ?_, HO3.out⟩
      rw [HS2.out]
      exact HD3.out.mono (fun i hi => hi.elim .inl (fun q => .inr ⟨by omega, by omega⟩))
  · have HS2 : Hid (st.save s = st.flushed) := by
      show st.save s = _
      unfold Sd.save
      rw [if_neg (by rw [hf]; decide)]
    rw [hf]
    have HF := hide hf
    clear hf
    go_wp2
    go_ret
    refine ⟨by rw [HS2.out, HF.out]; rfl, ?_, HO1.out⟩
    rw [HS2.out]
    exact HD1.out.mono Gro.of
end Go.Proofs.YtegadgncggbeoaaGreat
