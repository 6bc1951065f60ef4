/- What the program's Copy of a device does, over the translation. -/
import Derived.Test.YtgkgbemliinajaaCCl
import Derived.Shelf.SlMaps.Clone
namespace Go.Proofs.Ytgkgbemliinajaa
open Go.RowKit Apo Go.Maps

set_option maxHeartbeats 2000000 in
theorem cloneM_any {w : World} {b : Nat} {bad : List Bool} (h : FMap w b bad) :
    Calls Try.prog 39 #[.map (some b)] w fun e w' => e = .returned (.map (some w.heap.size)) ∧ FMap w' w.heap.size bad ∧ Below w.heap.size w w' ∧ w'.heap.size = w.heap.size + 1 := by
  obtain ⟨D, ⟨es, clock, hb, F, hs, hD⟩, hd⟩ := h.own
  have hq := fun w => run_eql_map_nil_sl (P := Try.prog) w 59 _ _ (some b) Try.underlying59
  have HD := hide hd
  have HE := hide hD
  have HS := hide hs
  have HF := hide F
  clear hd hD hs F h
  go_enter Try.func39, Try.ntmps39
  go_wp2
  rw [run_callFunc_extern Try.func41 (by kernel_rfl) (by kernel_rfl) (by kernel_rfl) (e := Extern.MapsClone.clone) (by kernel_rfl), run_maps_clone_sl w 59 hb]
  simp only [Result.andThen]
  rw [Oper.upon_value]
  go_wp2
  rw [run_typeAssert_map_sl _ 59 20 _ _ _ Try.underlying59]
  simp only [Result.andThen]
  rw [Oper.upon_value]
  go_wp2
  go_ret
  exact ⟨rfl, ⟨D, ⟨es, clock, (MapKept.heap_alloc w _).1, HF.out, HS.out, HE.out⟩, HD.out⟩, (Below.refl _ w).alloc (Nat.le_refl _) _, by simp⟩

theorem scells_one (S : List (List Int)) : ∀ u ∈ scells S, u.oneCell' = true := by
  intro u hu
  simp only [scells, List.mem_flatMap] at hu
  obtain ⟨r, _, hu⟩ := hu
  exact secV_one r u hu
theorem wcells_one (C : List (Nat × List Int)) : ∀ u ∈ wcells C, u.oneCell' = true := by
  intro u hu
  simp only [wcells, List.mem_flatMap] at hu
  obtain ⟨r, _, hu⟩ := hu
  exact wrV_one r u hu

set_option maxHeartbeats 2000000 in
theorem ccopy_any {O : Nat → Prop} {w : World} {p : Nat} {st : Sd} (h : CDev O w p st) (hc : st.C.length ≤ 1099511627776) :
    Calls Try.prog 23 #[.pointer (some ⟨p, 0, none⟩)] w fun e w' => ∃ q, e = .returned (.pointer (some ⟨q, 0, none⟩)) ∧ CDev (Fresh w w') w' q st ∧ Below w.heap.size w w' := by
  obtain ⟨vK, vC, m, lf, h⟩ := h
  have hsz := h.ok.size
  obtain ⟨ka, kcap, hvK, _, _⟩ := h.sS.form
  obtain ⟨ca, ccap, hvC, _, _⟩ := h.sC.form
  subst hvK hvC
  have c0 := h.ob.cell 0
  have c1 := h.ob.cell 1
  have c2 := h.ob.cell 2
  have c3 := h.ob.cell 3
  have c4 := h.ob.cell 4
  have c5 := h.ob.cell 5
  have c6 := h.ob.cell 6
  simp only [List.getElem?_cons_zero, List.getElem?_cons_succ] at c0 c1 c2 c3 c4 c5 c6
  have H := hide h
  have hplt := h.ob.lt
  clear h
  generalize hb4 : decide (0 ≤ st.left) = b4 at c4
  have HB4 := hide hb4
  clear hb4
  go_enter Try.func23, Try.ntmps23
  go_wp2_with fail
  have kq := Ob.new w [.bool true, .slice ka st.S.length kcap, .slice ca st.C.length ccap, .map (some m), .bool b4, .int .i64 lf, .bool st.dead] 62
  have B1 : Below w.heap.size w (w.alloc (.cells [.bool true, .slice ka st.S.length kcap, .slice ca st.C.length ccap, .map (some m), .bool b4, .int .i64 lf, .bool st.dead].toArray 62)) := (Below.refl _ w).alloc (Nat.le_refl _) _
  have z1 : (w.alloc (.cells [.bool true, .slice ka st.S.length kcap, .slice ca st.C.length ccap, .map (some m), .bool b4, .int .i64 lf, .bool st.dead].toArray 62)).heap.size = w.heap.size + 1 := by simp
  generalize w.alloc (.cells [.bool true, .slice ka st.S.length kcap, .slice ca st.C.length ccap, .map (some m), .bool b4, .int .i64 lf, .bool st.dead].toArray 62) = W1 at kq B1 z1 ⊢
  have P1 := H.out.kept (Onl.ofBelow B1)
  refine (cloneS_any P1.sS (scells_one _) (by omega)).mono ?_
  rintro e w2 ⟨v1, rfl, r1, b2, a1, n1, rfl⟩
  have kq2 := kq.old b2
  have B2 : Below w.heap.size w w2 := B1.trans (b2.mono (by omega))
  have d1 := kq2.cell 1
  have f1 := kq2.frozen 1
  have d2 := (H.out.kept (Onl.ofBelow B2)).ob.cell 2
  simp only [List.getElem?_cons_zero, List.getElem?_cons_succ] at d1 d2
  have hp2 : p ≠ w.heap.size := by omega
  have kq3 := kq2.set 1 (.slice a1 st.S.length n1)
  have o3 : Onl (fun k => k = w.heap.size) w2 (w2.setCell ⟨w.heap.size, 1, none⟩ (.slice a1 st.S.length n1)) := Onl.set (O := fun k => k = w.heap.size) (Onl.refl _ w2) (.inl rfl) _
  have B3 : Below w.heap.size w (w2.setCell ⟨w.heap.size, 1, none⟩ (.slice a1 st.S.length n1)) := Below.onl B2 o3 (fun i hi => by omega) (Nat.le_refl _)
  have r3 := r1.onl o3 (fun g hg q => by have := (r1.2 g hg).1; omega)
  have z2 := b2.size
  simp only [List.set_cons_succ, List.set_cons_zero] at kq3
  have z3 : (w2.setCell ⟨w.heap.size, 1, none⟩ (.slice a1 st.S.length n1)).heap.size = w2.heap.size := by simp [World.setCell]
  have HK2 := hide kq2
  have HR1 := hide r1
  have HB2 := hide B2
  have HO3 := hide o3
  clear kq B1 P1 kq2 r1 B2 b2 o3
  go_wp2_with fail
  generalize w2.setCell ⟨w.heap.size, 1, none⟩ (.slice a1 st.S.length n1) = W3 at kq3 B3 r3 z3 ⊢
  have P3 := H.out.kept (Onl.ofBelow B3)
  refine (cloneC_any P3.sC (wcells_one _) hc).mono ?_
  rintro e w4 ⟨v2, rfl, r4, b4', a2, n2, rfl⟩
  have kq4 := kq3.old b4'
  have z4 := b4'.size
  have B4 : Below w.heap.size w w4 := B3.trans (b4'.mono (by omega))
  have r34 := r3.onl (F := fun _ => False) (Onl.ofBelow b4') (fun _ _ q => q)
  have d1' := kq4.cell 2
  have f1' := kq4.frozen 2
  have d2' := (H.out.kept (Onl.ofBelow B4)).ob.cell 3
  simp only [List.getElem?_cons_zero, List.getElem?_cons_succ] at d1' d2'
  have kq5 := kq4.set 2 (.slice a2 st.C.length n2)
  have o5 : Onl (fun k => k = w.heap.size) w4 (w4.setCell ⟨w.heap.size, 2, none⟩ (.slice a2 st.C.length n2)) := Onl.set (O := fun k => k = w.heap.size) (Onl.refl _ w4) (.inl rfl) _
  have B5 : Below w.heap.size w (w4.setCell ⟨w.heap.size, 2, none⟩ (.slice a2 st.C.length n2)) := Below.onl B4 o5 (fun i hi => by omega) (Nat.le_refl _)
  have r5 := r4.onl o5 (fun g hg q => by have := (r4.2 g hg).1; omega)
  have r35 := r34.onl o5 (fun g hg q => by have := (r34.2 g hg).1; omega)
  simp only [List.set_cons_succ, List.set_cons_zero] at kq5
  have z5 : (w4.setCell ⟨w.heap.size, 2, none⟩ (.slice a2 st.C.length n2)).heap.size = w4.heap.size := by simp [World.setCell]
  clear kq3 B3 P3 kq4 r4 r3 r34 B4 b4' o5 HK2 HR1 HB2 HO3
  have HK5 := hide kq5
  have HB5 := hide B5
  have HR5 := hide r5
  have HR35 := hide r35
  clear kq5 B5 r5 r35
  go_wp2_with fail
  generalize w4.setCell ⟨w.heap.size, 2, none⟩ (.slice a2 st.C.length n2) = W5 at HK5 HB5 HR5 HR35 z5 ⊢
  have P5 := H.out.kept (Onl.ofBelow HB5.out)
  refine (cloneM_any P5.mF).mono ?_
  rintro e w6 ⟨rfl, m6, b6, z6⟩
  have kq6 := HK5.out.old b6
  have B6 : Below w.heap.size w w6 := HB5.out.trans (b6.mono (by omega))
  have r6 := HR5.out.onl (F := fun _ => False) (Onl.ofBelow b6) (fun _ _ q => q)
  have r36 := HR35.out.onl (F := fun _ => False) (Onl.ofBelow b6) (fun _ _ q => q)
  have e1 := kq6.cell 3
  have g1 := kq6.frozen 3
  simp only [List.getElem?_cons_zero, List.getElem?_cons_succ] at e1
  have HK6 := hide kq6
  have HB6 := hide B6
  have HR6 := hide r6
  have HR36 := hide r36
  have HM := hide m6
  clear P5 kq6 B6 r6 r36 b6 m6
  go_wp2
  go_ret
  rw [← z5]
  have o7 : Onl (fun k => k = w.heap.size) w6 (w6.setCell ⟨w.heap.size, 3, none⟩ (.map (some W5.heap.size))) := Onl.set (O := fun k => k = w.heap.size) (Onl.refl _ w6) (.inl rfl) _
  have z7 : (w6.setCell ⟨w.heap.size, 3, none⟩ (.map (some W5.heap.size))).heap.size = w6.heap.size := by simp [World.setCell]
  have kq7 := HK6.out.set 3 (.map (some W5.heap.size))
  simp only [List.set_cons_succ, List.set_cons_zero] at kq7
  refine ⟨_, rfl, ⟨_, _, W5.heap.size, lf, ⟨by rw [HB4.out]; exact kq7, ⟨Nat.le_refl _, by omega⟩, ?_, ?_, ⟨by omega, by omega⟩, HM.out.onl o7 (by omega), H.out.hlf, H.out.ok⟩⟩, Below.onl HB6.out o7 (fun i hi => by omega) (Nat.le_refl _)⟩
  · exact (HR36.out.onl o7 (fun g hg q => by have := (HR36.out.2 g hg).1; omega)).mono (fun i hi => ⟨by have := hi.1; omega, by have := hi.2; omega⟩)
  · exact (HR6.out.onl o7 (fun g hg q => by have := (HR6.out.2 g hg).1; omega)).mono (fun i hi => ⟨by have := hi.1; omega, by have := hi.2; omega⟩)
end Go.Proofs.Ytgkgbemliinajaa
