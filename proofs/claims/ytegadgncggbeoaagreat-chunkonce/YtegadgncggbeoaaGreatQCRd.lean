/- What the program's Read of a device does, over the translation. -/
import Derived.Test.YtegadgncggbeoaaGreatQGDb
import Derived.Test.YtegadgncggbeoaaGreatQGDn
import Derived.Test.YtegadgncggbeoaaGreatQGLr
namespace Go.Proofs.YtegadgncggbeoaaGreat
open Go.RowKit Apo Go.Maps
attribute [local go_sem ↓] Apo.app_exec st_exec65 al_exec65

set_option maxHeartbeats 1000000 in
/-- a clone of bytes, wherever they lie -/
theorem cloneR_any {w : World} (a : Addr) (n cap : Nat) (l : List Int) (hl : l.length = n) (hx : ∀ j u, (secV l)[j]? = some u → w.cell? (a.add j) = some u) (hn : n ≤ 1099511627776) :
    Calls Tryz.prog 128 #[.slice (some a) n cap] w fun e w' => ∃ v', e = .returned v' ∧ w'.ownsRow w.heap.size 5 1 v' n (secV l) ∧ Below w.heap.size w w' := by
  obtain ⟨i0, hi, hz0, hz1, hz2⟩ := info_parts info_byte
  obtain ⟨v', w', R, r1, r2, g', c', hv⟩ := clone_app (w := w) Tryz.underlying34 hi hz0 hz1 hz2 rfl (by decide) a n cap (secV l) (by simp [secV, hl]) hx (secV_one l) (by unfold maxLen; omega) (by omega)
  subst hv
  have r1' : w'.ownsRow w.heap.size 5 1 (.slice (some ⟨g', 0, none⟩) n c') n (secV l) := by
    refine ⟨r1.1.1, ?_⟩
    rcases r1.1.2 with ⟨h, _⟩ | ⟨g, c, cur, q0, q1, q2⟩
    · cases h
    · exact .inr ⟨g, c, cur, q0, by have := (r1.2 g (by rw [q0]; rfl)).1; omega, q2⟩
  obtain ⟨x1, x2, x3⟩ := app_runs R
  have hq := fun wx => Lib.run_eql_slice_nil (P := Tryz.prog) wx 34 5 (some a) n cap 0 0 Tryz.underlying34
  have HR := hide r1'
  have HB := hide r2
  clear R r1 r1' r2 hi hz0 hz1 hz2 hx hl
  go_enter Tryz.func128, Tryz.ntmps128
  go_wp2
  go_ret
  exact ⟨_, rfl, HR.out, HB.out⟩

theorem zeroU (w : World) : (zeroValue 110).run Tryz.prog w = .ok (.agg #[]) w := by kernel_rfl

theorem lastOf_sec : ∀ {C : List (Nat × List Int)} {i : Nat} {b : List Int}, (∀ x ∈ C, Sec x.2) → Sec b → Sec (lastOf C i b)
  | [], _, _, _, h => h
  | x :: C, i, b, hC, h => by
    have ih := lastOf_sec (C := C) (i := i) (b := if x.1 = i then x.2 else b) (fun y hy => hC y (by simp [hy])) (by split; exact hC x (by simp); exact h)
    simpa [lastOf] using ih

set_option maxHeartbeats 2000000 in
theorem cread_any {O : Nat → Prop} {w : World} {p : Nat} {st : Sd} (h : CDev O w p st) (hc : st.C.length ≤ 1099511627776) (a : Int) :
    Calls Tryz.prog 94 #[.pointer (some ⟨p, 0, none⟩), .int .i64 a] w fun e w' => ∃ v, e = .returned (.tuple #[v, .int .i64 (st.told a).2]) ∧ Told w' w.heap.size v (st.told a).1 ∧ Below w.heap.size w w' := by
  have HH := hide h
  obtain ⟨vK, vC, m, lf, h⟩ := h
  have c3 := h.ob.cell 3
  simp only [List.getElem?_cons_zero, List.getElem?_cons_succ] at c3
  have H := hide h
  clear h
  by_cases hd : st.dead = true
  · have e1 : st.told a = ([], 40) := by simp [Sd.told, hd]
    rw [e1]
    clear e1
    go_enter Tryz.func94, Tryz.ntmps94
    go_wp2_with fail
    refine (cdead_any HH.out).mono ?_
    rintro e w1 ⟨rfl, rfl⟩
    rw [hd]
    go_wp2
    go_returns
    exact ⟨_, rfl, World.ownsRow_nil _ _ _ _, Below.refl _ _⟩
  · have hd' : st.dead = false := by simpa using hd
    have HD := hide hd'
    by_cases ha : st.has a = true
    · have ha2 := has_iff.1 ha
      obtain ⟨i, rfl⟩ := Int.eq_ofNat_of_zero_le ha2.1
      have hbd := H.out.ok.bads
      have hsz := H.out.ok.size
      have hi : i < st.bad.length := by omega
      have hi2 : i < st.S.length := by omega
      obtain ⟨D, hown, hhas, _⟩ := H.out.mF.own
      have hbi := hhas i hi
      have hwf : (Lit.int .i64 (i : Int)).wf = true := WalkArith.wf_i64 (by omega)
      have hkey := keyOf_int_mk Tryz.underlying3 hwf
      cases hb : st.bad.getD i false with
      | true =>
        have e1 : st.told i = ([], 41) := by simp only [Sd.told, hd', ha, Int.toNat_natCast, hb]; rfl
        rw [e1]
        rw [hb] at hbi
        have HB := hide hbi
        clear e1 hbd hhas hbi hb hd hd'
        go_enter Tryz.func94, Tryz.ntmps94
        go_wp2_with fail
        refine (cdead_any HH.out).mono ?_
        rintro e w1 ⟨rfl, rfl⟩
        rw [HD.out]
        go_wp2_with fail
        refine (chas_any HH.out i).mono ?_
        rintro e w1 ⟨rfl, rfl⟩
        rw [ha]
        go_wp2_with (first | (at_lookup; refine wpList_lookup_own_unit _ rfl _ _ 88 rfl 3 110 lawI Tryz.underlying88 (zeroU _) m _ D rfl hown _ _ rfl hkey ?_; rw [HB.out]) | go_in)
        go_returns
        exact ⟨_, rfl, World.ownsRow_nil _ _ _ _, (Below.refl _ _).alloc (Nat.le_refl _) _⟩
      | false =>
        have e1 : st.told i = (lastOf st.C i (st.S.getD i []), 0) := by simp only [Sd.told, hd', ha, Int.toNat_natCast, hb]; rfl
        rw [e1]
        rw [hb] at hbi
        have LS : Sec (lastOf st.C i (st.S.getD i [])) := by
          have hg : st.S.getD i [] = st.S[i] := by simp [List.getD, hi2]
          rw [hg]
          exact lastOf_sec (fun x hx => (H.out.ok.cach x hx).2) (H.out.ok.secs _ (List.getElem_mem hi2))
        have B1 : Below w.heap.size w (w.alloc (.cells #[] 110)) := (Below.refl _ w).alloc (Nat.le_refl _) _
        have K33 := clast_any (H.out.kept (Onl.ofBelow B1)) hc i hi2
        generalize lastOf st.C i (st.S.getD i []) = r at LS K33 ⊢
        have L1 : Len32 r := ⟨LS.1⟩
        have sa := @slice_all
        have HB := hide hbi
        have HK := hide K33
        have HL := hide LS
        clear e1 hbd hhas hbi hb hd hd' K33 LS
        go_enter Tryz.func94, Tryz.ntmps94
        go_wp2_with fail
        refine (cdead_any HH.out).mono ?_
        rintro e w1 ⟨rfl, rfl⟩
        rw [HD.out]
        go_wp2_with fail
        refine (chas_any HH.out i).mono ?_
        rintro e w1 ⟨rfl, rfl⟩
        rw [ha]
        go_wp2_with (first
          | (at_lookup; refine wpList_lookup_own_unit _ rfl _ _ 88 rfl 3 110 lawI Tryz.underlying88 (zeroU _) m _ D rfl hown _ _ rfl hkey ?_; rw [HB.out])
          | (go_at_call 127; refine HK.out.mono ?_; rintro e w2 ⟨rfl, b2⟩; have HB2 := hide (B1.trans (b2.mono B1.size)); obtain ⟨s1, s2⟩ := st_new_sec w2 L1; clear b2)
          | fail)
        have k1 : Ob (w2.alloc (.cells (secA r) 104)) w2.heap.size 104 (secV r) := Ob.new w2 (secV r) 104
        have z2 := HB2.out.size
        have B2 : Below w.heap.size w (w2.alloc (.cells (secA r) 104)) := HB2.out.alloc z2 _
        refine (cloneR_any ⟨w2.heap.size, 0, none⟩ 32 32 r L1.len (fun j u hu => by
          have e : (⟨w2.heap.size, 0, none⟩ : Addr).add j = ⟨w2.heap.size, j, none⟩ := by unfold Addr.add; split <;> simp_all
          rw [e, k1.cell j]
          exact hu) (by omega)).mono ?_
        rintro e w3 ⟨v', rfl, r3, b3⟩
        have HR := hide r3
        have HB3 := hide (B2.trans (b3.mono B2.size))
        obtain ⟨a', c', hv⟩ : ∃ a' c', v' = .slice a' 32 c' := by
          rcases r3.2 with ⟨_, h⟩ | ⟨g, c, cur, h, _⟩
          · omega
          · exact ⟨_, _, h⟩
        subst hv
        clear r3 b3 k1 B2
        go_wp2
        go_returns
        refine ⟨_, rfl, ?_, HB3.out⟩
        have := HR.out.mono (base' := w.heap.size) (by simp; omega)
        simpa [Told, L1.len, secV] using this
    · have ha' : st.has a = false := by simpa using ha
      have e1 : st.told a = ([], 1) := by simp [Sd.told, hd', ha']
      rw [e1]
      clear e1 hd hd'
      go_enter Tryz.func94, Tryz.ntmps94
      go_wp2_with fail
      refine (cdead_any HH.out).mono ?_
      rintro e w1 ⟨rfl, rfl⟩
      rw [HD.out]
      go_wp2_with fail
      refine (chas_any HH.out a).mono ?_
      rintro e w1 ⟨rfl, rfl⟩
      rw [ha']
      go_wp2
      go_returns
      exact ⟨_, rfl, World.ownsRow_nil _ _ _ _, Below.refl _ _⟩
end Go.Proofs.YtegadgncggbeoaaGreat
