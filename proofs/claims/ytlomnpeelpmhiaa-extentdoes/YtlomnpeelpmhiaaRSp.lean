/- The rows that the document's Free tells, over the translation. -/
import Derived.Test.YtlomnpeelpmhiaaRFr
namespace Go.Proofs.Ytlomnpeelpmhiaa
open Go.RowKit Apo
attribute [local go_sem ↓] Apo.app_exec

/-- rows as cells -/
def rcells : List (Nat × Nat) → List Value
  | [] => []
  | x :: R => .int .i64 x.1 :: .int .i64 x.2 :: rcells R
theorem rcells_len : ∀ R, (rcells R).length = R.length * 2
  | [] => rfl
  | x :: R => by simp [rcells, rcells_len R]; omega
theorem rcells_app : ∀ R S, rcells (R ++ S) = rcells R ++ rcells S
  | [], _ => rfl
  | x :: R, S => by simp [rcells, rcells_app R S]
theorem rcells_at : ∀ {R : List (Nat × Nat)} {i : Nat} {x : Nat × Nat}, R[i]? = some x → (rcells R)[i * 2]? = some (.int .i64 x.1) ∧ (rcells R)[i * 2 + 1]? = some (.int .i64 x.2)
  | [], i, x, h => by simp at h
  | y :: R, 0, x, h => by
    simp at h
    subst h
    simp [rcells]
  | y :: R, i + 1, x, h => by
    simp at h
    obtain ⟨h1, h2⟩ := rcells_at h
    rw [show (i + 1) * 2 = i * 2 + 1 + 1 by omega]
    simp only [rcells, List.getElem?_cons_succ]
    exact ⟨h1, h2⟩
theorem rcells_bump (R : List (Nat × Nat)) (a k : Nat) : (rcells (R ++ [(a, k)])).set (R.length * 2 + 1) (.int .i64 ((k : Int) + 1)) = rcells (R ++ [(a, k + 1)]) := by
  rw [rcells_app, rcells_app, List.set_append_right _ _ (by rw [rcells_len]; omega), rcells_len, show R.length * 2 + 1 - R.length * 2 = 1 by omega]
  simp [rcells]
theorem bump_len : ∀ R, (bump R).length = R.length
  | [] => rfl
  | [x] => rfl
  | x :: y :: l => by simp only [bump, List.length_cons, bump_len (y :: l)]
theorem spans_len (L : List Bool) : ∀ n, (spansTo L n).length ≤ n
  | 0 => by simp [spansTo]
  | n + 1 => by
    have := spans_len L n
    rw [spansTo]
    split
    · omega
    · split
      · rw [bump_len]; omega
      · simp; omega
theorem spans_skip {L : List Bool} {I : Nat} (h : L.getD I false = false) : spansTo L (I + 1) = spansTo L I := by rw [spansTo, if_pos h]
theorem spans_app {L : List Bool} {I : Nat} (h : L.getD I false = true) (hn : ¬ (0 < I ∧ L.getD (I - 1) false = true)) : spansTo L (I + 1) = spansTo L I ++ [(I, 1)] := by
  rw [spansTo, if_neg (by rw [h]; decide), if_neg hn]
theorem spans_more {L : List Bool} {I : Nat} (h : L.getD I false = true) (hn : 0 < I ∧ L.getD (I - 1) false = true) : ∃ R a k, spansTo L I = R ++ [(a, k)] ∧ a + k = I ∧ spansTo L (I + 1) = R ++ [(a, k + 1)] := by
  obtain ⟨R, a, k, h1, h2⟩ := (spans_all L I).2.2.2.1 hn.1 hn.2
  refine ⟨R, a, k, h1, h2, ?_⟩
  rw [spansTo, if_neg (by rw [h]; decide), if_pos hn, h1, bump_snoc]
theorem own_len2 {w : World} {base e : Nat} {v : Value} {n size : Nat} {xs : List Value} (h : w.ownsRow base e size v n xs) : ∃ a cap, v = .slice a n cap := by
  rcases h.2 with ⟨rfl, hz⟩ | ⟨g, cap, cur, rfl, _⟩
  · exact ⟨none, 0, by rw [hz]⟩
  · exact ⟨_, cap, rfl⟩
theorem lit2_news (w : World) (t : TypeId) (x y : Int) : ∀ j u, [Value.int .i64 x, .int .i64 y][j]? = some u → (w.alloc (.cells #[.int .i64 x, .int .i64 y] t)).cell? ((⟨w.heap.size, 0, none⟩ : Addr).add j) = some u := by
  intro j u hu
  have k := Ob.new w [Value.int .i64 x, .int .i64 y] t
  have e : (⟨w.heap.size, 0, none⟩ : Addr).add j = ⟨w.heap.size, 0 + j, none⟩ := by unfold Addr.add; split <;> simp_all
  rw [e, Nat.zero_add]
  exact (k.cell j).trans hu
theorem info_span : (Try.prog.info? 29).map (fun i => (i.zero, i.size, i.bytes)) = some (some (.agg #[.int .i64 0, .int .i64 0]), 2, 16) := by kernel_rfl

set_option maxRecDepth 100000 in
set_option maxHeartbeats 4000000 in
theorem rspans_any {O : Nat → Prop} {w : World} {p : Nat} {f : Fr} (h : RFr O w p f) :
    Calls Try.prog 19 #[.pointer (some ⟨p, 0, none⟩)] w fun e w' => ∃ v, e = .returned v ∧ w'.ownsRow w.heap.size 29 2 v f.rows.length (rcells f.rows) ∧ Below w.heap.size w w' := by
  obtain ⟨i0, hi, hz0, hz1, hz2⟩ := info_parts info_span
  have hok := h.ok.len
  have H := hide h
  obtain ⟨v, hob, hp, hrow, okf⟩ := h
  obtain ⟨va, vc, hv, hvc, _, _, _⟩ := hrow.form
  subst hv
  have y1 := hob.cell 1
  simp only [List.getElem?_cons_zero, List.getElem?_cons_succ] at y1
  have HOB := hide hob
  have HROW := hide hrow
  clear hob hrow okf H
  go_enter Try.func19, Try.ntmps19
  go_wp2
  go_loopw [3, 11] (fun v i wr => ∃ I : Nat, I ≤ f.L.length ∧ i = .int .i64 I ∧ Hid (wr.ownsRow w.heap.size 29 2 v (spansTo f.L I).length (rcells (spansTo f.L I))) ∧ Hid (Below w.heap.size w wr)) (fun _ i _ => f.L.length - (intOf i).toNat)
  case atStart => exact ⟨0, Nat.zero_le _, rfl, World.ownsRow_nil _ _ _ _, Below.refl _ _⟩
  case round =>
    obtain ⟨I, hI, rfl, hO, hB⟩ := hrel
    obtain ⟨a3, c3, hv3⟩ := own_len2 hO.out
    subst hv3
    have hsl := spans_len f.L I
    by_cases hlt : I < f.L.length
    · have hb' : Below w.heap.size w wr := hB.out
      have hob := HOB.out.old hb'
      have hrow := HROW.out.onl (F := fun _ => False) (Onl.ofBelow hb') (fun _ _ q => q)
      obtain ⟨g, vc', hv, hg, hgl, hc1, hc2, hcell, hfz⟩ := hrow.shape (by omega)
      cases hv
      have y1' := hob.cell 1
      simp only [List.getElem?_cons_zero, List.getElem?_cons_succ] at y1'
      have hx : f.L[I]? = some f.L[I] := List.getElem?_eq_getElem hlt
      have hcl := hcell I (by omega)
      rw [List.getElem?_map, hx] at hcl
      simp only [Option.map_some] at hcl
      have hgd : f.L.getD I false = f.L[I] := by simp [List.getD, hlt]
      generalize f.L[I] = c at hx hcl hgd
      clear hx hob hrow hfz hb'
      cases c
      · have es : spansTo f.L (I + 1) = spansTo f.L I := by rw [spansTo, if_pos hgd]
        have ho2 := hO.out
        rw [← es] at ho2
        have HO2 := hide ho2
        rw [show (spansTo f.L I).length = (spansTo f.L (I + 1)).length by rw [es]]
        clear es ho2 hcell hgd hO
        go_wp2
        go_roundw
        case rel => exact ⟨I + 1, hlt, by simp, HO2, hB⟩
        case measure => simp [intOf]; omega
      · by_cases h0 : 0 < I
        · obtain ⟨J, hJ⟩ : ∃ J, I = J + 1 := ⟨I - 1, by omega⟩
          have hJ1 : (I : Int) - 1 = (J : Int) := by omega
          have hJl : J < f.L.length := by omega
          have hx2 : f.L[J]? = some f.L[J] := List.getElem?_eq_getElem (by omega)
          have hcl2 := hcell J (by omega)
          rw [List.getElem?_map, hx2] at hcl2
          simp only [Option.map_some] at hcl2
          have hgd2 : f.L.getD (I - 1) false = f.L[J] := by simp [List.getD, hJ, show J < f.L.length by omega]
          generalize f.L[J] = c2 at hx2 hcl2 hgd2
          have HJ := hide hJ
          clear hx2 hJ
          cases c2
          · obtain ⟨v5, w5, R, r5, g5, _⟩ := run_append_own (P := Try.prog) (wr.alloc (.cells #[.int .i64 I, .int .i64 1] 29)) w.heap.size 37 37 29 i0 _ 2 16 Try.underlying37 hi hz0 hz1 hz2 rfl (by decide) (.slice a3 (spansTo f.L I).length c3) _ _ (hO.out.alloc _) ⟨wr.heap.size, 0, none⟩ 1 1 [.int .i64 I, .int .i64 1] rfl (lit2_news wr 29 _ _) (by simp [Value.oneCell']) (by unfold maxLen; omega) (by omega) (by have := hB.out.size; simp; omega)
            obtain ⟨a5, c5, hv5⟩ := own_len2 r5
            subst hv5
            obtain ⟨q1, q2, q3⟩ := app_runs R
            have B5 : Below w.heap.size w w5 := (hB.out.alloc hB.out.size _).grown g5 (by have := hB.out.size; simp; omega) (fun q hq => (hO.out.lt q hq).1)
            have es : spansTo f.L (I + 1) = spansTo f.L I ++ [(I, 1)] := spans_app hgd (fun q => by rw [hgd2] at q; exact absurd q.2 (by decide))
            have r6 : w5.ownsRow w.heap.size 29 2 (.slice a5 ((spansTo f.L I).length + 1) c5) (spansTo f.L (I + 1)).length (rcells (spansTo f.L (I + 1))) := by
              rw [es, rcells_app]
              simpa [rcells] using r5
            have HR6 := hide r6
            have HB5 := hide B5
            clear R r5 g5 B5 es r6 hcell
            go_wp2
            go_roundw
            case rel => exact ⟨I + 1, hlt, by simp, HR6, HB5⟩
            case measure => simp [intOf]; omega
          · obtain ⟨R, a, k, es, hak, es2⟩ := spans_more hgd ⟨h0, hgd2⟩
            have ho2 := hO.out
            rw [es] at ho2
            have hn : (spansTo f.L I).length = R.length + 1 := by rw [es]; simp
            rw [hn]
            rw [show (R ++ [(a, k)]).length = R.length + 1 by simp] at ho2
            have hRl : R.length < 16384 := by omega
            have hkl : k ≤ 16384 := by omega
            obtain ⟨g3, hv3, hg3⟩ : ∃ g3, a3 = some ⟨g3, 0, none⟩ ∧ w.heap.size ≤ g3 := by
              rcases ho2.2 with ⟨_, hz⟩ | ⟨g3, cp, cur, hv, hb, _⟩
              · omega
              · cases hv; exact ⟨g3, rfl, hb⟩
            subst hv3
            have hca := ho2.cellAt (R.length * 2 + 1) (by omega)
            have hat := (rcells_at (R := R ++ [(a, k)]) (i := R.length) (x := (a, k)) (by simp)).2
            rw [hat] at hca
            have hfa := ho2.frozenAt (R.length * 2 + 1)
            have r6 := (ho2.stored (R.length * 2 + 1) (.int .i64 ((k : Int) + 1))).1
            rw [rcells_bump, ← es2] at r6
            have hn2 : (spansTo f.L (I + 1)).length = R.length + 1 := by rw [es2]; simp
            have B6 : Below w.heap.size w (wr.setCell ⟨g3, R.length * 2 + 1, none⟩ (.int .i64 ((k : Int) + 1))) := hB.out.setCell (p := ⟨g3, R.length * 2 + 1, none⟩) hg3 _
            have HR6 : Hid ((wr.setCell ⟨g3, R.length * 2 + 1, none⟩ (.int .i64 ((k : Int) + 1))).ownsRow w.heap.size 29 2 (.slice (some ⟨g3, 0, none⟩) (R.length + 1) c3) (spansTo f.L (I + 1)).length (rcells (spansTo f.L (I + 1)))) := by
              show World.ownsRow _ _ _ _ _ _ _
              rw [hn2]
              exact r6
            have HB6 := hide B6
            clear hO ho2 es es2 hn hn2 hat r6 B6 hcell hak hsl
            go_wp2
            go_roundw
            case rel => exact ⟨I + 1, hlt, by simp, HR6, HB6⟩
            case measure => simp [intOf]; omega
        · obtain ⟨v5, w5, R, r5, g5, _⟩ := run_append_own (P := Try.prog) (wr.alloc (.cells #[.int .i64 I, .int .i64 1] 29)) w.heap.size 37 37 29 i0 _ 2 16 Try.underlying37 hi hz0 hz1 hz2 rfl (by decide) (.slice a3 (spansTo f.L I).length c3) _ _ (hO.out.alloc _) ⟨wr.heap.size, 0, none⟩ 1 1 [.int .i64 I, .int .i64 1] rfl (lit2_news wr 29 _ _) (by simp [Value.oneCell']) (by unfold maxLen; omega) (by omega) (by have := hB.out.size; simp; omega)
          obtain ⟨a5, c5, hv5⟩ := own_len2 r5
          subst hv5
          obtain ⟨q1, q2, q3⟩ := app_runs R
          have B5 : Below w.heap.size w w5 := (hB.out.alloc hB.out.size _).grown g5 (by have := hB.out.size; simp; omega) (fun q hq => (hO.out.lt q hq).1)
          have es : spansTo f.L (I + 1) = spansTo f.L I ++ [(I, 1)] := spans_app hgd (fun q => h0 q.1)
          have r6 : w5.ownsRow w.heap.size 29 2 (.slice a5 ((spansTo f.L I).length + 1) c5) (spansTo f.L (I + 1)).length (rcells (spansTo f.L (I + 1))) := by
            rw [es, rcells_app]
            simpa [rcells] using r5
          have HR6 := hide r6
          have HB5 := hide B5
          clear R r5 g5 B5 es r6 hcell
          go_wp2
          go_roundw
          case rel => exact ⟨I + 1, hlt, by simp, HR6, HB5⟩
          case measure => simp [intOf]; omega
    · have hIl : I = f.L.length := by omega
      subst hIl
      go_wp2
      go_ret
      exact ⟨_, rfl, hO.out, hB.out⟩
end Go.Proofs.Ytlomnpeelpmhiaa
