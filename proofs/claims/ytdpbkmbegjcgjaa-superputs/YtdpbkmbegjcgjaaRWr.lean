/- What the document's Write to a device does, over the translation. -/
import Derived.Test.YtdpbkmbegjcgjaaRFl
import Derived.Deep.RegionLaw
namespace Go.Proofs.Ytdpbkmbegjcgjaa
open Go.RowKit Apo
attribute [local go_sem ↓] Go.wp_at_zero Go.wp_at_succ Apo.app_exec

theorem info_wr : (Try.prog.info? 82).map (fun i => (i.zero, i.size, i.bytes)) = some (some (.agg #[.int .i64 0, .slice none 0 0]), 2, 32) := by kernel_rfl

theorem RParts.mono {O O' : Nat → Prop} {w : World} {p : Nat} {st : Sd} {vS vC vB : Value} {rv cv : List Value} (h : RParts O w p st vS vC vB rv cv) (hO : ∀ i, O i → O' i) : RParts O' w p st vS vC vB rv cv :=
  ⟨h.ob, hO p h.own, h.sS.mono hO, h.sR.mono hO, h.sC.mono hO, h.sW.mono hO, h.sB.mono hO, h.ok⟩
theorem RDev.mono {O O' : Nat → Prop} {w : World} {p : Nat} {st : Sd} (h : RDev O w p st) (hO : ∀ i, O i → O' i) : RDev O' w p st := by
  obtain ⟨_, _, _, _, _, h⟩ := h
  exact ⟨_, _, _, _, _, h.mono hO⟩

theorem own_shape2 {w : World} {base e size : Nat} {v : Value} {n : Nat} {xs : List Value} (h : w.ownsRow base e size v n xs) (hp : 0 < n) :
    ∃ g cap, v = .slice (some ⟨g, 0, none⟩) n cap ∧ base ≤ g ∧ g < w.heap.size ∧ n ≤ cap ∧ cap ≤ maxLen := by
  have h' := h
  rcases h.2 with ⟨_, hz⟩ | ⟨g, cap, cur, rfl, hb, _, hnc, hcm, _⟩
  · omega
  · exact ⟨g, cap, rfl, hb, (h'.lt g rfl).2, hnc, hcm⟩

/-- the two appends of a write: the bytes, then the write itself -/
theorem write_app {O : Nat → Prop} {w w1 : World} {p : Nat} {st : Sd} {vS vB : Value} {ca : Option Addr} {ccap : Nat} {rv cv : List Value} (h : RParts O w1 p st.acted vS (.slice ca st.acted.C.length ccap) vB rv cv) (hc : st.C.length ≤ 1099511627776)
    {ba : Option Addr} {bc : Nat} {b : List Int} (hr : Rd .u8 w1 ba b) (hn : ba = none → bc = 0) (hl : b.length = 32) (a : Int) (ha : 0 ≤ a ∧ a < (st.S.length : Int)) (ok : OkS { st.acted with C := st.C ++ [(a.toNat, b)] })
    (ho : Onl O w w1) :
    ∃ v1 w2 v2 w4 gv vcap gc gcap, v1 = .slice (some ⟨gv, 0, none⟩) 32 vcap ∧ v2 = .slice (some ⟨gc, 0, none⟩) (st.acted.C.length + 1) gcap ∧ (Builtin.append_ #[26, 26] 26 #[.slice none 0 0, .slice ba 32 bc]).run Try.prog w1.drew = .ok v1 w2 ∧
      (Builtin.append_ #[74, 74] 74 #[.slice ca st.acted.C.length st.acted.C.length, .slice (some ⟨w2.heap.size, 0, none⟩) 1 1]).run Try.prog (w2.alloc (.cells #[.int .i64 a, v1] 82)) = .ok v2 w4 ∧
      w2.cell? ⟨p, 1, none⟩ = some (.slice ca st.acted.C.length ccap) ∧ w4.cell? ⟨p, 1, none⟩ = some (.slice ca st.acted.C.length ccap) ∧ w4.frozen? ⟨p, 1, none⟩ = false ∧
      RDev (Gro O w (w4.setCell ⟨p, 1, none⟩ v2)) (w4.setCell ⟨p, 1, none⟩ v2) p { st.acted with C := st.C ++ [(a.toNat, b)] } ∧ Onl O w (w4.setCell ⟨p, 1, none⟩ v2) := by
  obtain ⟨i0, hi, hz0, hz1, hz2⟩ := info_parts info_u8
  obtain ⟨j0, ji, jz0, jz1, jz2⟩ := info_parts info_wr
  have eC := acted_C st
  have hsz := ho.size
  obtain ⟨v1, w2, R1, r1, g1⟩ := run_append_rd (P := Try.prog) (w := w1.drew) w.heap.size 26 26 5 i0 (.int .u8 0) 1 Try.underlying26 hi hz0 hz1 hz2 rfl .u8 (.slice none 0 0) [] (World.ownsRow_nil _ _ _ _) ba bc b hr hn (by rw [hl]; unfold maxLen; simp) (by rw [hl]; simp) hsz
  rw [List.nil_append, hl] at r1
  rw [hl] at R1
  obtain ⟨gv, vcap, hv1, hgv, hgv2, _, _⟩ := own_shape r1 (by decide)
  have o12 : Onl (fun _ => False) w1 w2 := ((Onl.refl _ w1).drew).grown g1 (by simp [Value.ownBlock])
  have h2 := h.kept o12
  have o23 : Onl (fun _ => False) w2 (w2.alloc (.cells #[.int .i64 a, v1] 82)) := (Onl.refl _ w2).alloc _
  have h3 := h2.kept o23
  have hnews : ∀ j u, [Value.int .i64 a, v1][j]? = some u → (w2.alloc (.cells #[.int .i64 a, v1] 82)).cell? ((⟨w2.heap.size, 0, none⟩ : Addr).add j) = some u := by
    intro j u hu
    have := (Ob.new w2 [Value.int .i64 a, v1] 82).cell j
    rw [hu] at this
    have e : (⟨w2.heap.size, 0, none⟩ : Addr).add j = ⟨w2.heap.size, j, none⟩ := by unfold Addr.add; split <;> simp_all
    rw [e]
    exact this
  have hsz2 := o12.size
  have hsz3 := o23.size
  obtain ⟨v2, w4, R2, r2, g2⟩ : ∃ v2 w4, (Builtin.append_ #[74, 74] 74 #[.slice ca st.acted.C.length st.acted.C.length, .slice (some ⟨w2.heap.size, 0, none⟩) 1 1]).run Try.prog (w2.alloc (.cells #[.int .i64 a, v1] 82)) = .ok v2 w4 ∧
      w4.ownsRow w.heap.size 82 2 v2 (st.acted.C.length + 1) (ccells st.acted.C cv ++ [.int .i64 a, v1]) ∧ (w2.alloc (.cells #[.int .i64 a, v1] 82)).grownBy w4 none := by
    obtain ⟨ca', ccap', hv', hc1, hc2, hc3, hc4⟩ := h3.sC.form
    cases hv'
    cases ca with
    | none =>
      have hz := hc3 rfl
      have hz' : st.acted.C.length = 0 := by omega
      have hxs : ccells st.acted.C cv = [] := List.eq_nil_of_length_eq_zero (by have := h3.sC.len; omega)
      rw [hxs, hz']
      obtain ⟨v2, w4, q1, q2, q3, _⟩ := run_append_own (P := Try.prog) (w2.alloc (.cells #[.int .i64 a, v1] 82)) w.heap.size 74 74 82 j0 _ 2 32 Try.underlying74 ji jz0 jz1 jz2 rfl (by decide) (.slice none 0 0) 0 [] (World.ownsRow_nil _ _ _ _) ⟨w2.heap.size, 0, none⟩ 1 1 [.int .i64 a, v1] rfl hnews (by rw [hv1]; simp [Value.oneCell']) (by unfold maxLen; simp) (by decide) (by omega)
      exact ⟨v2, w4, q1, q2, q3⟩
    | some x =>
      obtain ⟨g, hxg, _⟩ := hc4 x rfl
      subst hxg
      obtain ⟨v2, w4, q1, q2, q3⟩ := run_append_full (P := Try.prog) (w := w2.alloc (.cells #[.int .i64 a, v1] 82)) 74 74 82 j0 _ 2 32 Try.underlying74 ji jz0 jz1 jz2 rfl ⟨g, 0, none⟩ st.acted.C.length (ccells st.acted.C cv) h3.sC.len (h3.sC.1.cells (g := g) rfl) ⟨w2.heap.size, 0, none⟩ 1 1 [.int .i64 a, v1] rfl hnews (by decide) (by rw [eC]; unfold maxLen; omega) (by rw [eC]; omega)
      exact ⟨v2, w4, q1, q2.mono (by omega), q3⟩
  obtain ⟨gc, gcap, hv2, hgc, hgc2, _, _⟩ := own_shape2 r2 (by omega)
  have o34 : Onl (fun _ => False) (w2.alloc (.cells #[.int .i64 a, v1] 82)) w4 := (Onl.refl _ _).grown g2 (by simp)
  have h4 := h3.kept o34
  have hsz4 := o34.size
  have o14 : Onl (fun _ => False) w2 w4 := o23.trans o34
  have hp5 : (w4.setCell ⟨p, 1, none⟩ v2).heap.size = w4.heap.size := by simp [World.setCell]
  have c2 := h2.ob.cell 1
  have c4 := h4.ob.cell 1
  simp only [List.getElem?_cons_zero, List.getElem?_cons_succ] at c2 c4
  refine ⟨v1, w2, v2, w4, gv, vcap, gc, gcap, hv1, hv2, R1, R2, c2, c4, h4.ob.frozen 1, ?_, ?_⟩
  · have hO : ∀ i, O i → (Gro O w (w4.setCell ⟨p, 1, none⟩ v2)) i := Gro.of
    have h4' := h4.mono hO
    have b1 : Row (Gro O w (w4.setCell ⟨p, 1, none⟩ v2)) w2 5 1 v1 32 (b.map (Value.int .u8)) := ⟨r1.mono (Nat.zero_le _), fun g hg => Gro.new (r1.lt g hg).1 (by have := (r1.lt g hg).2; omega)⟩
    have b4 := b1.onl o14 (fun _ _ q => q)
    have s4 : Row (Gro O w (w4.setCell ⟨p, 1, none⟩ v2)) w4 82 2 v2 (st.acted.C.length + 1) (ccells st.acted.C cv ++ [.int .i64 a, v1]) := ⟨r2.mono (Nat.zero_le _), fun g hg => Gro.new (r2.lt g hg).1 (by have := (r2.lt g hg).2; omega)⟩
    have o1 : Onl (fun k => k = p) w4 (w4.setCell ⟨p, 1, none⟩ v2) := Onl.set (O := fun k => k = p) (Onl.refl _ w4) (.inl rfl) _
    have ap : ∀ (u : Value) (q : List Int) k, Byt (Gro O w (w4.setCell ⟨p, 1, none⟩ v2)) 5 w4 u q → u.ownBlock = some k → ¬ k = p := fun u q k hb hk e => Row.apartOb hb h4.ob (by decide) (by rw [hk, e])
    have hcl : cv.length = st.acted.C.length := by have := h4.sW.1; simpa using this
    refine ⟨vS, v2, vB, rv, cv ++ [v1], ⟨h4'.ob.set 1 v2, h4'.own, ?_, h4'.sR.onl o1 ap, ?_, ?_, ?_, ok⟩⟩
    · exact h4'.sS.onl o1 (fun g hg q => h4.sS.apartOb h4.ob (by decide) (by rw [hg, q]))
    · have e1 : ccells (st.C ++ [(a.toNat, b)]) (cv ++ [v1]) = ccells st.acted.C cv ++ [.int .i64 a, v1] := by
        rw [ccells_snoc _ _ (by rw [← eC]; exact hcl), eC]
        have : ((a.toNat : Nat) : Int) = a := Int.toNat_of_nonneg ha.1
        simp [this]
      have := s4.onl o1 (fun g hg q => s4.apartOb h4.ob (by decide) (by rw [hg, q]))
      simp only [List.length_append, List.length_cons, List.length_nil]
      rw [e1, ← eC]
      exact this
    · have e2 : (st.C ++ [(a.toNat, b)]).map (·.2) = st.acted.C.map (·.2) ++ [b] := by rw [eC]; simp
      simp only
      rw [e2]
      exact (h4'.sW.snoc b4).onl o1 ap
    · exact h4'.sB.onl o1 (fun g hg q => h4.sB.apartOb h4.ob (by decide) (by rw [hg, q]))
  · refine Onl.set (Onl.trans (ho.trans (o12.mono (by simp))) (o14.mono (by simp))) (.inl h.own) _

set_option maxHeartbeats 1000000 in
theorem rwrite_any {O : Nat → Prop} {w : World} {p : Nat} {st : Sd} (h : RDev O w p st) (hc : st.C.length ≤ 1099511627776) (a : Int) (ba : Option Addr) (bc : Nat) (b : List Int) (hr : Rd .u8 w ba b) (hn : ba = none → bc = 0) (hbo : ∀ x, ba = some x → 0 < b.length → ¬ O x.block) (hby : ∀ z ∈ b, 0 ≤ z ∧ z ≤ 255):
    Calls Try.prog 15 #[.pointer (some ⟨p, 0, none⟩), .int .i64 a, .slice ba b.length bc] w fun e w' => e = .returned (.int .i64 (st.wrote a b).1) ∧ RDev (Gro O w w') w' p (st.wrote a b).2 ∧ Onl O w w' := by
  have okw := h.ok.wrote a hby
  have hR := hide h
  have hRd := hide hr
  have c4 : w.cell? ⟨p, 4, none⟩ = some (.bool st.dead) := by obtain ⟨vS, vC, vB, rv, cv, h⟩ := h; exact h.ob.cell 4
  clear h hr
  by_cases hd : st.dead = true
  · have e1 : st.wrote a b = (40, st) := by simp [Sd.wrote, hd]
    rw [e1]
    rw [hd] at c4
    clear e1 okw
    go_enter Try.func15, Try.ntmps15
    go_wp2
    go_ret
    exact ⟨rfl, hR.out.mono Gro.of, Onl.refl _ _⟩
  · have hd' : st.dead = false := by simpa using hd
    rw [hd'] at c4
    by_cases ha : st.has a = true
    · by_cases hl : b.length = 32
      · by_cases hact : st.acts = true
        · have e1 : st.wrote a b = (0, { st.acted with C := st.C ++ [(a.toNat, b)] }) := by simp [Sd.wrote, hd', ha, hl, hact]
          rw [e1] at okw ⊢
          clear e1
          go_enter Try.func15, Try.ntmps15
          go_wp2_with fail
          refine (rhas_any hR.out a).mono ?_
          rintro e w1 ⟨rfl, rfl⟩
          rw [ha]
          go_wp2_with fail
          refine (ract_any hR.out).mono ?_
          rintro e w1 ⟨rfl, hr1, ho1⟩
          rw [hact]
          have HR1 := hide hr1
          have HO1 := hide ho1
          clear hr1 ho1
          obtain ⟨vS, vC, vB, rv, cv, hP⟩ := HR1.out
          obtain ⟨ca, ccap, hvC, hc1, hc2, hc3, hc4⟩ := hP.sC.form
          subst hvC
          rw [acted_C] at hc1
          have HP := hide hP
          clear hP
          have e1 : st.acted.C.length = st.C.length := by rw [acted_C]
          obtain ⟨v1, w2, v2, w4, gv, vcap, gc, gcap, hv1, hv2, R1, R2, Fin⟩ := write_app HP.out hc (hRd.out.onl HO1.out hbo) hn hl a (has_iff.1 ha) okw HO1.out
          subst hv1 hv2
          rw [e1] at R2 Fin
          have d1 : w1.cell? ⟨p, 1, none⟩ = some (.slice ca st.C.length ccap) := by have := HP.out.ob.cell 1; rw [← e1]; exact this
          have d2 : w2.cell? ⟨p, 1, none⟩ = some (.slice ca st.C.length ccap) := by exact Fin.1
          have d4 : w4.cell? ⟨p, 1, none⟩ = some (.slice ca st.C.length ccap) := by exact Fin.2.1
          have f4 : w4.frozen? ⟨p, 1, none⟩ = false := Fin.2.2.1
          have hp2 : p < w2.heap.size := World.block_lt_of_cell? w2 _ d2
          have HF := hide Fin.2.2.2
          obtain ⟨x1, x2, x3⟩ := app_runs R1
          obtain ⟨y1, y2, y3⟩ := app_runs R2
          clear R1 R2 Fin okw
          go_wp2
          go_region
          all_goals
            go_wp2
            go_ret
            exact ⟨rfl, HF.out.1, HF.out.2⟩
        · have hact' : st.acts = false := by simpa using hact
          have e1 : st.wrote a b = (40, st.acted) := by simp [Sd.wrote, hd', ha, hl, hact']
          rw [e1]
          clear e1 okw
          go_enter Try.func15, Try.ntmps15
          go_wp2_with fail
          refine (rhas_any hR.out a).mono ?_
          rintro e w1 ⟨rfl, rfl⟩
          rw [ha]
          go_wp2_with fail
          refine (ract_any hR.out).mono ?_
          rintro e w1 ⟨rfl, hr1, ho1⟩
          rw [hact']
          have HR1 := hide hr1
          have HO1 := hide ho1
          clear hr1 ho1
          go_wp2
          go_ret
          exact ⟨rfl, HR1.out.mono Gro.of, HO1.out⟩
      · have e1 : st.wrote a b = (1, st) := by simp [Sd.wrote, hd', ha, hl]
        rw [e1]
        have hl2 : ((b.length : Int) != 32) = true := by simp; omega
        clear e1 okw
        go_enter Try.func15, Try.ntmps15
        go_wp2_with fail
        refine (rhas_any hR.out a).mono ?_
        rintro e w1 ⟨rfl, rfl⟩
        rw [ha]
        go_wp2
        go_ret
        exact ⟨rfl, hR.out.mono Gro.of, Onl.refl _ _⟩
    · have ha' : st.has a = false := by simpa using ha
      have e1 : st.wrote a b = (1, st) := by simp [Sd.wrote, hd', ha']
      rw [e1]
      clear e1 okw
      go_enter Try.func15, Try.ntmps15
      go_wp2_with fail
      refine (rhas_any hR.out a).mono ?_
      rintro e w1 ⟨rfl, rfl⟩
      rw [ha']
      go_wp2
      go_ret
      exact ⟨rfl, hR.out.mono Gro.of, Onl.refl _ _⟩
end Go.Proofs.Ytdpbkmbegjcgjaa
