/- What the program's Write to a device does, over the translation. -/
import Derived.Maps.AppendAt
import Derived.Test.YtegadgncggbeoaaGreatQGDk
namespace Go.Proofs.YtegadgncggbeoaaGreat
open Go.RowKit Apo

theorem fill_one {n : Nat} {cs vs : List Value} {v : Value} (hv : v.cells = vs.toArray) (h1 : vs.length = n) (h2 : cs.length = n) : Instr.fill (fun i => some (i * n, n)) cs.toArray [(0, v)] = some vs.toArray := by
  have e1 := fold_over vs cs 0 0 (by omega)
  have q1 : (v.cells.zipIdx.foldl (fun (cs : Array Value) (c : Value × Nat) => cs.setIfInBounds (0 * n + c.2) c.1) cs.toArray) = vs.toArray := by
    rw [hv, ← Array.foldl_toList]
    have e2 : over cs 0 vs = vs := by simp [over, h1, ← h2]
    simp only [Nat.zero_add] at e1
    rw [e2] at e1
    simpa using e1
  have c1 : (decide (v.cells.size ≠ n) || decide (0 * n + v.cells.size > cs.toArray.size)) = false := by rw [hv]; simp; omega
  unfold Instr.fill
  simp only
  rw [c1]
  simp only [Bool.false_eq_true, if_false]
  rw [q1]
  rfl

def Is33 (v : Value) : Prop := v.cells.size = 33
theorem is33 {x : Nat × List Int} (h : Len32 x.2) : Is33 (.agg (wrA x)) := wrA_size h
/-- '[]write{x}' -/
theorem run_wris (w : World) (v : Value) (h : Is33 v) : (Instr.buildSlice 89 1 #[(0, v)]).run Tryz.prog w = .ok (.slice (some ⟨w.heap.size, 0, none⟩) 1 1) (w.alloc (.cells v.cells 106)) := by
  obtain ⟨i, hi, hz, hs, _⟩ := info_parts info_wri
  have e := fill_one (n := 33) (cs := ((Array.range 33).map ((wrA (0, zeros))[· % (wrA (0, zeros)).size]!)).toList) (v := v) (vs := v.cells.toList) (by simp) (by simp; exact h) (by simp)
  simp only [Array.toArray_toList] at e
  have hz2 : (zeroValue 106).run Tryz.prog w = .ok (.agg (wrA (0, zeros))) w := by simp [zeroValue, typeInfo, hi, hz]
  simp only [Instr.buildSlice, Sem.run_bind, run_underlying Tryz.underlying89, Result.andThen_ok, Tryz.sizeOf106]
  simp [hz2, Value.cells]
  rw [e]
  simp [newRow]
  rfl
theorem bs_exec60 {w : World} {ρ : Operand → Value} {dst : Option Tmp} {x : Operand} {ty : TypeId} {pos : String} {after : Array Edge} {guard : Option (Nat × Bool)} (h : Is33 (ρ x)) :
    (execOp ρ { dst, op := .buildSlice 89 1 #[(0, x)], type := ty, pos, after, guard }).run Tryz.prog w = .ok (.value (.slice (some ⟨w.heap.size, 0, none⟩) 1 1)) (w.alloc (.cells (ρ x).cells 106)) := by
  have h1 := run_wris w _ h
  simp only [execOp, Sem.run_bind]
  rw [show (#[(0, x)] : Array (Nat × Operand)).map (fun (i, x) => (i, ρ x)) = #[(0, ρ x)] by simp, h1]
  simp [Result.andThen]

theorem run_arr (a : Addr) (c : Nat) (w : World) : (Instr.arrayAt 104 (.slice (some a) 32 c)).run Tryz.prog w = .ok (.pointer (some a)) w := by
  simp [Instr.arrayAt, run_underlying Tryz.underlying104]
/-- the append of a write -/
theorem cwrite_app {O : Nat → Prop} {w w1 : World} {p : Nat} {st : Sd} {vK : Value} {ca : Option Addr} {ccap m : Nat} {lf : Int} (h : CParts O w1 p st.acted vK (.slice ca st.acted.C.length ccap) m lf) (hc : st.C.length ≤ 1099511627776)
    {b : List Int} (hb : Sec b) {k : Nat} (ok : OkS { st.acted with C := st.C ++ [(k, b)] }) (ho : Onl O w w1) :
    ∃ v2 w4 gc gcap, v2 = .slice (some ⟨gc, 0, none⟩) (st.acted.C.length + 1) gcap ∧
      (Builtin.append_ #[89, 89] 89 #[.slice ca st.acted.C.length ccap, .slice (some ⟨w1.heap.size, 0, none⟩) 1 1]).run Tryz.prog (w1.alloc (.cells (wrA (k, b)) 106)).drew = .ok v2 w4 ∧
      w4.cell? ⟨p, 2, none⟩ = some (.slice ca st.acted.C.length ccap) ∧ w4.frozen? ⟨p, 2, none⟩ = false ∧
      CDev (Gro O w (w4.setCell ⟨p, 2, none⟩ v2)) (w4.setCell ⟨p, 2, none⟩ v2) p { st.acted with C := st.C ++ [(k, b)] } ∧ Onl O w (w4.setCell ⟨p, 2, none⟩ v2) := by
  obtain ⟨j0, ji, jz0, jz1, jz2⟩ := info_parts info_wri
  have eC := acted_C st
  have hsz := ho.size
  have Lb : Len32 b := ⟨hb.1⟩
  have o23 : Onl (fun _ => False) w1 (w1.alloc (.cells (wrA (k, b)) 106)).drew := ((Onl.refl _ w1).alloc _).drew
  have h3 := h.kept o23
  have hz3 : (w1.alloc (.cells (wrA (k, b)) 106)).drew.heap.size = w1.heap.size + 1 := by
    show (w1.alloc (.cells (wrA (k, b)) 106)).heap.size = _
    simp
  have hnews : ∀ j u, (wrV (k, b))[j]? = some u → (w1.alloc (.cells (wrA (k, b)) 106)).drew.cell? ((⟨w1.heap.size, 0, none⟩ : Addr).add j) = some u := by
    intro j u hu
    have := (Ob.new w1 (wrV (k, b)) 106).cell j
    rw [hu] at this
    have e : (⟨w1.heap.size, 0, none⟩ : Addr).add j = ⟨w1.heap.size, j, none⟩ := by unfold Addr.add; split <;> simp_all
    rw [e]
    exact this
  obtain ⟨v2, w4, R2, r2, g2, _, hloc⟩ := run_append_own_at (P := Tryz.prog) (w1.alloc (.cells (wrA (k, b)) 106)).drew 0 89 89 106 j0 _ 33 40 Tryz.underlying89 ji jz0 jz1 jz2 (wrA_size (x := (0, zeros)) zeros32) (by decide) (.slice ca st.acted.C.length ccap) st.acted.C.length (wcells st.acted.C) h3.sC.1 ⟨w1.heap.size, 0, none⟩ 1 1 (wrV (k, b)) (by simp [wrV, secV, Lb.len]) hnews (wrV_one _) (by rw [eC]; unfold maxLen; omega) (by rw [eC]; omega) (Nat.zero_le _)
  have hown : ∀ g, (Value.slice ca st.acted.C.length ccap).ownBlock = some g → O g ∧ g < w1.heap.size ∧ g ≠ p := fun g hg => ⟨h.sC.2 g hg, h.sC.lt g hg, fun e => h.sC.apartOb h.ob (by decide) (by rw [hg, e])⟩
  obtain ⟨gc, gcap, hv2, hgc2⟩ : ∃ gc gcap, v2 = .slice (some ⟨gc, 0, none⟩) (st.acted.C.length + 1) gcap ∧ gc < w4.heap.size := by
    have r2' := r2
    rcases r2.2 with ⟨_, hz⟩ | ⟨g, cap, cur, hv, _⟩
    · omega
    · exact ⟨g, cap, hv, (r2'.lt g (by rw [hv]; rfl)).2⟩
  have o34 : Onl (fun i => (Value.slice ca st.acted.C.length ccap).ownBlock = some i) (w1.alloc (.cells (wrA (k, b)) 106)).drew w4 := (Onl.refl _ _).grown g2 (fun i hi => .inl hi)
  have k4 : Ob w4 p 91 _ := h3.ob.onl o34 (fun q => (hown p q).2.2 rfl)
  have hsz4 := o34.size
  have hp5 : (w4.setCell ⟨p, 2, none⟩ v2).heap.size = w4.heap.size := by simp [World.setCell]
  have c4 := k4.cell 2
  simp only [List.getElem?_cons_zero, List.getElem?_cons_succ] at c4
  have o1 : Onl (fun i => i = p) w4 (w4.setCell ⟨p, 2, none⟩ v2) := Onl.set (O := fun k => k = p) (Onl.refl _ w4) (.inl rfl) _
  have oAll : Onl O w w4 := (ho.more o23 (fun _ q => q.elim)).more o34 (fun i hi => .inl (hown i hi).1)
  refine ⟨v2, w4, gc, gcap, hv2, R2, c4, k4.frozen 2, ?_, oAll.set (.inl h.own) _⟩
  have gcO : Gro O w (w4.setCell ⟨p, 2, none⟩ v2) gc := by
    have hob : v2.ownBlock = some gc := by rw [hv2]; rfl
    rcases hloc with e | e
    · exact .inl (hown gc (by rw [← e, hob])).1
    · rw [hob] at e
      cases e
      exact .inr ⟨by omega, by omega⟩
  have s4 : Row (Gro O w (w4.setCell ⟨p, 2, none⟩ v2)) w4 106 33 v2 (st.acted.C.length + 1) (wcells st.acted.C ++ wrV (k, b)) := ⟨r2, fun g hg => by rw [hv2] at hg; cases hg; exact gcO⟩
  have sS4 := h3.sS.onl o34 (fun g hg q => h3.sS.apart h3.sC (by decide) g hg q)
  have mF4 := h3.mF.onl o34 (fun q => h3.mF.neRow h3.sC q)
  refine ⟨vK, v2, m, lf, ⟨k4.set 2 v2, Gro.of _ h.own, (sS4.onl o1 (fun g hg q => sS4.apartOb k4 (by decide) (by rw [hg, q]))).mono Gro.of, ?_, Gro.of _ h.mO, mF4.onl o1 (mF4.ne k4), h.hlf, ok⟩⟩
  have e1 : wcells (st.C ++ [(k, b)]) = wcells st.acted.C ++ wrV (k, b) := by rw [eC]; simp [wcells]
  have := s4.onl o1 (fun g hg q => s4.apartOb k4 (by decide) (by rw [hg, q]))
  simp only [List.length_append, List.length_cons, List.length_nil]
  rw [e1, ← eC]
  exact this

attribute [local go_sem ↓] ld_exec65 bd_exec67 bs_exec60 Apo.app_exec

set_option maxHeartbeats 2000000 in
theorem cwrite_any {O : Nat → Prop} {w : World} {p : Nat} {st : Sd} (h : CDev O w p st) (hc : st.C.length ≤ 1099511627776) (a : Int) (ba : Option Addr) (bc : Nat) (b : List Int) (hr : Rd .u8 w ba b) (hbo : ∀ x, ba = some x → 0 < b.length → ¬ O x.block) (hby : ∀ z ∈ b, 0 ≤ z ∧ z ≤ 255) :
    Calls Tryz.prog 22 #[.pointer (some ⟨p, 0, none⟩), .int .i64 a, .slice ba b.length bc] w fun e w' => e = .returned (.int .i64 (st.wrote a b).1) ∧ CDev (Gro O w w') w' p (st.wrote a b).2 ∧ Onl O w w' := by
  have okw := h.ok.wrote a hby
  have hR := hide h
  have hRd := hide hr
  clear h hr
  by_cases hd : st.dead = true
  · have e1 : st.wrote a b = (40, st) := by simp [Sd.wrote, hd]
    rw [e1]
    clear e1 okw
    go_enter Tryz.func22, Tryz.ntmps22
    go_wp2_with fail
    refine (cdead_any hR.out).mono ?_
    rintro e w1 ⟨rfl, rfl⟩
    rw [hd]
    go_wp2
    go_ret
    exact ⟨rfl, hR.out.mono Gro.of, Onl.refl _ _⟩
  · have hd' : st.dead = false := by simpa using hd
    by_cases ha : st.has a = true
    · by_cases hl : b.length = 32
      · by_cases hact : st.acts = true
        · have e1 : st.wrote a b = (0, { st.acted with C := st.C ++ [(a.toNat, b)] }) := by simp [Sd.wrote, hd', ha, hl, hact]
          rw [e1] at okw ⊢
          have ha2 := has_iff.1 ha
          obtain ⟨k, rfl⟩ := Int.eq_ofNat_of_zero_le ha2.1
          simp only [Int.toNat_natCast] at okw ⊢
          have hSb : Sec b := ⟨hl, hby⟩
          have HL := hide hl
          have HB := hide hSb
          have HOK := hide okw
          have HBO := hide hbo
          have HD := hide hd'
          rw [hl]
          clear e1 hd hd' okw hbo hl hSb hby
          go_enter Tryz.func22, Tryz.ntmps22
          go_wp2_with fail
          refine (cdead_any hR.out).mono ?_
          rintro e w1 ⟨rfl, rfl⟩
          rw [HD.out]
          go_wp2_with fail
          refine (chas_any hR.out k).mono ?_
          rintro e w1 ⟨rfl, rfl⟩
          rw [ha]
          go_wp2_with fail
          refine (cdies_any hR.out HD.out).mono ?_
          rintro e w1 ⟨rfl, hr1, ho1⟩
          rw [hact]
          have HO1 := hide ho1
          obtain ⟨vK, vC, m, lf, hP⟩ := hr1
          obtain ⟨ca, ccap, hvC, hc1, hc2, hc3, hc4⟩ := hP.sC.form
          subst hvC
          rw [acted_C] at hc1
          have e1 : st.acted.C.length = st.C.length := by rw [acted_C]
          obtain ⟨v2, w4, gc, gcap, hv2, R2, Fin⟩ := cwrite_app hP hc HB.out HOK.out ho1
          subst hv2
          rw [e1] at R2 Fin
          have d1 : w1.cell? ⟨p, 2, none⟩ = some (.slice ca st.C.length ccap) := by have := hP.ob.cell 2; rw [← e1]; exact this
          have d4 : w4.cell? ⟨p, 2, none⟩ = some (.slice ca st.C.length ccap) := Fin.1
          have f4 : w4.frozen? ⟨p, 2, none⟩ = false := Fin.2.1
          have hp1 : p < w1.heap.size := World.block_lt_of_cell? w1 _ d1
          have HF := hide Fin.2.2
          obtain ⟨y1, y2, y3⟩ := app_runs R2
          have hrd := hRd.out.onl HO1.out HBO.out
          obtain ⟨bb, off, hba, _⟩ := hrd 0 (by rw [HL.out]; decide)
          subst hba
          have Lb : Len32 b := ⟨HL.out⟩
          obtain ⟨l1, l2⟩ := ld_sec (w := w1.drew) (g := bb) (o := off) Lb (fun j hj => by
            obtain ⟨b', off', e, hcc⟩ := hrd j (by rw [HL.out]; exact hj)
            cases e
            refine Eq.trans ?_ (hcc.trans ?_)
            · rfl
            · simp [secV, HL.out, hj])
          obtain ⟨n1, n2⟩ := bd_wri (k := k) Lb
          have n3 := is33 (x := (k, b)) Lb
          have HHC := hide hc4
          have ar := run_arr
          clear R2 Fin hP ho1 hc4 hrd e1
          go_wp2
          go_region
          all_goals
            go_wp2
            go_ret
            exact ⟨rfl, HF.out.1, HF.out.2⟩
        · have hact' : st.acts = false := by simpa using hact
          have e1 : st.wrote a b = (40, st.acted) := by simp [Sd.wrote, hd', ha, hl, hact']
          rw [e1]
          have HD := hide hd'
          clear e1 okw hd hd'
          go_enter Tryz.func22, Tryz.ntmps22
          go_wp2_with fail
          refine (cdead_any hR.out).mono ?_
          rintro e w1 ⟨rfl, rfl⟩
          rw [HD.out]
          go_wp2_with fail
          refine (chas_any hR.out a).mono ?_
          rintro e w1 ⟨rfl, rfl⟩
          rw [ha]
          go_wp2_with fail
          refine (cdies_any hR.out HD.out).mono ?_
          rintro e w1 ⟨rfl, hr1, ho1⟩
          rw [hact']
          have HR1 := hide hr1
          have HO1 := hide ho1
          clear hr1 ho1
          go_wp2
          go_ret
          exact ⟨rfl, HR1.out.mono Gro.of, HO1.out⟩
      · have e1 : st.wrote a b = (1, st) := by simp [Sd.wrote, hd', ha, hl]
        rw [e1]
        have hl2 : ((b.length : Int) != 32) = true := by simp; omega
        have HD := hide hd'
        clear e1 okw hd hd'
        go_enter Tryz.func22, Tryz.ntmps22
        go_wp2_with fail
        refine (cdead_any hR.out).mono ?_
        rintro e w1 ⟨rfl, rfl⟩
        rw [HD.out]
        go_wp2_with fail
        refine (chas_any hR.out a).mono ?_
        rintro e w1 ⟨rfl, rfl⟩
        rw [ha]
        go_wp2
        go_ret
        exact ⟨rfl, hR.out.mono Gro.of, Onl.refl _ _⟩
    · have ha' : st.has a = false := by simpa using ha
      have e1 : st.wrote a b = (1, st) := by simp [Sd.wrote, hd', ha']
      rw [e1]
      have HD := hide hd'
      clear e1 okw hd hd'
      go_enter Tryz.func22, Tryz.ntmps22
      go_wp2_with fail
      refine (cdead_any hR.out).mono ?_
      rintro e w1 ⟨rfl, rfl⟩
      rw [HD.out]
      go_wp2_with fail
      refine (chas_any hR.out a).mono ?_
      rintro e w1 ⟨rfl, rfl⟩
      rw [ha']
      go_wp2
      go_ret
      exact ⟨rfl, hR.out.mono Gro.of, Onl.refl _ _⟩
end Go.Proofs.YtegadgncggbeoaaGreat
