/- DiffEdits' walk, over the translation. -/
import Derived.Test.YtbegiiihkmloiaaDWa
import Derived.Test.YtbegiiihkmloiaaDRs
import Derived.Test.YtbegiiihkmloiaaDIc
namespace Go.Proofs.Ytbegiiihkmloiaa
open Go.RowKit Apo
set_option maxRecDepth 100000 in
theorem neqEdS (f : Ed) (w : World) : (binOp .neq 37 (.agg #[.string f.k, .string f.v, .bool f.g]) (.agg #[.string f.k, .string f.v, .bool f.g])).run Try.prog w = .ok (.bool false) w := by
  have u9 := Try.underlying9
  have u4 := Try.underlying4
  have hS : Try.prog.underlying 37 = some (.struct (Try.prog.fieldsOf 37)) := by kernel_rfl
  have hp : Try.prog.stoodInHeld 37 = false := by kernel_rfl
  rw [run_neq_struct, show (10000 : Nat) = 9999 + 1 from rfl, run_equalIn_agg w 9999 37 _ _ hS hp]
  simp only [Program.fieldsOf, Try.underlying37]
  go_simp
theorem neqChS (f : Ch) (w : World) : (binOp .neq 35 (.agg #[.string f.k, .bool f.had, .string f.was, .bool f.has, .string f.now]) (.agg #[.string f.k, .bool f.had, .string f.was, .bool f.has, .string f.now])).run Try.prog w = .ok (.bool false) w := by
  have := neqCh f f w
  simpa using this
open Classical in
set_option maxRecDepth 100000 in
set_option maxHeartbeats 16000000 in
theorem diffEdits11 (w : World) (x : EsA) (y : ChA) (z : EdA) (hx : OkEs w x) (hy : OkChA w y) (hz : OkEdA w z) : Calls Try.prog 5 #[.slice x.a x.l.length x.c, .slice y.a y.l.length y.c, .slice z.a z.l.length z.c] w fun e w' => e = .returned (.bool true) ∧ Below w.heap.size w w' := by
  have CM1 : ∀ W, Below w.heap.size w W → Calls Try.prog 7 #[.slice x.a x.l.length x.c] W fun e w' => e = .returned (.bool (mapB x.l)) ∧ Below W.heap.size W w' := fun W b => map11 W x (hx.below b)
  obtain ⟨a, c, es⟩ := x
  obtain ⟨a', c', cs⟩ := y
  obtain ⟨a2, c2, ds⟩ := z
  simp only at CM1 ⊢
  have hml : maxLen ≤ 9223372036854775807 := by decide
  have hzl : ds.length ≤ 9223372036854775807 := by have h1 := hz.len; have h2 := hz.big; simp only at h1 h2; omega
  have hyl : cs.length ≤ 9223372036854775807 := by have h1 := hy.len; have h2 := hy.big; simp only at h1 h2; omega
  have CE : ∀ W, Below w.heap.size w W → Calls Try.prog 15 #[.slice a2 ds.length c2] W fun e w' => e = .returned (.bool (editsB ds)) ∧ Below W.heap.size W w' := fun W b => ledits_any W a2 c2 ds (hz.rd.below b) hzl hz.sz
  have HX := hide hx
  have HY := hide hy
  have HZ := hide hz
  have HAW := hide (awake11 w)
  have HM1 := hide CM1
  have HCE := hide CE
  obtain ⟨n, hn⟩ : ∃ n, n = es.length := ⟨_, rfl⟩
  obtain ⟨m, hm⟩ : ∃ m, m = cs.length := ⟨_, rfl⟩
  obtain ⟨q, hq⟩ : ∃ q, q = ds.length := ⟨_, rfl⟩
  have HN := hide (And.intro hn (And.intro hm hq))
  rw [← hn] at HM1 ⊢
  rw [← hq] at HCE ⊢
  rw [← hm] at hyl ⊢
  clear hx hy hz CM1 CE hn hm hq hml hzl
  go_enter Try.func5, Try.ntmps5
  go_wp2_with fail
  refine HAW.out.mono ?_
  rintro e' w1 ⟨rfl, b1⟩
  have HB1 := hide b1
  have HC1 := hide (HM1.out w1 b1)
  clear b1
  cases h1 : mapB es with
  | false =>
    rw [h1] at HC1
    go_wp2_with fail
    refine HC1.out.mono ?_
    rintro e' w2 ⟨rfl, b2⟩
    have HB := hide (HB1.out.trans (b2.mono HB1.out.size))
    go_wp2
    go_ret
    exact ⟨rfl, HB.out⟩
  | true =>
    rw [h1] at HC1
    have H1 := hide h1
    clear h1
    go_wp2_with fail
    refine HC1.out.mono ?_
    rintro e' w2 ⟨rfl, b2⟩
    have hB2 := HB1.out.trans (b2.mono HB1.out.size)
    have HB2 := hide hB2
    have HC2 := hide (HCE.out w2 hB2)
    clear b2 hB2 HC1
    by_cases hm30 : 30 < m
    · have hd : decide ((30 : Int) < (m : Int)) = true := decide_eq_true (by omega)
      go_wp2
      go_ret
      exact ⟨rfl, HB2.out⟩
    · have hd : decide ((30 : Int) < (m : Int)) = false := decide_eq_false (by omega)
      cases h2 : editsB ds with
      | false =>
        rw [h2] at HC2
        go_wp2_with fail
        refine HC2.out.mono ?_
        rintro e' w3 ⟨rfl, b3⟩
        have HB := hide (HB2.out.trans (b3.mono HB2.out.size))
        go_wp2
        go_ret
        exact ⟨rfl, HB.out⟩
      | true =>
        rw [h2] at HC2
        have hq20 : ds.length ≤ 20 := by
          unfold editsB at h2
          rw [Bool.and_eq_true, decide_eq_true_eq] at h2
          exact h2.2
        obtain ⟨l1, _, r1⟩ := mapB_ok H1.out
        have HQ := hide (And.intro hq20 l1)
        clear h2 hq20 l1
        go_wp2_with fail
        refine HC2.out.mono ?_
        rintro e' w3 ⟨rfl, b3⟩
        have hB3 := HB2.out.trans (b3.mono HB2.out.size)
        have HB3 := hide hB3
        have C3 := dedits_any w3 a' c' cs (HY.out.rd.below hB3) (by have := HN.out; omega)
        rw [← HN.out.2.1] at C3
        have HC3 := hide C3
        clear C3 b3 hB3 HC2
        go_wp2_with fail
        refine HC3.out.mono ?_
        rintro e' w4 ⟨xs, va4, vc4, rfl, rfl, row4, b4⟩
        obtain ⟨a4, c4, hv4, rd4, _⟩ := rd_gcells cEd_len row4
        injection hv4 with e1 _ e3
        subst e1 e3
        have hB4 := HB3.out.trans (b4.mono HB3.out.size)
        have HB4 := hide hB4
        have HR4 := hide rd4
        have C5 := dturn_any w4 a' c' cs (HY.out.rd.below hB4) (by have := HN.out; omega)
        rw [← HN.out.2.1] at C5
        have HC5 := hide C5
        rw [show (cs.map edOf).length = m by rw [List.length_map]; exact HN.out.2.1.symm]
        clear C5 b4 hB4 row4 rd4 HC3
        go_wp2_with fail
        refine HC5.out.mono ?_
        rintro e' w5 ⟨ys, va5, vc5, rfl, rfl, row5, b5⟩
        obtain ⟨a5, c5, hv5, rd5, _⟩ := rd_gcells cCh_len row5
        injection hv5 with e1 _ e3
        subst e1 e3
        have hB5 := HB4.out.trans (b5.mono HB4.out.size)
        have HB5 := hide hB5
        have HR45 := hide (HR4.out.below b5)
        have HR5 := hide rd5
        have HY5 := hide (HY.out.rd.below hB5)
        rw [show (cs.map tuOf).length = m by rw [List.length_map]; exact HN.out.2.1.symm]
        have hne : ((m : Int) != (m : Int)) = false := by simp
        simp only at HY5
        clear b5 hB5 row5 rd5 HC5 HR4
        go_wp2
        go_loopw [45] (fun i wr => ∃ k : Nat, k ≤ m ∧ i = .int .i64 k ∧ Hid (Below w5.heap.size w5 wr)) (fun i _ => m - (intOf i).toNat)
        case atStart => exact ⟨0, Nat.zero_le _, rfl, hide (Below.refl _ _)⟩
        case round =>
          obtain ⟨k, hk, rfl, HBr⟩ := hrel
          by_cases hkm : k < m
          · obtain ⟨⟨ek, eh, ew, es2, en⟩, hx⟩ : ∃ x, cs[k]? = some x := ⟨cs[k]'(by have := HN.out; omega), List.getElem?_eq_getElem _⟩
            obtain ⟨g, o, rfl, q0, q1, q2, q3, q4⟩ := (HY5.out.below HBr.out).ch hx
            simp only at q0 q1 q2 q3 q4
            obtain ⟨W1, hW1⟩ : ∃ W1, W1 = wr.alloc (.cells #[.string ek, .bool eh, .string ew, .bool es2, .string en] 35) := ⟨_, rfl⟩
            have b1 : Below wr.heap.size wr W1 := by rw [hW1]; exact (Below.refl _ wr).alloc (Nat.le_refl _) _
            have kb : Ob W1 wr.heap.size 35 [.string ek, .bool eh, .string ew, .bool es2, .string en] := by rw [hW1]; exact Ob.new wr [.string ek, .bool eh, .string ew, .bool es2, .string en] 35
            obtain ⟨fe, hfe⟩ : ∃ fe : Ed, fe = edOf ⟨ek, eh, ew, es2, en⟩ := ⟨_, rfl⟩
            obtain ⟨W2, hW2⟩ : ∃ W2, W2 = W1.alloc (.cells #[.string fe.k, .string fe.v, .bool fe.g] 37) := ⟨_, rfl⟩
            have b2 : Below W1.heap.size W1 W2 := by rw [hW2]; exact (Below.refl _ W1).alloc (Nat.le_refl _) _
            have b12 : Below wr.heap.size wr W2 := b1.trans (b2.mono b1.size)
            have kb2 : Ob W2 W1.heap.size 37 [.string fe.k, .string fe.v, .bool fe.g] := by rw [hW2]; exact Ob.new W1 [.string fe.k, .string fe.v, .bool fe.g] 37
            have hs1 : W1.heap.size = wr.heap.size + 1 := by rw [hW1]; simp
            rw [hs1] at kb2
            have kb1 := kb.old b2
            have y0 := kb.cell 0
            have y1 := kb.cell 1
            have y2 := kb.cell 2
            have y3 := kb.cell 3
            have y4 := kb.cell 4
            have z0 := kb1.cell 0
            have z1 := kb1.cell 1
            have z2 := kb1.cell 2
            have z3 := kb1.cell 3
            have z4 := kb1.cell 4
            have t0 := kb2.cell 0
            have t1 := kb2.cell 1
            have t2 := kb2.cell 2
            simp only [List.getElem?_cons_zero, List.getElem?_cons_succ] at y0 y1 y2 y3 y4 z0 z1 z2 z3 z4 t0 t1 t2
            have hxe : (cs.map edOf)[k]? = some fe := by rw [List.getElem?_map, hx, hfe]; rfl
            have hxt : (cs.map tuOf)[k]? = some (tuOf ⟨ek, eh, ew, es2, en⟩) := by rw [List.getElem?_map, hx]; rfl
            obtain ⟨g4, o4, rfl, p0, p1, p2⟩ := ((HR45.out.below HBr.out).below b12).ed hxe
            obtain ⟨g5, o5, rfl, s0, s1, s2, s3, s4⟩ := ((HR5.out.below HBr.out).below b12).ch hxt
            simp only [tuOf] at s0 s1 s2 s3 s4
            have hc1 := neqEdS fe
            have hc2 := neqChS (tuOf ⟨ek, eh, ew, es2, en⟩)
            simp only [tuOf] at hc2
            have hg1 : Try.prog.eqGuardType Try.prog.depth 37 = false := by kernel_rfl
            have hg2 : Try.prog.eqGuardType Try.prog.depth 35 = false := by kernel_rfl
            have HB2' := hide (HBr.out.trans (b12.mono HBr.out.size))
            rw [hW1] at y0 y1 y2 y3 y4
            clear hx b1 b2 b12 kb kb1 kb2 hxe hxt hs1
            cases es2 with
            | true =>
              have hfe2 : fe = ⟨ek, en, false⟩ := by rw [hfe]; rfl
              subst hfe2
              clear hfe
              simp only at hW2 p0 p1 p2 t0 t1 t2 hc1
              rw [hW1] at hW2
              go_wp2
              rw [← hW2]
              clear hW2 hW1 y0 y1 y2 y3 y4
              go_quiet (fail)
              go_wp2
              go_roundw
              case rel => exact ⟨k + 1, by omega, by simp, hide (below_drewN HB2'.out _)⟩
              case measure => simp [intOf]; omega
            | false =>
              have hfe2 : fe = ⟨ek, ⟨#[]⟩, true⟩ := by rw [hfe]; rfl
              subst hfe2
              clear hfe
              simp only at hW2 p0 p1 p2 t0 t1 t2 hc1
              rw [hW1] at hW2
              go_wp2
              rw [← hW2]
              clear hW2 hW1 y0 y1 y2 y3 y4
              go_quiet (fail)
              go_wp2
              go_roundw
              case rel => exact ⟨k + 1, by omega, by simp, hide (below_drewN HB2'.out _)⟩
              case measure => simp [intOf]; omega
          · have hB6 := HB5.out.trans (HBr.out.mono HB5.out.size)
            have HB6 := hide hB6
            have C6 := daapply wr a a2 c c2 es ds (HX.out.rd.below hB6) (HZ.out.rd.below hB6) (by have := HQ.out; omega) (by have := HQ.out; omega)
            rw [← HN.out.1, ← HN.out.2.2] at C6
            have HC6 := hide C6
            clear C6 hB6
            go_wp2_with fail
            refine HC6.out.mono ?_
            rintro e' w7 ⟨us, va7, vc7, rfl, ap7, row7, b7⟩
            have hB7 := HB6.out.trans (b7.mono HB6.out.size)
            have HB7 := hide hB7
            obtain ⟨a7, c7, hv7, rd7, _⟩ := rd_gcells cEn_len row7
            injection hv7 with e1 _ e3
            subst e1 e3
            have HR7 := hide (RdG.en.1 rd7)
            have HAP := hide ap7
            have C8 := rapply_any w7 a a2 c c2 es ds (HX.out.rd.below hB7) (HZ.out.rd.below hB7) (by have := HQ.out; omega) (by have := HQ.out; omega) r1
            rw [← HN.out.1, ← HN.out.2.2] at C8
            have HC8 := hide C8
            obtain ⟨nu, hnu⟩ : ∃ nu, nu = us.length := ⟨_, rfl⟩
            have HNU := hide hnu
            rw [← hnu]
            clear C8 b7 hB7 row7 rd7 ap7 HC6 hnu
            go_wp2_with fail
            refine HC8.out.mono ?_
            rintro e' w8 ⟨vs, va8, vc8, rfl, ap8, rd8, hl8, b8⟩
            obtain rfl : us = vs := HAP.out.uniq ap8
            have C9 := sameEn_any va7 vc7 us va8 vc8 us w8 (HR7.out.below b8) rd8 (by have := HQ.out; have := HN.out; omega)
            rw [← HNU.out, decide_eq_true rfl] at C9
            rw [← HNU.out]
            have HC9 := hide C9
            have HB8 := hide (HB7.out.trans (b8.mono HB7.out.size))
            clear C9 b8 rd8 ap8 HC8
            go_wp2_with fail
            refine HC9.out.mono ?_
            rintro e' w9 ⟨rfl, b9⟩
            have HB9 := hide (HB8.out.trans (b9.mono HB8.out.size))
            go_wp2
            go_ret
            exact ⟨rfl, HB9.out⟩
end Go.Proofs.Ytbegiiihkmloiaa
