/- DiffTurns' walk, over the translation. -/
import Derived.Test.YtbegiiihkmloiaaDWa
import Derived.Test.YtbegiiihkmloiaaDAp
namespace Go.Proofs.Ytbegiiihkmloiaa
open Go.RowKit Apo
theorem OfR.len {es fs : List En} {cs : List Ch} (h : OfR es fs cs) : cs.length ≤ es.length + fs.length := by
  induction h with
  | done => exact Nat.zero_le _
  | @step es fs key cs hl hr ih =>
    have h1 := take_less hl
    have h2 : (chOf key (takeK es key).1 (takeK fs key).1).length ≤ 1 := by unfold chOf; split <;> simp
    rw [List.length_append]
    omega
open Classical in
set_option maxRecDepth 100000 in
set_option maxHeartbeats 16000000 in
theorem diffTurns11 (w : World) (x y : EsA) (hx : OkEs w x) (hy : OkEs w y) : Calls Try.prog 4 #[.slice x.a x.l.length x.c, .slice y.a y.l.length y.c] w fun e w' => e = .returned (.bool true) ∧ Below w.heap.size w w' := by
  have CM1 : ∀ W, Below w.heap.size w W → Calls Try.prog 7 #[.slice x.a x.l.length x.c] W fun e w' => e = .returned (.bool (mapB x.l)) ∧ Below W.heap.size W w' := fun W b => map11 W x (hx.below b)
  have CM2 : ∀ W, Below w.heap.size w W → Calls Try.prog 7 #[.slice y.a y.l.length y.c] W fun e w' => e = .returned (.bool (mapB y.l)) ∧ Below W.heap.size W w' := fun W b => map11 W y (hy.below b)
  obtain ⟨a, c, es⟩ := x
  obtain ⟨a', c', fs⟩ := y
  simp only at CM1 CM2 ⊢
  have HX := hide hx
  have HY := hide hy
  have HAW := hide (awake11 w)
  have HM1 := hide CM1
  have HM2 := hide CM2
  obtain ⟨n, hn⟩ : ∃ n, n = es.length := ⟨_, rfl⟩
  obtain ⟨m, hm⟩ : ∃ m, m = fs.length := ⟨_, rfl⟩
  have HN := hide (And.intro hn hm)
  rw [← hn] at HM1 ⊢
  rw [← hm] at HM2 ⊢
  clear hx hy CM1 CM2 hn hm
  go_enter Try.func4, Try.ntmps4
  go_wp2_with fail
  refine HAW.out.mono ?_
  rintro e' w1 ⟨rfl, b1⟩
  have HB1 := hide b1
  have HC1 := hide (HM1.out w1 b1)
  clear b1
  cases h1 : mapB es with
  | false =>
    rw [h1] at HC1
    go_wp2_with fail
    refine HC1.out.mono ?_
    rintro e' w2 ⟨rfl, b2⟩
    have HB := hide (HB1.out.trans (b2.mono HB1.out.size))
    go_wp2
    go_ret
    exact ⟨rfl, HB.out⟩
  | true =>
    rw [h1] at HC1
    have H1 := hide h1
    clear h1
    go_wp2_with fail
    refine HC1.out.mono ?_
    rintro e' w2 ⟨rfl, b2⟩
    have hB2 := HB1.out.trans (b2.mono HB1.out.size)
    have HB2 := hide hB2
    have HC2 := hide (HM2.out w2 hB2)
    clear b2 hB2 HC1
    cases h2 : mapB fs with
    | false =>
      rw [h2] at HC2
      go_wp2_with fail
      refine HC2.out.mono ?_
      rintro e' w3 ⟨rfl, b3⟩
      have HB := hide (HB2.out.trans (b3.mono HB2.out.size))
      go_wp2
      go_ret
      exact ⟨rfl, HB.out⟩
    | true =>
      rw [h2] at HC2
      have H2 := hide h2
      clear h2
      go_wp2_with fail
      refine HC2.out.mono ?_
      rintro e' w3 ⟨rfl, b3⟩
      have hB3 := HB2.out.trans (b3.mono HB2.out.size)
      obtain ⟨l1, _, r1⟩ := mapB_ok H1.out
      obtain ⟨l2, _, r2⟩ := mapB_ok H2.out
      have HB3 := hide hB3
      have C3 := dof_any w3 a a' c c' es fs (HX.out.rd.below hB3) (HY.out.rd.below hB3) (by omega) (by omega) HX.out.len HY.out.len HX.out.big HY.out.big
      rw [← HN.out.1, ← HN.out.2] at C3
      have HC3 := hide C3
      clear C3 b3 hB3 HC2
      go_wp2_with fail
      refine HC3.out.mono ?_
      rintro e' w4 ⟨cs, va, vc, rfl, hof, row, b4⟩
      have hdc : DiffC es fs cs := hof.is r1 r2
      have hB4 := HB3.out.trans (b4.mono HB3.out.size)
      have HB4 := hide hB4
      have HDC := hide hdc
      have hrl : cs.length ≤ 1000 := by have := hof.len; omega
      obtain ⟨a1, c1, hv1, rd1, _⟩ := rd_gcells cCh_len row
      injection hv1 with e1 _ e3
      subst e1 e3
      have HRD := hide rd1
      have C5 := dedits_any w4 va vc cs rd1 (by omega)
      obtain ⟨nc, hnc⟩ : ∃ nc, nc = cs.length := ⟨_, rfl⟩
      have HNC := hide hnc
      rw [← hnc] at C5 ⊢
      have HC5 := hide C5
      clear C5 b4 hB4 HC3 hof row hnc hdc rd1
      go_wp2_with fail
      refine HC5.out.mono ?_
      rintro e' w5 ⟨es1, va5, vc5, rfl, rfl, row5, b5⟩
      have hB5 := HB4.out.trans (b5.mono HB4.out.size)
      have HB5 := hide hB5
      have HB45 := hide b5
      obtain ⟨a5, c5, hv5, rd5, _⟩ := rd_gcells cEd_len row5
      injection hv5 with e1 _ e3
      subst e1 e3
      have C6 := daapply w5 a va5 c vc5 es (cs.map edOf) (HX.out.rd.below hB5) rd5 (by omega) (by rw [List.length_map]; omega)
      rw [← HN.out.1] at C6
      obtain ⟨ne, hne⟩ : ∃ ne, ne = (cs.map edOf).length := ⟨_, rfl⟩
      rw [← hne] at C6 ⊢
      have HC6 := hide C6
      clear C6 b5 hB5 row5 rd5 hne HC5
      go_wp2_with fail
      refine HC6.out.mono ?_
      rintro e' w6 ⟨xs, va6, vc6, rfl, hap, row6, b6⟩
      obtain rfl : xs = fs := hap.uniq (diff_apply HDC.out r2)
      have hB6 := HB5.out.trans (b6.mono HB5.out.size)
      have HB6 := hide hB6
      have HB46 := hide (HB45.out.trans (b6.mono HB45.out.size))
      obtain ⟨a6, c6, hv6, rd6, _⟩ := rd_gcells cEn_len row6
      injection hv6 with e1 _ e3
      subst e1 e3
      have C7 := sameEn_any va6 vc6 xs a' c' xs w6 (RdG.en.1 rd6) (HY.out.rd.below hB6) (by omega)
      rw [← HN.out.2, decide_eq_true rfl] at C7
      rw [← HN.out.2]
      have HC7 := hide C7
      clear C7 b6 hB6 row6 rd6 HC6 hap
      go_wp2_with fail
      refine HC7.out.mono ?_
      rintro e' w7 ⟨rfl, b7⟩
      have hB7 := HB6.out.trans (b7.mono HB6.out.size)
      have HB7 := hide hB7
      have hb47 := HB46.out.trans (b7.mono HB46.out.size)
      have HB47 := hide hb47
      have C8 := dturn_any w7 va vc cs (HRD.out.below hb47) (by omega)
      rw [← HNC.out] at C8
      have HC8 := hide C8
      clear C8 b7 hB7 hb47 HC7
      go_wp2_with fail
      refine HC8.out.mono ?_
      rintro e' w8 ⟨ts, va8, vc8, rfl, rfl, row8, b8⟩
      have hB8 := HB7.out.trans (b8.mono HB7.out.size)
      have HB8 := hide hB8
      have HB48 := hide (HB47.out.trans (b8.mono HB47.out.size))
      obtain ⟨a8, c8, hv8, rd8, _⟩ := rd_gcells cCh_len row8
      injection hv8 with e1 _ e3
      subst e1 e3
      have HRD8 := hide rd8
      have C9 := dof_any w8 a' a c' c xs es (HY.out.rd.below hB8) (HX.out.rd.below hB8) (by omega) (by omega) HY.out.len HX.out.len HY.out.big HX.out.big
      rw [← HN.out.1, ← HN.out.2] at C9
      obtain ⟨nt, hnt⟩ : ∃ nt, nt = (cs.map tuOf).length := ⟨_, rfl⟩
      have HNT := hide hnt
      rw [← hnt]
      have HC9 := hide C9
      clear C9 b8 hB8 row8 rd8 hnt HC8
      go_wp2_with fail
      refine HC9.out.mono ?_
      rintro e' w9 ⟨ds, va9, vc9, rfl, hof9, row9, b9⟩
      obtain rfl : ds = cs.map tuOf := DiffC.uniq (hof9.is r2 r1) (diff_turn HDC.out)
      have HB9 := hide (HB8.out.trans (b9.mono HB8.out.size))
      have HB49 := hide (HB48.out.trans (b9.mono HB48.out.size))
      obtain ⟨a9, c9, hv9, rd9, _⟩ := rd_gcells cCh_len row9
      injection hv9 with e1 _ e3
      subst e1 e3
      have C10 := sameCh_any va8 vc8 (cs.map tuOf) va9 vc9 (cs.map tuOf) w9 (HRD8.out.below b9) rd9 (by rw [List.length_map]; omega)
      rw [← HNT.out, decide_eq_true rfl] at C10
      rw [← HNT.out]
      have HC10 := hide C10
      clear C10 b9 row9 rd9 hof9 HC9 HRD8
      go_wp2_with fail
      refine HC10.out.mono ?_
      rintro e' w10 ⟨rfl, b10⟩
      have HB10 := hide (HB9.out.trans (b10.mono HB9.out.size))
      have hb410 := HB49.out.trans (b10.mono HB49.out.size)
      have HB410 := hide hb410
      have C11 := dturn_any w10 va vc cs (HRD.out.below hb410) (by omega)
      rw [← HNC.out] at C11
      have HC11 := hide C11
      clear C11 b10 hb410 HC10
      go_wp2_with fail
      refine HC11.out.mono ?_
      rintro e' w11 ⟨ts, va11, vc11, rfl, rfl, row11, b11⟩
      have HB11 := hide (HB10.out.trans (b11.mono HB10.out.size))
      obtain ⟨a11, c11, hv11, rd11, _⟩ := rd_gcells cCh_len row11
      injection hv11 with e1 _ e3
      subst e1 e3
      have C12 := dedits_any w11 va11 vc11 (cs.map tuOf) rd11 (by rw [List.length_map]; omega)
      rw [← HNT.out] at C12 ⊢
      have HC12 := hide C12
      clear C12 b11 row11 rd11 HC11
      go_wp2_with fail
      refine HC12.out.mono ?_
      rintro e' w12 ⟨es2, va12, vc12, rfl, rfl, row12, b12⟩
      have hB12 := HB11.out.trans (b12.mono HB11.out.size)
      have HB12 := hide hB12
      obtain ⟨a12, c12, hv12, rd12, _⟩ := rd_gcells cEd_len row12
      injection hv12 with e1 _ e3
      subst e1 e3
      have C13 := daapply w12 a' va12 c' vc12 xs ((cs.map tuOf).map edOf) (HY.out.rd.below hB12) rd12 (by omega) (by rw [List.length_map, List.length_map]; omega)
      rw [← HN.out.2] at C13
      obtain ⟨nf, hnf⟩ : ∃ nf, nf = ((cs.map tuOf).map edOf).length := ⟨_, rfl⟩
      rw [← hnf] at C13 ⊢
      have HC13 := hide C13
      clear C13 b12 hB12 row12 rd12 hnf HC12
      go_wp2_with fail
      refine HC13.out.mono ?_
      rintro e' w13 ⟨ys, va13, vc13, rfl, hap, row13, b13⟩
      obtain rfl : ys = es := hap.uniq (diff_apply (diff_turn HDC.out) r1)
      have hB13 := HB12.out.trans (b13.mono HB12.out.size)
      have HB13 := hide hB13
      obtain ⟨a13, c13, hv13, rd13, _⟩ := rd_gcells cEn_len row13
      injection hv13 with e1 _ e3
      subst e1 e3
      have C14 := sameEn_any va13 vc13 ys a c ys w13 (RdG.en.1 rd13) (HX.out.rd.below hB13) (by omega)
      rw [← HN.out.1, decide_eq_true rfl] at C14
      rw [← HN.out.1]
      have HC14 := hide C14
      clear C14 b13 hB13 row13 rd13 HC13 hap
      go_wp2_with fail
      refine HC14.out.mono ?_
      rintro e' w14 ⟨rfl, b14⟩
      have HB14 := hide (HB13.out.trans (b14.mono HB13.out.size))
      go_wp2
      go_ret
      exact ⟨rfl, HB14.out⟩
end Go.Proofs.Ytbegiiihkmloiaa
