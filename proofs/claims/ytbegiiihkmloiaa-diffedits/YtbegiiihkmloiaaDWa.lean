/- Law 11's awake and Map, and DiffOf's walk, over the translation. -/
import Derived.Test.YtbegiiihkmloiaaDSc
import Derived.Test.YtbegiiihkmloiaaDIn
namespace Go.Proofs.Ytbegiiihkmloiaa
open Go.RowKit Apo
theorem of_one {a x y : ByteArray} {cs : List Ch} (hne : x ≠ y) (h : OfR [⟨a, x⟩] [⟨a, y⟩] cs) : cs = [⟨a, true, x, true, y⟩] := by
  refine DiffC.uniq (h.is (by simp [RiseE]) (by simp [RiseE])) ⟨by simp [Rise], fun c => ?_⟩
  rw [List.mem_singleton]
  constructor
  · rintro rfl
    exact ⟨.inl ⟨rfl, _, List.mem_singleton.2 rfl, rfl, rfl⟩, .inl ⟨rfl, _, List.mem_singleton.2 rfl, rfl, rfl⟩, fun q => hne (by injection q)⟩
  · rintro ⟨h1, h2, h3⟩
    obtain ⟨ck, chad, cwas, chas, cnow⟩ := c
    simp only at h1 h2 h3
    have key : ck = a := by
      rcases h1 with ⟨_, e, he, q, _⟩ | ⟨a1, a2, _⟩
      · rw [List.mem_singleton] at he; rw [he] at q; exact q.symm
      · rcases h2 with ⟨_, e, he, q, _⟩ | ⟨a3, a4, _⟩
        · rw [List.mem_singleton] at he; rw [he] at q; exact q.symm
        · exact absurd (by rw [a1, a2, a3, a4]) h3
    subst key
    obtain ⟨e1, e2⟩ := gets_uniq (es := [⟨ck, x⟩]) (by simp [RiseE]) h1 (.inl ⟨rfl, _, List.mem_singleton.2 rfl, rfl, rfl⟩)
    obtain ⟨e3, e4⟩ := gets_uniq (es := [⟨ck, y⟩]) (by simp [RiseE]) h2 (.inl ⟨rfl, _, List.mem_singleton.2 rfl, rfl, rfl⟩)
    rw [e1, e2, e3, e4]
set_option maxRecDepth 100000 in
set_option maxHeartbeats 4000000 in
theorem awake11 (w : World) : Calls Try.prog 6 #[] w fun e w' => e = .returned (.bool true) ∧ Below w.heap.size w w' := by
  obtain ⟨W0, hW0⟩ : ∃ W0, W0 = (w.alloc (.cells #[.string ⟨#[97]⟩, .string ⟨#[49]⟩] 40)).alloc (.cells #[.string ⟨#[97]⟩, .string ⟨#[50]⟩] 40) := ⟨_, rfl⟩
  have b0 : Below w.heap.size w W0 := by rw [hW0]; exact ((Below.refl _ w).alloc (Nat.le_refl _) _).alloc (by simp) _
  have r1 : RdEn W0 (some ⟨w.heap.size, 0, none⟩) [⟨⟨#[97]⟩, ⟨#[49]⟩⟩] := by
    rw [hW0]
    exact (RdG.en.1 (rd_lit (c := cEn) (k := 2) 40 w ⟨⟨#[97]⟩, ⟨#[49]⟩⟩)).below ((Below.refl _ _).alloc (Nat.le_refl _) _)
  have r2 : RdEn W0 (some ⟨w.heap.size + 1, 0, none⟩) [⟨⟨#[97]⟩, ⟨#[50]⟩⟩] := by
    rw [hW0]
    have := RdG.en.1 (rd_lit (c := cEn) (k := 2) 40 (w.alloc (.cells #[.string ⟨#[97]⟩, .string ⟨#[49]⟩] 40)) ⟨⟨#[97]⟩, ⟨#[50]⟩⟩)
    rw [World.size_alloc] at this
    exact this
  have C := dof_any W0 _ _ 1 1 _ _ r1 r2 (by simp) (by simp) (by simp) (by simp) (by decide) (by decide)
  simp only [List.length_cons, List.length_nil, Nat.zero_add] at C
  have HC := hide C
  have HB := hide b0
  clear C r1 r2 b0
  go_enter Try.func6, Try.ntmps6
  go_wp2_with fail
  rw [← hW0]
  clear hW0
  refine HC.out.mono ?_
  rintro e' w1 ⟨cs, va, vc, rfl, hof, row, b1⟩
  obtain rfl := of_one (by decide) hof
  obtain ⟨a', cp', hv', rd', _⟩ := rd_gcells cCh_len row
  injection hv' with e1 e2 e3
  subst e1 e3
  obtain ⟨g, o, rfl, c0, c1, c2, c3, c4⟩ := rd'.ch (i := 0) rfl
  simp only [Nat.zero_mul, Nat.add_zero] at c0 c1 c2 c3 c4
  have HB2 := hide (HB.out.trans (b1.mono HB.out.size))
  clear hof row b1 rd' e2 HB HC
  simp only [List.length_cons, List.length_nil, Nat.zero_add]
  go_wp2
  go_ret
  exact ⟨rfl, HB2.out⟩
open Classical in
/-- whether entries are a small map -/
noncomputable def mapB (l : List En) : Bool := lightB l && decide (rightE l = 0)
theorem mapB_ok {l : List En} (h : mapB l = true) : l.length ≤ 60 ∧ MapOk l ∧ RiseE l := by
  unfold mapB at h
  rw [Bool.and_eq_true, decide_eq_true_eq] at h
  have h2 := rightE_map h.2
  have h1 := h.1
  unfold lightB at h1
  rw [Bool.and_eq_true, decide_eq_true_eq] at h1
  exact ⟨h1.2, h2, riseE_iff.2 h2.rise⟩
set_option maxRecDepth 100000 in
set_option maxHeartbeats 4000000 in
theorem map11 (w : World) (x : EsA) (hx : OkEs w x) : Calls Try.prog 7 #[.slice x.a x.l.length x.c] w fun e w' => e = .returned (.bool (mapB x.l)) ∧ Below w.heap.size w w' := by
  obtain ⟨a, c, es⟩ := x
  simp only
  have hml : maxLen ≤ 9223372036854775807 := by decide
  have hbig := hx.big
  have hlen := hx.len
  simp only at hbig hlen
  have C1 := light_any w a c es hx.rd (by omega) hx.sz
  have HC1 := hide C1
  have HX := hide hx
  obtain ⟨n, hn⟩ : ∃ n, n = es.length := ⟨_, rfl⟩
  have HN := hide hn
  rw [← hn] at HC1 ⊢
  clear hbig hlen hn hx C1
  cases hl : lightB es with
  | false =>
    have hm : mapB es = false := by unfold mapB; rw [hl]; rfl
    rw [hl] at HC1
    rw [hm]
    clear hl hm
    go_enter Try.func7, Try.ntmps7
    go_wp2_with fail
    refine HC1.out.mono ?_
    rintro e' w1 ⟨rfl, b1⟩
    go_wp2
    go_ret
    exact ⟨rfl, b1⟩
  | true =>
    have hn60 : es.length ≤ 60 := by
      have h1 := hl
      unfold lightB at h1
      rw [Bool.and_eq_true, decide_eq_true_eq] at h1
      exact h1.2
    have C2 : ∀ W, Below w.heap.size w W → Calls Try.prog 18 #[.slice a n c] W (RrP es W) := fun W b => by
      have := rright_any W a c es (HX.out.rd.below b) (by omega) HX.out.sz
      rwa [← HN.out] at this
    have HC2 := hide C2
    have hm : mapB es = decide (rightE es = 0) := by unfold mapB; rw [hl]; rfl
    rw [hl] at HC1
    rw [hm]
    clear C2 hl hm
    obtain ⟨r, hr⟩ : ∃ r, r = rightE es := ⟨_, rfl⟩
    unfold RrP at HC2
    rw [← hr] at HC2 ⊢
    clear hr
    go_enter Try.func7, Try.ntmps7
    go_wp2_with fail
    refine HC1.out.mono ?_
    rintro e' w1 ⟨rfl, b1⟩
    have HC2' := hide (HC2.out w1 b1)
    go_wp2_with fail
    refine HC2'.out.mono ?_
    rintro e' w2 ⟨rfl, b2⟩
    have HB := hide (b1.trans (b2.mono b1.size))
    clear b1 b2
    go_wp2
    go_ret
    refine ⟨?_, HB.out⟩
    by_cases q : r = 0
    · simp [q]
    · simp [q]
open Classical in
set_option maxRecDepth 100000 in
set_option maxHeartbeats 4000000 in
theorem diffOf11 (w : World) (x y : EsA) (hx : OkEs w x) (hy : OkEs w y) : Calls Try.prog 3 #[.slice x.a x.l.length x.c, .slice y.a y.l.length y.c] w fun e w' => e = .returned (.bool true) ∧ Below w.heap.size w w' := by
  have CM1 : ∀ W, Below w.heap.size w W → Calls Try.prog 7 #[.slice x.a x.l.length x.c] W fun e w' => e = .returned (.bool (mapB x.l)) ∧ Below W.heap.size W w' := fun W b => map11 W x (hx.below b)
  have CM2 : ∀ W, Below w.heap.size w W → Calls Try.prog 7 #[.slice y.a y.l.length y.c] W fun e w' => e = .returned (.bool (mapB y.l)) ∧ Below W.heap.size W w' := fun W b => map11 W y (hy.below b)
  obtain ⟨a, c, es⟩ := x
  obtain ⟨a', c', fs⟩ := y
  simp only at CM1 CM2 ⊢
  have HX := hide hx
  have HY := hide hy
  have HAW := hide (awake11 w)
  have HM1 := hide CM1
  have HM2 := hide CM2
  obtain ⟨n, hn⟩ : ∃ n, n = es.length := ⟨_, rfl⟩
  obtain ⟨m, hm⟩ : ∃ m, m = fs.length := ⟨_, rfl⟩
  have HN := hide (And.intro hn hm)
  rw [← hn] at HM1 ⊢
  rw [← hm] at HM2 ⊢
  clear hx hy CM1 CM2 hn hm
  go_enter Try.func3, Try.ntmps3
  go_wp2_with fail
  refine HAW.out.mono ?_
  rintro e' w1 ⟨rfl, b1⟩
  have HB1 := hide b1
  have HC1 := hide (HM1.out w1 b1)
  clear b1
  cases h1 : mapB es with
  | false =>
    rw [h1] at HC1
    go_wp2_with fail
    refine HC1.out.mono ?_
    rintro e' w2 ⟨rfl, b2⟩
    have HB := hide (HB1.out.trans (b2.mono HB1.out.size))
    go_wp2
    go_ret
    exact ⟨rfl, HB.out⟩
  | true =>
    rw [h1] at HC1
    have H1 := hide h1
    clear h1
    go_wp2_with fail
    refine HC1.out.mono ?_
    rintro e' w2 ⟨rfl, b2⟩
    have hB2 := HB1.out.trans (b2.mono HB1.out.size)
    have HB2 := hide hB2
    have HC2 := hide (HM2.out w2 hB2)
    clear b2 hB2 HC1
    cases h2 : mapB fs with
    | false =>
      rw [h2] at HC2
      go_wp2_with fail
      refine HC2.out.mono ?_
      rintro e' w3 ⟨rfl, b3⟩
      have HB := hide (HB2.out.trans (b3.mono HB2.out.size))
      go_wp2
      go_ret
      exact ⟨rfl, HB.out⟩
    | true =>
      rw [h2] at HC2
      have H2 := hide h2
      clear h2
      go_wp2_with fail
      refine HC2.out.mono ?_
      rintro e' w3 ⟨rfl, b3⟩
      have hB3 := HB2.out.trans (b3.mono HB2.out.size)
      obtain ⟨l1, _, r1⟩ := mapB_ok H1.out
      obtain ⟨l2, _, r2⟩ := mapB_ok H2.out
      have HB3 := hide hB3
      have C3 := dof_any w3 a a' c c' es fs (HX.out.rd.below hB3) (HY.out.rd.below hB3) (by omega) (by omega) HX.out.len HY.out.len HX.out.big HY.out.big
      rw [← HN.out.1, ← HN.out.2] at C3
      have HC3 := hide C3
      clear C3 b3 hB3 HC2
      go_wp2_with fail
      refine HC3.out.mono ?_
      rintro e' w4 ⟨cs, va, vc, rfl, hof, row, b4⟩
      have hB4 := HB3.out.trans (b4.mono HB3.out.size)
      have HB4 := hide hB4
      have C4 := rdiff_any w4 a a' c c' es fs (HX.out.rd.below hB4) (HY.out.rd.below hB4) (by omega) (by omega) r1 r2
      rw [← HN.out.1, ← HN.out.2] at C4
      have HC4 := hide C4
      have HOF := hide hof
      have HROW := hide row
      obtain ⟨nc, hnc⟩ : ∃ nc, nc = cs.length := ⟨_, rfl⟩
      have HNC := hide hnc
      rw [← hnc]
      clear C4 b4 hB4 HC3 hof row hnc
      go_wp2_with fail
      refine HC4.out.mono ?_
      rintro e' w5 ⟨ds, va', vc', rfl, hdf, row', b5⟩
      obtain rfl : cs = ds := DiffC.uniq (HOF.out.is r1 r2) hdf
      have row5 := HROW.out.onl (F := fun _ => False) (Onl.ofBelow b5) (fun _ _ q => q)
      obtain ⟨a1, c1, hv1, rd1, _⟩ := rd_gcells cCh_len row5
      obtain ⟨a2, c2, hv2, rd2, _⟩ := rd_gcells cCh_len row'
      injection hv1 with e1 _ e3
      subst e1 e3
      injection hv2 with e1 _ e3
      subst e1 e3
      have hlen : cs.length ≤ 9223372036854775807 := by
        obtain ⟨_, cap, _, h1, h2, _⟩ := row'.form
        have : maxLen ≤ 9223372036854775807 := by decide
        omega
      have C5 := sameCh_any va vc cs va' vc' cs w5 rd1 rd2 (by omega)
      rw [← HNC.out, decide_eq_true rfl] at C5
      have HC5 := hide C5
      have HB5 := hide (HB4.out.trans (b5.mono HB4.out.size))
      rw [← HNC.out]
      clear C5 b5 rd1 rd2 hdf row' row5 HC4 HROW HOF hlen
      go_wp2_with fail
      refine HC5.out.mono ?_
      rintro e' w6 ⟨rfl, b6⟩
      have HB6 := hide (HB5.out.trans (b6.mono HB5.out.size))
      go_wp2
      go_ret
      exact ⟨rfl, HB6.out⟩
end Go.Proofs.Ytbegiiihkmloiaa
