/- Law 11's Map, over the translation. -/
import Derived.Test.YtoneedobhopkkaaDKe
import Derived.Test.YtoneedobhopkkaaDIn
namespace Go.Proofs.Ytoneedobhopkkaa
open Go.RowKit Apo
open Classical in
/-- whether entries are a small map -/
noncomputable def mapB (l : List En) : Bool := lightB l && decide (rightE l = 0)
theorem mapB_ok {l : List En} (h : mapB l = true) : l.length ≤ 60 ∧ MapOk l ∧ RiseE l := by
  unfold mapB at h
  rw [Bool.and_eq_true, decide_eq_true_eq] at h
  have h2 := rightE_map h.2
  have h1 := h.1
  unfold lightB at h1
  rw [Bool.and_eq_true, decide_eq_true_eq] at h1
  exact ⟨h1.2, h2, riseE_iff.2 h2.rise⟩
set_option maxRecDepth 100000 in
set_option maxHeartbeats 4000000 in
theorem map11 (w : World) (x : EsA) (hx : OkEs w x) : Calls Try.prog 11 #[.slice x.a x.l.length x.c] w fun e w' => e = .returned (.bool (mapB x.l)) ∧ Below w.heap.size w w' := by
  obtain ⟨a, c, es⟩ := x
  simp only
  have hml : maxLen ≤ 9223372036854775807 := by decide
  have hbig := hx.big
  have hlen := hx.len
  simp only at hbig hlen
  have C1 := light_any w a c es hx.rd (by omega) hx.sz
  have HC1 := hide C1
  have HX := hide hx
  obtain ⟨n, hn⟩ : ∃ n, n = es.length := ⟨_, rfl⟩
  have HN := hide hn
  rw [← hn] at HC1 ⊢
  clear hbig hlen hn hx C1
  cases hl : lightB es with
  | false =>
    have hm : mapB es = false := by unfold mapB; rw [hl]; rfl
    rw [hl] at HC1
    rw [hm]
    clear hl hm
    go_enter Try.func11, Try.ntmps11
    go_wp2_with fail
    refine HC1.out.mono ?_
    rintro e' w1 ⟨rfl, b1⟩
    go_wp2
    go_ret
    exact ⟨rfl, b1⟩
  | true =>
    have hn60 : es.length ≤ 60 := by
      have h1 := hl
      unfold lightB at h1
      rw [Bool.and_eq_true, decide_eq_true_eq] at h1
      exact h1.2
    have C2 : ∀ W, Below w.heap.size w W → Calls Try.prog 20 #[.slice a n c] W (RrP es W) := fun W b => by
      have := rright_any W a c es (HX.out.rd.below b) (by omega) HX.out.sz
      rwa [← HN.out] at this
    have HC2 := hide C2
    have hm : mapB es = decide (rightE es = 0) := by unfold mapB; rw [hl]; rfl
    rw [hl] at HC1
    rw [hm]
    clear C2 hl hm
    obtain ⟨r, hr⟩ : ∃ r, r = rightE es := ⟨_, rfl⟩
    unfold RrP at HC2
    rw [← hr] at HC2 ⊢
    clear hr
    go_enter Try.func11, Try.ntmps11
    go_wp2_with fail
    refine HC1.out.mono ?_
    rintro e' w1 ⟨rfl, b1⟩
    have HC2' := hide (HC2.out w1 b1)
    go_wp2_with fail
    refine HC2'.out.mono ?_
    rintro e' w2 ⟨rfl, b2⟩
    have HB := hide (b1.trans (b2.mono b1.size))
    clear b1 b2
    go_wp2
    go_ret
    refine ⟨?_, HB.out⟩
    by_cases q : r = 0
    · simp [q]
    · simp [q]
end Go.Proofs.Ytoneedobhopkkaa
