/- Whether a commit may be: object.Right, over the translation. -/
import Derived.Test.YtapomhpahdmekaaOPa
namespace Go.Proofs.Ytapomhpahdmekaa
open Go.RowKit Apo
/-- a commit's cells -/
abbrev cmL (c : Cm) (a : Option Addr) (cap : Nat) : List Value := [.int .u64 c.id, .slice a c.ps.length cap, .int .u64 c.gen, .int .u64 c.root, .string c.tx]
set_option maxRecDepth 100000 in
set_option maxHeartbeats 4000000 in
theorem right14 (c : Cm) (a : Option Addr) (cap : Nat) (w : World) (hr : Rd .u64 w a c.ps) (hl : c.ps.length ≤ cap) (hc : cap ≤ 9223372036854775807) (ht : c.tx.size ≤ 9223372036854775807) :
    Calls Try.prog 12 #[cmV c.id a c.ps.length cap c.gen c.root c.tx] w fun e w' => e = .returned (.int .i64 (cmE c)) ∧ Below w.heap.size w w' := by
  obtain ⟨id, ps, gen, root, tx⟩ := c
  simp only at hr hl ht ⊢
  obtain ⟨n, hn⟩ : ∃ n, n = ps.length := ⟨_, rfl⟩
  have HE : Hid (cmE ⟨id, ps, gen, root, tx⟩ = if id = 0 then 120 else if parOk id ps = false then 120 else if genOk n gen = false then 120 else if txtOk tx = false then 121 else 0) := hide (by rw [hn]; rfl)
  have HC1 : Hid (∀ W, Below w.heap.size w W → Calls Try.prog 30 #[cmV id a n cap gen root tx] W fun e w' => e = .returned (.bool (parOk id ps)) ∧ Below W.heap.size W w') := hide (fun W hW => by rw [hn]; exact par_any id a ps cap gen root tx W (hr.below hW) hl hc)
  have HC2 := hide (fun W => gen_any id a n cap gen root tx W)
  have HC3 := hide (fun W => text_any14 tx W ht)
  rw [← hn]
  have bA := (Below.refl w.heap.size w).alloc (Nat.le_refl _) (.cells #[.int .u64 id, .slice a n cap, .int .u64 gen, .int .u64 root, .string tx] 25)
  have HB := hide bA
  have HK := hide (Ob.new w [.int .u64 id, .slice a n cap, .int .u64 gen, .int .u64 root, .string tx] 25)
  clear hr hl hc ht bA hn
  by_cases h0 : id = 0
  · subst h0
    have HX : Hid (cmE ⟨0, ps, gen, root, tx⟩ = 120) := hide (by rw [HE.out]; simp)
    go_enter Try.func12, Try.ntmps12
    go_wp2
    go_ret
    exact ⟨by rw [HX.out]; rfl, HB.out⟩
  · have d0 : (id == 0) = false := by simpa using h0
    cases hp : parOk id ps with
    | false =>
      have HX : Hid (cmE ⟨id, ps, gen, root, tx⟩ = 120) := hide (by rw [HE.out, if_neg h0, if_pos hp])
      rw [hp] at HC1
      clear hp HE
      go_enter Try.func12, Try.ntmps12
      go_wp2_with fail
      refine (HC1.out _ HB.out).mono ?_
      rintro e w1 ⟨rfl, b1⟩
      have HB1 := hide (HB.out.trans (b1.mono HB.out.size))
      clear b1
      go_wp2
      go_ret
      exact ⟨by rw [HX.out]; rfl, HB1.out⟩
    | true =>
      rw [hp] at HC1 HE
      clear hp
      go_enter Try.func12, Try.ntmps12
      go_wp2_with fail
      refine (HC1.out _ HB.out).mono ?_
      rintro e w1 ⟨rfl, b1⟩
      have HB1 := hide (HB.out.trans (b1.mono HB.out.size))
      have HK1 := hide (HK.out.old b1)
      have x0 := HK1.out.cell 0
      have x1 := HK1.out.cell 1
      have x2 := HK1.out.cell 2
      have x3 := HK1.out.cell 3
      have x4 := HK1.out.cell 4
      simp only [List.getElem?_cons_zero, List.getElem?_cons_succ] at x0 x1 x2 x3 x4
      clear b1 HB HK HC1
      go_wp2_with fail
      refine (HC2.out _).mono ?_
      rintro e w2 ⟨rfl, b2⟩
      have HB2 := hide (HB1.out.trans (b2.mono HB1.out.size))
      have HK2 := hide (HK1.out.old b2)
      clear x0 x1 x2 x3 x4
      have x4 := HK2.out.cell 4
      simp only [List.getElem?_cons_zero, List.getElem?_cons_succ] at x4
      clear b2 HB1 HK1 HC2
      cases hg : genOk n gen with
      | false =>
        have HX : Hid (cmE ⟨id, ps, gen, root, tx⟩ = 120) := hide (by rw [HE.out, if_neg h0, if_neg (by simp), if_pos hg])
        clear hg HE
        go_wp2
        go_ret
        exact ⟨by rw [HX.out]; rfl, HB2.out⟩
      | true =>
        rw [hg] at HE
        clear hg
        cases ht : txtOk tx with
        | false =>
          have HX : Hid (cmE ⟨id, ps, gen, root, tx⟩ = 121) := hide (by rw [HE.out, if_neg h0, if_neg (by simp), if_neg (by simp), if_pos ht])
          rw [ht] at HC3
          clear ht HE
          go_wp2_with fail
          refine (HC3.out _).mono ?_
          rintro e w3 ⟨rfl, rfl⟩
          go_wp2
          go_ret
          exact ⟨by rw [HX.out]; rfl, HB2.out⟩
        | true =>
          have HX : Hid (cmE ⟨id, ps, gen, root, tx⟩ = 0) := hide (by rw [HE.out, if_neg h0, if_neg (by simp), if_neg (by simp), if_neg (by simp [ht])])
          rw [ht] at HC3
          clear ht HE
          go_wp2_with fail
          refine (HC3.out _).mono ?_
          rintro e w3 ⟨rfl, rfl⟩
          go_wp2
          go_ret
          exact ⟨by rw [HX.out]; rfl, HB2.out⟩
end Go.Proofs.Ytapomhpahdmekaa
