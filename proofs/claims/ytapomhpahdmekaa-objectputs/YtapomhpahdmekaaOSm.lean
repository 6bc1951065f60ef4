/- Whether two commits are alike: the program's answer and the document's, over the translation. -/
import Derived.Test.YtapomhpahdmekaaORi
import Derived.Test.YtapomhpahdmekaaOEq
namespace Go.Proofs.Ytapomhpahdmekaa
open Go.RowKit Apo
def sameCm (c d : Cm) : Bool := (c.id == d.id) && decide (c.ps = d.ps) && (c.gen == d.gen) && (c.root == d.root) && (c.tx.toList == d.tx.toList)
theorem sameCm_refl (c : Cm) : sameCm c c = true := by simp [sameCm]
theorem sameCm_eq {c d : Cm} (h : sameCm c d = true) : c = d := by
  unfold sameCm at h
  simp only [Bool.and_eq_true, beq_iff_eq, decide_eq_true_eq] at h
  obtain ⟨⟨⟨⟨h1, h2⟩, h3⟩, h4⟩, h5⟩ := h
  have h6 : c.tx = d.tx := by
    rw [ByteArray.toList_eq, ByteArray.toList_eq] at h5
    exact ByteArray.ext (Array.toList_inj.1 h5)
  cases c
  cases d
  simp only at h1 h2 h3 h4 h6
  subst h1 h2 h3 h4 h6
  rfl
set_option maxRecDepth 100000 in
set_option maxHeartbeats 4000000 in
theorem same14 (c d : Cm) (a a' : Option Addr) (cap cap' : Nat) (w : World) (hr : Rd .u64 w a c.ps) (hr' : Rd .u64 w a' d.ps) (hl : c.ps.length ≤ 1099511627776) :
    Calls Try.prog 15 #[cmV c.id a c.ps.length cap c.gen c.root c.tx, cmV d.id a' d.ps.length cap' d.gen d.root d.tx] w fun e w' => e = .returned (.bool (sameCm c d)) ∧ Below w.heap.size w w' := by
  obtain ⟨id, ps, gen, root, tx⟩ := c
  obtain ⟨id', ps', gen', root', tx'⟩ := d
  simp only at hr hr' hl ⊢
  have bA := (Below.refl w.heap.size w).alloc (Nat.le_refl _) (.cells #[.int .u64 id, .slice a ps.length cap, .int .u64 gen, .int .u64 root, .string tx] 25)
  have bB := bA.alloc (by simp) (.cells #[.int .u64 id', .slice a' ps'.length cap', .int .u64 gen', .int .u64 root', .string tx'] 25)
  have kA := (Ob.new w [.int .u64 id, .slice a ps.length cap, .int .u64 gen, .int .u64 root, .string tx] 25).alloc (.cells #[.int .u64 id', .slice a' ps'.length cap', .int .u64 gen', .int .u64 root', .string tx'] 25)
  have kB := Ob.new (w.alloc (.cells #[.int .u64 id, .slice a ps.length cap, .int .u64 gen, .int .u64 root, .string tx] 25)) [.int .u64 id', .slice a' ps'.length cap', .int .u64 gen', .int .u64 root', .string tx'] 25
  simp only [World.size_alloc] at kB
  have HC := hide (seq64_any a a' cap cap' ps ps' _ (hr.below bB) (hr'.below bB) hl)
  have HE : Hid (sameCm ⟨id, ps, gen, root, tx⟩ ⟨id', ps', gen', root', tx'⟩ = ((id == id') && decide (ps = ps') && (gen == gen') && (root == root') && (tx.toList == tx'.toList))) := hide rfl
  have HB := hide bB
  have HKA := hide kA
  have HKB := hide kB
  generalize ps.length = n at HB HKA HKB HC ⊢
  generalize ps'.length = n' at HB HKA HKB HC ⊢
  generalize decide (ps = ps') = B at HC HE
  clear hr hr' hl bA bB kA kB
  cases h0 : (id == id') with
  | false =>
    have HX : Hid (sameCm ⟨id, ps, gen, root, tx⟩ ⟨id', ps', gen', root', tx'⟩ = false) := hide (by rw [HE.out, h0]; rfl)
    go_enter Try.func15, Try.ntmps15
    go_wp2
    go_ret
    exact ⟨by rw [HX.out]; rfl, HB.out⟩
  | true =>
    have HX : Hid (sameCm ⟨id, ps, gen, root, tx⟩ ⟨id', ps', gen', root', tx'⟩ = (B && (gen == gen') && (root == root') && (tx.toList == tx'.toList))) := hide (by rw [HE.out, h0, Bool.true_and])
    go_enter Try.func15, Try.ntmps15
    go_wp2_with fail
    refine HC.out.mono ?_
    rintro e w1 ⟨rfl, b1⟩
    have ka1 := HKA.out.old b1
    have kb1 := HKB.out.old b1
    have HB1 := hide (HB.out.trans (b1.mono HB.out.size))
    have x2 := ka1.cell 2
    have x3 := ka1.cell 3
    have x4 := ka1.cell 4
    have y2 := kb1.cell 2
    have y3 := kb1.cell 3
    have y4 := kb1.cell 4
    simp only [List.getElem?_cons_zero, List.getElem?_cons_succ] at x2 x3 x4 y2 y3 y4
    clear b1 ka1 kb1 HB HKA HKB HC HE h0
    cases B with
    | false =>
      go_wp2
      go_ret
      exact ⟨by rw [HX.out]; rfl, HB1.out⟩
    | true =>
      cases h1 : (gen == gen') with
      | false =>
        rw [h1] at HX
        go_wp2
        go_ret
        exact ⟨by rw [HX.out]; rfl, HB1.out⟩
      | true =>
        rw [h1] at HX
        cases h2 : (root == root') with
        | false =>
          rw [h2] at HX
          go_wp2
          go_ret
          exact ⟨by rw [HX.out]; rfl, HB1.out⟩
        | true =>
          rw [h2] at HX
          go_wp2
          go_ret
          exact ⟨by rw [HX.out]; rfl, HB1.out⟩
set_option maxRecDepth 100000 in
set_option maxHeartbeats 4000000 in
theorem rsame14 (c d : Cm) (a a' : Option Addr) (cap cap' : Nat) (w : World) (hr : Rd .u64 w a c.ps) (hr' : Rd .u64 w a' d.ps) (hl : c.ps.length ≤ 1099511627776) :
    Calls Try.prog 14 #[cmV c.id a c.ps.length cap c.gen c.root c.tx, cmV d.id a' d.ps.length cap' d.gen d.root d.tx] w fun e w' => e = .returned (.bool (sameCm c d)) ∧ Below w.heap.size w w' := by
  obtain ⟨id, ps, gen, root, tx⟩ := c
  obtain ⟨id', ps', gen', root', tx'⟩ := d
  simp only at hr hr' hl ⊢
  have bA := (Below.refl w.heap.size w).alloc (Nat.le_refl _) (.cells #[.int .u64 id, .slice a ps.length cap, .int .u64 gen, .int .u64 root, .string tx] 25)
  have bB := bA.alloc (by simp) (.cells #[.int .u64 id', .slice a' ps'.length cap', .int .u64 gen', .int .u64 root', .string tx'] 25)
  have kA := (Ob.new w [.int .u64 id, .slice a ps.length cap, .int .u64 gen, .int .u64 root, .string tx] 25).alloc (.cells #[.int .u64 id', .slice a' ps'.length cap', .int .u64 gen', .int .u64 root', .string tx'] 25)
  have kB := Ob.new (w.alloc (.cells #[.int .u64 id, .slice a ps.length cap, .int .u64 gen, .int .u64 root, .string tx] 25)) [.int .u64 id', .slice a' ps'.length cap', .int .u64 gen', .int .u64 root', .string tx'] 25
  simp only [World.size_alloc] at kB
  have HC := hide (samen_any a a' cap cap' ps ps' _ (hr.below bB) (hr'.below bB) hl)
  have HE : Hid (sameCm ⟨id, ps, gen, root, tx⟩ ⟨id', ps', gen', root', tx'⟩ = ((id == id') && decide (ps = ps') && (gen == gen') && (root == root') && (tx.toList == tx'.toList))) := hide rfl
  have HB := hide bB
  have HKA := hide kA
  have HKB := hide kB
  generalize ps.length = n at HB HKA HKB HC ⊢
  generalize ps'.length = n' at HB HKA HKB HC ⊢
  generalize decide (ps = ps') = B at HC HE
  clear hr hr' hl bA bB kA kB
  cases h0 : (id == id') with
  | false =>
    have HX : Hid (sameCm ⟨id, ps, gen, root, tx⟩ ⟨id', ps', gen', root', tx'⟩ = false) := hide (by rw [HE.out, h0]; rfl)
    go_enter Try.func14, Try.ntmps14
    go_wp2
    go_ret
    exact ⟨by rw [HX.out]; rfl, HB.out⟩
  | true =>
    have HX : Hid (sameCm ⟨id, ps, gen, root, tx⟩ ⟨id', ps', gen', root', tx'⟩ = (B && (gen == gen') && (root == root') && (tx.toList == tx'.toList))) := hide (by rw [HE.out, h0, Bool.true_and])
    go_enter Try.func14, Try.ntmps14
    go_wp2_with fail
    refine HC.out.mono ?_
    rintro e w1 ⟨rfl, b1⟩
    have ka1 := HKA.out.old b1
    have kb1 := HKB.out.old b1
    have HB1 := hide (HB.out.trans (b1.mono HB.out.size))
    have x2 := ka1.cell 2
    have x3 := ka1.cell 3
    have x4 := ka1.cell 4
    have y2 := kb1.cell 2
    have y3 := kb1.cell 3
    have y4 := kb1.cell 4
    simp only [List.getElem?_cons_zero, List.getElem?_cons_succ] at x2 x3 x4 y2 y3 y4
    clear b1 ka1 kb1 HB HKA HKB HC HE h0
    cases B with
    | false =>
      go_wp2
      go_ret
      exact ⟨by rw [HX.out]; rfl, HB1.out⟩
    | true =>
      cases h1 : (gen == gen') with
      | false =>
        rw [h1] at HX
        go_wp2
        go_ret
        exact ⟨by rw [HX.out]; rfl, HB1.out⟩
      | true =>
        rw [h1] at HX
        cases h2 : (root == root') with
        | false =>
          rw [h2] at HX
          go_wp2
          go_ret
          exact ⟨by rw [HX.out]; rfl, HB1.out⟩
        | true =>
          rw [h2] at HX
          go_wp2
          go_ret
          exact ⟨by rw [HX.out]; rfl, HB1.out⟩
end Go.Proofs.Ytapomhpahdmekaa
