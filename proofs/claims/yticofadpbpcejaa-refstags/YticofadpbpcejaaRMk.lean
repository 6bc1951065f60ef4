/- The document's Make. Over the translation. -/
import Derived.Test.YticofadpbpcejaaRTb
import Derived.BigQuiet
import Derived.BigRegion
namespace Go.Proofs.Yticofadpbpcejaa
open Go.RowKit Apo
/-- what Make answers, and what is there behind it -/
def MkR (O : Nat → Prop) (w : World) (p : Nat) (L : List Rf) (x : Rf) (e : Ending) (w' : World) : Prop := e = .returned (.int .i64 (makeE L x)) ∧ TbR (Gro O w w') w' p (makeL L x) ∧ Onl O w w'
theorem TbR.gro {O : Nat → Prop} {w w' : World} {p : Nat} {L : List Rf} (h : TbR O w p L) (b : Below w.heap.size w w') : TbR (Gro O w w') w' p L := by
  have h1 := h.old b
  obtain ⟨a, n, cap, k1, k2⟩ := h1.mem
  exact ⟨.inl h1.op, Gro.lt h.lt b.size, ⟨a, n, cap, k1, k2.mono (fun g hg _ => ⟨.inl hg.1, hg.2⟩)⟩, h1.len⟩
theorem mkR_same {O : Nat → Prop} {w w' : World} {p : Nat} {L : List Rf} {x : Rf} {E : Int} (h : TbR O w p L) (hE : makeE L x = E) (h0 : E ≠ 0) (b : Below w.heap.size w w') : MkR O w p L x (.returned (.int .i64 E)) w' :=
  ⟨by rw [hE], by unfold makeL; rw [if_neg (by rw [hE]; exact h0)]; exact h.gro b, Onl.ofBelow b⟩
theorem mkR_more {O : Nat → Prop} {w W3 w2 : World} {p : Nat} {L : List Rf} {x : Rf} {i : Nat} {a2 : Option Addr} {c2 : Nat} {LL : List Rf} (h : TbR O w p L) (hl : L.length < 40) (hE : makeE L x = 0) (hi : insR L x.n = i) (hLL : LL = L.take i ++ x :: L.drop i) (bW : Below w.heap.size w W3)
    (r2 : Row (fun g => W3.heap.size ≤ g) w2 32 3 (.slice a2 LL.length c2) LL.length (gcells cRf LL)) (bb : Below W3.heap.size W3 w2) :
    MkR O w p L x (.returned (.int .i64 0)) (w2.setCell ⟨p, 0, none⟩ (.slice a2 LL.length c2)) := by
  have hpl := h.lt p h.op
  have hW3 := bW.size
  obtain ⟨a0, n0, c0, k0, _⟩ := h.mem
  have k2 := (k0.old bW).old bb
  have o1 : Onl (fun i => i = p) w2 (w2.setCell ⟨p, 0, none⟩ (.slice a2 LL.length c2)) := (Onl.refl (fun i => i = p) w2).set (p := p) (.inl rfl) _
  have b2 : Below w.heap.size w w2 := bW.trans (bb.mono hW3)
  have hsz : (w2.setCell ⟨p, 0, none⟩ (.slice a2 LL.length c2)).heap.size = w2.heap.size := by simp [World.setCell]
  refine ⟨by rw [hE], ?_, (Onl.ofBelow b2).trans (o1.mono (fun i q => by rw [q]; exact h.op))⟩
  have hmk : makeL L x = LL := by unfold makeL; rw [if_pos hE, hi, hLL]
  rw [hmk]
  refine ⟨.inl h.op, Gro.lt h.lt (by rw [hsz]; exact b2.size), ⟨a2, _, c2, k2.set 0 _, RoT.of ?_ rfl⟩, ?_⟩
  · have r3 := r2.onl o1 (fun g hg q => by have := r2.2 g hg; omega)
    refine ⟨r3.1, fun g hg => ?_⟩
    have h1 := r2.2 g hg
    have h2 := r2.lt g hg
    exact ⟨.inr ⟨by omega, by rw [hsz]; exact h2⟩, by omega⟩
  · rw [hLL]; simp; omega
attribute [local go_sem ↓] Apo.app_exec
set_option maxRecDepth 100000 in
set_option maxHeartbeats 8000000 in
theorem rmake_any {O : Nat → Prop} {w : World} {p : Nat} {L : List Rf} (h : TbR O w p L) (x : Rf) (hx : x.n.size ≤ 9223372036854775807) :
    Calls Try.prog 11 #[.pointer (some ⟨p, 0, none⟩), .agg #[.string x.n, .bool x.t, .int .u64 x.i]] w (MkR O w p L x) := by
  have bA := (Below.refl w.heap.size w).alloc (Nat.le_refl _) (.cells #[.string x.n, .bool x.t, .int .u64 x.i] 32)
  have HNM := hide (rname_any x.n (w.alloc (.cells #[.string x.n, .bool x.t, .int .u64 x.i] 32)) hx)
  have HK := hide (Ob.new w [.string x.n, .bool x.t, .int .u64 x.i] 32)
  have HB := hide bA
  have HG := hide h
  have HA := hide (rat_any (h.old bA) x.n)
  have hpl := h.lt p h.op
  have hL40 := h.len
  have k0x := HK.out.cell 0
  simp only [List.getElem?_cons_zero] at k0x
  clear h hx bA
  cases hnm : nameM x.n with
  | false =>
    rw [hnm] at HNM
    have HF := hide (mkR_same (x := x) HG.out (E := 110) (by unfold makeE; rw [if_pos hnm]) (by decide) HB.out)
    clear hnm
    go_enter Try.func11, Try.ntmps11
    go_wp2_with fail
    refine HNM.out.mono ?_
    rintro e w1 ⟨rfl, rfl⟩
    go_wp2
    go_ret
    exact HF.out
  | true =>
  rw [hnm] at HNM
  have HE : Hid (makeE L x = if (getR L x.n).isSome then 112 else if 40 ≤ L.length then 4 else 0) := hide (by unfold makeE; rw [if_neg (by rw [hnm]; decide)])
  clear hnm
  go_enter Try.func11, Try.ntmps11
  go_wp2_with fail
  refine HNM.out.mono ?_
  rintro e w1 ⟨rfl, rfl⟩
  go_wp2_with fail
  refine HA.out.mono ?_
  rintro e w2 ⟨rfl, b2⟩
  have HB2 := hide (HB.out.trans (b2.mono HB.out.size))
  have HK2 := hide (HK.out.old b2)
  clear b2 HB HK HA HNM k0x
  rcases at_casesR L x.n with ⟨i, d, h0, hn, hb, h2, h3⟩ | ⟨h2, h3, hb⟩
  · rw [h3]
    have HF := hide (mkR_same (x := x) HG.out (E := 112) (by rw [HE.out, if_pos (by rw [h2]; rfl)]) (by decide) HB2.out)
    have d1 : decide ((0 : Int) ≤ (i : Int)) = true := by simp
    clear h0 hn hb h2 h3
    go_wp2
    go_ret
    exact HF.out
  rw [h3]
  have HE2 : Hid (makeE L x = if 40 ≤ L.length then 4 else 0) := hide (by rw [HE.out, if_neg (by rw [h2]; simp)])
  have hGr := HG.out.old HB2.out
  obtain ⟨va, n0, vc, k0, row⟩ := hGr.mem
  have rd := row.rd
  have hvm := row.mx
  have hvn := row.nil
  have hvc := row.le
  obtain rfl := row.n
  have hvx : ∀ ad, va = some ad → ∃ g, ad = ⟨g, 0, none⟩ ∧ g < w2.heap.size := fun ad e => by
    obtain ⟨g, ex, h1, h2, _⟩ := row.at' ad e
    exact ⟨g, h1, h2.lt⟩
  have HROW := hide rd
  have HRD := hide rd
  obtain ⟨n, hn⟩ : ∃ n, n = L.length := ⟨_, rfl⟩
  have HN := hide hn
  have HOB : Hid (Ob w2 p 46 [.slice va n vc]) := hide (by rw [hn]; exact k0)
  have HVX := hide hvx
  have x0 := HOB.out.cell 0
  simp only [List.getElem?_cons_zero] at x0
  have hn40 : n ≤ 40 := by omega
  clear HE h2 h3 hb hGr k0 row rd hvx
  by_cases h40 : 40 ≤ n
  · have HF := hide (mkR_same (x := x) HG.out (E := 4) (by rw [HE2.out, if_pos (by rw [← HN.out]; exact h40)]) (by decide) HB2.out)
    have d1 : decide ((40 : Int) ≤ (n : Int)) = true := by simp; omega
    clear HE2 hn
    go_wp2
    go_ret
    exact HF.out
  have HE3 : Hid (makeE L x = 0) := hide (by rw [HE2.out, if_neg (by rw [← HN.out]; exact h40)])
  have d1 : decide ((40 : Int) ≤ (n : Int)) = false := by simp; omega
  have HL : Hid (L.length < 40) := hide (by omega)
  clear HE2 hn hL40
  go_wp2
  clear x0
  go_loopw [5] (fun v wx => ∃ k : Nat, k ≤ n ∧ v = .int .i64 k ∧ Hid (∀ j y, j < k → L[j]? = some y → sLt y.n x.n = true) ∧ Hid (Below w2.heap.size w2 wx)) (fun i _ => n - (intOf i).toNat)
  case atStart => exact ⟨0, Nat.zero_le _, rfl, hide (fun j y hj => by omega), hide (Below.refl _ _)⟩
  case round =>
    obtain ⟨i, hi, rfl, HI, HBX⟩ := hrel
    have kp := HOB.out.old HBX.out
    have kq := HK2.out.old HBX.out
    have p0 := kp.cell 0
    have q0 := kq.cell 0
    simp only [List.getElem?_cons_zero] at p0 q0
    by_cases hin : i < n
    · obtain ⟨y, hy⟩ : ∃ y, L[i]? = some y := ⟨L[i]'(by have := HN.out; omega), List.getElem?_eq_getElem _⟩
      obtain ⟨gg, go, rfl, r0, r1, r2⟩ := rd_rf (HRD.out.below HBX.out) hy
      have d5 : decide ((i : Int) < (n : Int)) = true := by simp; omega
      cases hlt2 : sLt y.n x.n with
      | true =>
        have HI2 : Hid (∀ j z, j < i + 1 → L[j]? = some z → sLt z.n x.n = true) := hide (fun j z hj hz => by
          by_cases q : j = i
          · subst q
            rw [hy] at hz
            injection hz with hz
            rw [← hz]
            exact hlt2
          · exact HI.out j z (by omega) hz)
        have d6 : Op.bytesLess y.n.toList x.n.toList = true := hlt2
        clear hy kp kq hlt2
        go_wp2
        go_quiet (fail)
        go_wp2
        go_roundw
        case rel => exact ⟨i + 1, by omega, by simp, HI2, hide (below_drewN HBX.out _)⟩
        case measure => simp [intOf]; omega
      | false =>
        have d6 : Op.bytesLess y.n.toList x.n.toList = false := hlt2
        have HIN : Hid (insR L x.n = i) := hide (insR_is (by have := HN.out; omega) HI.out (fun z hz => by
          rw [hy] at hz
          injection hz with hz
          rw [← hz]
          exact hlt2))
        obtain ⟨g', e1, hO⟩ := HVX.out _ rfl
        injection e1 with e1 e2
        subst e1 e2
        rw [Nat.zero_add] at r0
        have hgl := Nat.lt_of_lt_of_le hO (Nat.le_refl _)
        clear hy kp kq hlt2 hO
        go_wp2
        go_quiet (fail)
        have b3 := below_drewN HBX.out nq
        generalize wr.drewN nq = W3 at b3 ⊢
        have row3 := HROW.out.below b3
        obtain ⟨a1, c1, n1, w3, a2, c2, w4, R1, R2, rr, bb2, bb1⟩ := tins_mid (vc := vc) (i := i) row3 (Nat.lt_of_lt_of_le hgl b3.size) x (by have := HL.out; omega) (by have := HN.out; omega)
        obtain ⟨LL, hLL⟩ : ∃ LL, LL = L.take i ++ x :: L.drop i := ⟨_, rfl⟩
        rw [← hLL] at rr R2
        have HF := hide (mkR_more HG.out HL.out HE3.out HIN.out hLL (HB2.out.trans (b3.mono HB2.out.size)) rr bb2)
        have HK := HK2
        have kp3 := HOB.out.old b3
        have p0 := kp3.cell 0
        have pd := (kp3.alloc (.cells #[.string x.n, .bool x.t, .int .u64 x.i] 32)).cell 0
        have p2 := (kp3.old bb2).cell 0
        have pf := (kp3.old bb2).frozen 0
        have kq3 := HK.out.old b3
        have y0 := kq3.cell 0
        have y1 := kq3.cell 1
        have y2 := kq3.cell 2
        have p1 := (kp3.old bb1).cell 0
        simp only [List.getElem?_cons_zero, List.getElem?_cons_succ] at p0 pd p1 p2 y0 y1 y2
        simp only [← HN.out] at R1
        obtain ⟨n2, hn2⟩ : ∃ n2, n2 = LL.length := ⟨_, rfl⟩
        rw [← hn2] at R2 HF
        obtain ⟨z1, z2, z3⟩ := app_runs R1
        obtain ⟨z4, z5, z6⟩ := app_runs R2
        have hnv : n ≤ vc := by have := HN.out; omega
        have hvm2 : vc ≤ 9223372036854775807 := by unfold maxLen at hvm; omega
        have hie : ¬ vc = i := by omega
        clear R1 R2 rr bb2 bb1 hLL hn2 row3 kp3 kq3 b3 HBX r0 r1 r2 HK
        go_wp2
        go_region
        all_goals (
          go_wp2
          go_ret
          exact HF.out)
    · have d5 : decide ((i : Int) < (n : Int)) = false := by simp; omega
      obtain rfl : i = n := by omega
      have HIN : Hid (insR L x.n = i) := hide (insR_is (by have := HN.out; omega) HI.out (fun z hz => by
        have := (List.getElem?_eq_some_iff.1 hz).1
        have := HN.out
        omega))
      clear kp kq
      go_wp2
      go_quiet (fail)
      have b3 := below_drewN HBX.out nq
      generalize wr.drewN nq = W3 at b3 ⊢
      have row3 := HROW.out.below b3
      have hnv : i ≤ vc := by have := HN.out; omega
      clear p0 q0
      cases va with
      | none =>
        obtain rfl : vc = 0 := hvn rfl
        obtain rfl : i = 0 := by omega
        have hLn : L = [] := List.eq_nil_of_length_eq_zero HN.out.symm
        obtain ⟨a2, c2, w4, R1, R2, rr, bb2⟩ := tins_first W3 x
        have HF := hide (mkR_more (LL := [x]) HG.out HL.out HE3.out HIN.out (i := 0) (by rw [hLn]; rfl) (HB2.out.trans (b3.mono HB2.out.size)) rr bb2)
        have HK := HK2
        have kp3 := HOB.out.old b3
        have p0 := kp3.cell 0
        have pd := (kp3.alloc (.cells #[.string x.n, .bool x.t, .int .u64 x.i] 32)).cell 0
        have p2 := (kp3.old bb2).cell 0
        have pf := (kp3.old bb2).frozen 0
        have kq3 := HK.out.old b3
        have y0 := kq3.cell 0
        have y1 := kq3.cell 1
        have y2 := kq3.cell 2
        simp only [List.getElem?_cons_zero, List.getElem?_cons_succ] at p0 pd p2 y0 y1 y2
        obtain ⟨z1, z2, z3⟩ := app_runs R1
        obtain ⟨z4, z5, z6⟩ := app_runs R2
        clear R1 R2 rr bb2 hLn row3 kp3 kq3 b3 HBX HK
        go_wp2
        go_region
        all_goals (
          go_wp2
          go_ret
          exact HF.out)
      | some ad =>
        obtain ⟨g', e1, hO⟩ := HVX.out _ rfl
        subst e1
        have hgl := Nat.lt_of_lt_of_le hO b3.size
        clear hO
        by_cases hie : vc = i
        · subst hie
          obtain ⟨a2, c2, w4, R1, R2, rr, bb2⟩ := tins_end row3 x (by have := HL.out; omega) (some ⟨g', 0, none⟩) (vc - vc)
          obtain ⟨LL, hLL⟩ : ∃ LL, LL = L ++ [x] := ⟨_, rfl⟩
          rw [← hLL] at rr R2
          have HF := hide (mkR_more HG.out HL.out HE3.out HIN.out (i := vc) (by rw [hLL, HN.out, List.take_length, List.drop_length]) (HB2.out.trans (b3.mono HB2.out.size)) rr bb2)
          have HK := HK2
          have kp3 := HOB.out.old b3
          have p0 := kp3.cell 0
          have pd := (kp3.alloc (.cells #[.string x.n, .bool x.t, .int .u64 x.i] 32)).cell 0
          have p2 := (kp3.old bb2).cell 0
          have pf := (kp3.old bb2).frozen 0
          have kq3 := HK.out.old b3
          have y0 := kq3.cell 0
          have y1 := kq3.cell 1
          have y2 := kq3.cell 2
          simp only [List.getElem?_cons_zero, List.getElem?_cons_succ] at p0 pd p2 y0 y1 y2
          simp only [← HN.out] at R1 R2
          obtain ⟨n2, hn2⟩ : ∃ n2, n2 = LL.length := ⟨_, rfl⟩
          rw [← hn2] at R2 HF
          rw [Nat.sub_self] at R1
          obtain ⟨z1, z2, z3⟩ := app_runs R1
          obtain ⟨z4, z5, z6⟩ := app_runs R2
          have hvm2 : vc ≤ 9223372036854775807 := by unfold maxLen at hvm; omega
          clear R1 R2 rr bb2 hLL hn2 row3 kp3 kq3 b3 HBX HK
          go_wp2
          go_region
          all_goals (
            go_wp2
            go_ret
            exact HF.out)
        · obtain ⟨a2, c2, w4, R1, R2, rr, bb2⟩ := tins_end row3 x (by have := HL.out; omega) (some ⟨g', i * 3, none⟩) (vc - i)
          obtain ⟨LL, hLL⟩ : ∃ LL, LL = L ++ [x] := ⟨_, rfl⟩
          rw [← hLL] at rr R2
          have HF := hide (mkR_more HG.out HL.out HE3.out HIN.out (i := i) (by rw [hLL, HN.out, List.take_length, List.drop_length]) (HB2.out.trans (b3.mono HB2.out.size)) rr bb2)
          have HK := HK2
          have kp3 := HOB.out.old b3
          have p0 := kp3.cell 0
          have pd := (kp3.alloc (.cells #[.string x.n, .bool x.t, .int .u64 x.i] 32)).cell 0
          have p2 := (kp3.old bb2).cell 0
          have pf := (kp3.old bb2).frozen 0
          have kq3 := HK.out.old b3
          have y0 := kq3.cell 0
          have y1 := kq3.cell 1
          have y2 := kq3.cell 2
          simp only [List.getElem?_cons_zero, List.getElem?_cons_succ] at p0 pd p2 y0 y1 y2
          simp only [← HN.out] at R1 R2
          obtain ⟨n2, hn2⟩ : ∃ n2, n2 = LL.length := ⟨_, rfl⟩
          rw [← hn2] at R2 HF
          obtain ⟨z1, z2, z3⟩ := app_runs R1
          obtain ⟨z4, z5, z6⟩ := app_runs R2
          have hvm2 : vc ≤ 9223372036854775807 := by unfold maxLen at hvm; omega
          clear R1 R2 rr bb2 hLL hn2 row3 kp3 kq3 b3 HBX HK
          go_wp2
          go_region
          all_goals (
            go_wp2
            go_ret
            exact HF.out)
end Go.Proofs.Yticofadpbpcejaa
