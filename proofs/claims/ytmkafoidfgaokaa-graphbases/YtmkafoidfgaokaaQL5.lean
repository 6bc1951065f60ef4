/- The document's Sorted. Over the translation. The document's Log. Over the translation. -/
import Derived.BigRegion
import Derived.Test.YtmkafoidfgaokaaQA6
import Derived.Test.YtmkafoidfgaokaaQB4
import Derived.Test.YtmkafoidfgaokaaQB6
import Derived.Test.YtmkafoidfgaokaaQA7
import Derived.Test.YtmkafoidfgaokaaQL4
namespace Go.Proofs.Ytmkafoidfgaokaa
open Go.RowKit Apo
/-- what Get tells, be it there or not -/
theorem gt_or {w0 w w' wb : World} {p : Nat} {L : List CmA} {id : Int} {e : Ending} (hG : Gr w0 wb p L) (h : GtP L id w e w') : ∃ (x : CmA) (b : Bool), cmOf (L.map CmA.c) id = x.c ∧ CmR w0 x.c x.a x.cap ∧ e = .returned (.tuple #[.agg #[.int .u64 x.c.id, .slice x.a x.c.ps.length x.cap, .int .u64 x.c.gen, .int .u64 x.c.root, .string x.c.tx], .bool b]) := by
  rcases h.1 with ⟨i, x, hx, hg, he⟩ | ⟨hg, he⟩
  · exact ⟨x, true, by unfold cmOf; rw [hg]; rfl, hG.cm x (List.mem_of_getElem? hx), he⟩
  · refine ⟨⟨zeroCm, none, 0⟩, false, by unfold cmOf; rw [hg]; rfl, ?_, he⟩
    exact ⟨Rd.nil _ _ _, by simp [zeroCm], by show (0 : Nat) ≤ _; omega, by show (0 : Nat) ≤ _; omega, by
      unfold Cm.Sz zeroCm
      simp⟩
theorem row_len {O : Nat → Prop} {W : World} {e : TypeId} {size n c m : Nat} {a : Option Addr} {xs : List Value} (h : m = n) (r : Row O W e size (.slice a n c) m xs) : Row O W e size (.slice a m c) m xs := by subst h; exact r
/-- commits in a row of one's own -/
def CmP (w0 w : World) (l : List Cm) (e : Ending) (w' : World) : Prop := ∃ (a : Option Addr) (n c : Nat) (S : List CmA), e = .returned (.slice a n c) ∧ n = S.length ∧ S.map CmA.c = l ∧ (∀ x ∈ S, CmR w0 x.c x.a x.cap) ∧ Row (fun g => w.heap.size ≤ g) w' 32 5 (.slice a n c) S.length (gcells cCm S) ∧ Below w.heap.size w w'
attribute [local go_sem ↓] Apo.app_exec
set_option maxRecDepth 100000 in
set_option maxHeartbeats 8000000 in
theorem sorted_any {w0 w : World} {p : Nat} {L : List CmA} (h : Gr w0 w p L) (ia : Option Addr) (ic : Nat) (ids : List Int) (le : Bool) (hr : Rd .u64 w ia ids) (hil : ids.length ≤ 1000) :
    Calls Try.prog 47 #[.pointer (some ⟨p, 0, none⟩), .slice ia ids.length ic, .bool le] w (CmP w0 w (sortG (L.map CmA.c) le ids)) := by
  have HG := hide h
  have HRI := hide hr
  obtain ⟨m, hm⟩ : ∃ m, m = ids.length := ⟨_, rfl⟩
  rw [← hm] at hil ⊢
  have HM := hide hm
  obtain ⟨l, hl⟩ : ∃ l, l = L.map CmA.c := ⟨_, rfl⟩
  have HLM := hide hl
  rw [← hl]
  clear h hr hm hl
  go_enter Try.func47, Try.ntmps47
  go_wp2
  go_loopw [7, 15] (fun v i wr => ∃ (k : Nat) (S : List CmA), k ≤ m ∧ i = .int .i64 k ∧ (∃ xa xn xc, v = .slice xa xn xc) ∧ Hid (S.map CmA.c = sortG l le (ids.take k)) ∧ Hid (∀ x ∈ S, CmR w0 x.c x.a x.cap) ∧ Hid (Row (fun g => w.heap.size ≤ g) wr 32 5 v S.length (gcells cCm S)) ∧ Hid (Below w.heap.size w wr)) (fun _ i _ => m - (intOf i).toNat)
  case atStart => exact ⟨0, [], Nat.zero_le _, rfl, ⟨_, _, _, rfl⟩, hide (by simp [sortG]), hide (by simp), hide (by simpa [gcells] using Row.nil _ _ _ _), hide (Below.refl _ _)⟩
  case round =>
    obtain ⟨k, S, hk, rfl, ⟨va, vn, vc, rfl⟩, HS, HCM, HRO, HB⟩ := hrel
    have hsl : S.length = k := by
      have := congrArg List.length HS.out
      rw [List.length_map, sortG_len l le ids k (by have := HM.out; omega)] at this
      exact this
    obtain ⟨a2, c2, hv, rd, hvc, hvm, hvn, hvx⟩ := rd_gcells cCm_len HRO.out
    injection hv with e1 e2 e3
    subst e1 e3
    rw [hsl] at e2 hvc
    subst e2
    by_cases hlt : vn < m
    · obtain ⟨bb, off, z, ha, hcz, hz, _⟩ := (HRI.out.below HB.out).at (by have := HM.out; omega : vn < ids.length)
      subst ha
      have HST := hide (sort_take (l := l) (le := le) hz.out)
      have HCG := hide (get_any (HG.out.old HB.out) z)
      have HVX := hide hvx
      have HRDS := hide rd
      have HSL := hide hsl
      clear hz rd hvx hsl
      go_wp2_with fail
      refine HCG.out.mono ?_
      intro e w3 hgt
      have b3 := hgt.2
      obtain ⟨x, bx, hcx, hxr, rfl⟩ := gt_or HG.out hgt
      rw [← HLM.out] at hcx
      rw [hcx] at HST
      have HXR := hide hxr
      obtain ⟨W1, hW1⟩ : ∃ W1, W1 = w3.alloc (.cells #[.int .u64 x.c.id, .slice x.a x.c.ps.length x.cap, .int .u64 x.c.gen, .int .u64 x.c.root, .string x.c.tx] 32) := ⟨_, rfl⟩
      have b1 : Below wr.heap.size wr W1 := by rw [hW1]; exact b3.alloc b3.size _
      have HK1 : Hid (Ob W1 w3.heap.size 32 [.int .u64 x.c.id, .slice x.a x.c.ps.length x.cap, .int .u64 x.c.gen, .int .u64 x.c.root, .string x.c.tx]) := hide (by rw [hW1]; exact Ob.new w3 [.int .u64 x.c.id, .slice x.a x.c.ps.length x.cap, .int .u64 x.c.gen, .int .u64 x.c.root, .string x.c.tx] _)
      have HB1 := hide (HB.out.trans (b1.mono HB.out.size))
      have HRO1 := hide (HRO.out.onl (F := fun _ => False) (Onl.ofBelow b1) (fun _ _ q => q))
      have HRD1 := hide (HRDS.out.below b1)
      clear hgt b3 hcx hxr b1 HB HRO HRDS HCG
      go_wp2_with fail
      rw [← hW1]
      clear hW1
      generalize w3.heap.size = q at HK1 ⊢
      go_wp2
      go_loopw [12] (fun v wx => ∃ i : Nat, i ≤ vn ∧ v = .int .i64 i ∧ Hid (∀ j d, i ≤ j → (S.map CmA.c)[j]? = some d → aheadB le x.c d = true) ∧ Hid (Below W1.heap.size W1 wx)) (fun i _ => (intOf i).toNat)
      case atStart => exact ⟨vn, Nat.le_refl _, rfl, hide (fun j d hj hd => by
        have := (List.getElem?_eq_some_iff.1 hd).1
        rw [List.length_map] at this
        have := HSL.out
        omega), hide (Below.refl _ _)⟩
      case round =>
        obtain ⟨i, hi, rfl, HI, HBX⟩ := hrel
        have kq := HK1.out.old HBX.out
        have q0 := kq.cell 0
        have q2 := kq.cell 2
        simp only [List.getElem?_cons_zero, List.getElem?_cons_succ] at q0 q2
        cases i with
        | zero =>
          have HSLOT : Hid (slotS le x.c (S.map CmA.c) = 0) := hide (slotS_is (Nat.zero_le _) HI.out (fun d h0 => by omega))
          have hpos0 : decide ((0 : Int) < 0) = false := by decide
          clear kq
          go_wp2
          go_quiet (fail)
          clear q0 q2
          by_cases hend : 0 < vn
          · have hvs : va ≠ none := fun e => by have := hvn e; omega
            obtain ⟨ad, rfl⟩ := Option.ne_none_iff_exists'.1 hvs
            obtain ⟨g', e1, hO⟩ := HVX.out _ rfl
            subst e1
            clear hO hvs
            have b3 := below_drewN HBX.out nq
            generalize wr.drewN nq = W3 at b3 ⊢
            have row3 := row_len HSL.out (HRO1.out.onl (F := fun _ => False) (Onl.ofBelow b3) (fun _ _ q => q))
            have hB3 := HB1.out.trans (b3.mono HB1.out.size)
            have kq3 := HK1.out.old b3
            have y0 := kq3.cell 0
            have y1 := kq3.cell 1
            have y2 := kq3.cell 2
            have y3 := kq3.cell 3
            have y4 := kq3.cell 4
            simp only [List.getElem?_cons_zero, List.getElem?_cons_succ] at y0 y1 y2 y3 y4
            have hvm2 : vc ≤ 9223372036854775807 := by unfold maxLen at hvm; omega
            obtain ⟨a1, c1, n1, w5, a2, c2, w4, R1, R2, rr, bb2, bb1⟩ := cins_mid (i := 0) row3 x (by have := HSL.out; omega) (by have := HSL.out; omega)
            obtain ⟨LL, hLL⟩ : ∃ LL, LL = S.take 0 ++ x :: S.drop 0 := ⟨_, rfl⟩
            rw [← hLL] at rr R2
            have HCM2 : Hid (∀ y ∈ LL, CmR w0 y.c y.a y.cap) := hide (fun y hy => by
              rw [hLL] at hy
              simp only [List.mem_append, List.mem_cons] at hy
              rcases hy with hy | rfl | hy
              · exact HCM.out y (List.mem_of_mem_take hy)
              · exact HXR.out
              · exact HCM.out y (List.mem_of_mem_drop hy))
            have HS2 : Hid (LL.map CmA.c = sortG l le (ids.take (vn + 1))) := hide (by
              rw [HST.out]
              unfold insS
              rw [← HS.out, HSLOT.out, hLL]
              rw [List.map_append, List.map_cons, List.map_take, List.map_drop])
            have HR2 : Hid (Row (fun g => w.heap.size ≤ g) w4 32 5 (.slice a2 LL.length c2) LL.length (gcells cCm LL)) := hide (rr.mono (fun g hg => by have := hB3.size; omega))
            have HW2 := hide (hB3.trans (bb2.mono hB3.size))
            obtain ⟨n2, hn2⟩ : ∃ n2, n2 = LL.length := ⟨_, rfl⟩
            have HR3 : Hid (Row (fun g => w.heap.size ≤ g) w4 32 5 (.slice a2 n2 c2) LL.length (gcells cCm LL)) := hide (by have := HR2.out; rw [← hn2] at this ⊢; exact this)
            rw [← hn2] at R2
            simp only [HSL.out, Nat.zero_mul, Nat.sub_zero] at R1
            obtain ⟨z1, z2, z3⟩ := app_runs R1
            obtain ⟨z4, z5, z6⟩ := app_runs R2
            have hie : ¬ vc = 0 := by omega
            clear R1 R2 rr bb2 bb1 hLL hn2 row3 kq3 b3 HBX hB3 HR2
            go_wp2
            go_region
            all_goals (
              go_wp2
              go_roundw
              case rel => exact ⟨vn + 1, LL, by omega, by simp, ⟨_, _, _, rfl⟩, HS2, HCM2, HR3, HW2⟩
              case measure => simp [intOf]; omega)
          · obtain rfl : vn = 0 := by omega
            clear hend
            have b3 := below_drewN HBX.out nq
            generalize wr.drewN nq = W3 at b3 ⊢
            have row3 := row_len HSL.out (HRO1.out.onl (F := fun _ => False) (Onl.ofBelow b3) (fun _ _ q => q))
            have hB3 := HB1.out.trans (b3.mono HB1.out.size)
            have kq3 := HK1.out.old b3
            have y0 := kq3.cell 0
            have y1 := kq3.cell 1
            have y2 := kq3.cell 2
            have y3 := kq3.cell 3
            have y4 := kq3.cell 4
            simp only [List.getElem?_cons_zero, List.getElem?_cons_succ] at y0 y1 y2 y3 y4
            have hvm2 : vc ≤ 9223372036854775807 := by unfold maxLen at hvm; omega
            cases va with
            | none =>
              obtain rfl : vc = 0 := hvn rfl
              obtain ⟨a2, c2, w4, R1, R2, rr, bb2⟩ := cins_first W3 x
              have hSn : S = [] := List.eq_nil_of_length_eq_zero (by have := HSL.out; omega)
              have HCM2 : Hid (∀ y ∈ [x], CmR w0 y.c y.a y.cap) := hide (fun y hy => by
                simp only [List.mem_singleton] at hy
                subst hy; exact HXR.out)
              have HS2 : Hid ([x].map CmA.c = sortG l le (ids.take (0 + 1))) := hide (by
                rw [HST.out]
                unfold insS
                rw [← HS.out, HSLOT.out, hSn]
                rfl)
              have HR3 : Hid (Row (fun g => w.heap.size ≤ g) w4 32 5 (.slice a2 1 c2) [x].length (gcells cCm [x])) := hide (rr.mono (fun g hg => by have := hB3.size; omega))
              have HW2 := hide (hB3.trans (bb2.mono hB3.size))
              obtain ⟨z1, z2, z3⟩ := app_runs R1
              obtain ⟨z4, z5, z6⟩ := app_runs R2
              clear R1 R2 rr bb2 row3 kq3 b3 HBX hB3 hSn
              go_wp2
              go_region
              all_goals (
                go_wp2
                go_roundw
                case rel => exact ⟨0 + 1, [x], by omega, by simp, ⟨_, _, _, rfl⟩, HS2, HCM2, HR3, HW2⟩
                case measure => simp [intOf]; omega)
            | some ad =>
              obtain ⟨g', e1, hO⟩ := HVX.out _ rfl
              subst e1
              clear hO
              by_cases hie : vc = 0
              · subst hie
                obtain ⟨a2, c2, w4, R1, R2, rr, bb2⟩ := cins_end row3 x (by have := HSL.out; omega) (some ⟨g', 0, none⟩) (0 - 0)
                obtain ⟨LL, hLL⟩ : ∃ LL, LL = S ++ [x] := ⟨_, rfl⟩
                rw [← hLL] at rr R2
                have HCM2 : Hid (∀ y ∈ LL, CmR w0 y.c y.a y.cap) := hide (fun y hy => by
                  rw [hLL] at hy
                  simp only [List.mem_append, List.mem_singleton] at hy
                  rcases hy with hy | rfl
                  · exact HCM.out y hy
                  · exact HXR.out)
                have HS2 : Hid (LL.map CmA.c = sortG l le (ids.take (0 + 1))) := hide (by
                  rw [HST.out]
                  unfold insS
                  rw [← HS.out, HSLOT.out, hLL]
                  rw [List.take_of_length_le (by rw [List.length_map]; have := HSL.out; omega), List.drop_eq_nil_of_le (by rw [List.length_map]; have := HSL.out; omega), List.map_append]; rfl)
                have HR2 : Hid (Row (fun g => w.heap.size ≤ g) w4 32 5 (.slice a2 LL.length c2) LL.length (gcells cCm LL)) := hide (rr.mono (fun g hg => by have := hB3.size; omega))
                have HW2 := hide (hB3.trans (bb2.mono hB3.size))
                obtain ⟨n2, hn2⟩ : ∃ n2, n2 = LL.length := ⟨_, rfl⟩
                have HR3 : Hid (Row (fun g => w.heap.size ≤ g) w4 32 5 (.slice a2 n2 c2) LL.length (gcells cCm LL)) := hide (by have := HR2.out; rw [← hn2] at this ⊢; exact this)
                rw [← hn2] at R2
                simp only [HSL.out] at R1 R2
                rw [Nat.sub_self] at R1
                obtain ⟨z1, z2, z3⟩ := app_runs R1
                obtain ⟨z4, z5, z6⟩ := app_runs R2
                clear R1 R2 rr bb2 hLL hn2 row3 kq3 b3 HBX hB3 HR2
                go_wp2
                go_region
                all_goals (
                  go_wp2
                  go_roundw
                  case rel => exact ⟨0 + 1, LL, by omega, by simp, ⟨_, _, _, rfl⟩, HS2, HCM2, HR3, HW2⟩
                  case measure => simp [intOf]; omega)
              · have hie2 := hie
                obtain ⟨a2, c2, w4, R1, R2, rr, bb2⟩ := cins_end row3 x (by have := HSL.out; omega) (some ⟨g', 0 * 5, none⟩) (vc - 0)
                obtain ⟨LL, hLL⟩ : ∃ LL, LL = S ++ [x] := ⟨_, rfl⟩
                rw [← hLL] at rr R2
                have HCM2 : Hid (∀ y ∈ LL, CmR w0 y.c y.a y.cap) := hide (fun y hy => by
                  rw [hLL] at hy
                  simp only [List.mem_append, List.mem_singleton] at hy
                  rcases hy with hy | rfl
                  · exact HCM.out y hy
                  · exact HXR.out)
                have HS2 : Hid (LL.map CmA.c = sortG l le (ids.take (0 + 1))) := hide (by
                  rw [HST.out]
                  unfold insS
                  rw [← HS.out, HSLOT.out, hLL]
                  rw [List.take_of_length_le (by rw [List.length_map]; have := HSL.out; omega), List.drop_eq_nil_of_le (by rw [List.length_map]; have := HSL.out; omega), List.map_append]; rfl)
                have HR2 : Hid (Row (fun g => w.heap.size ≤ g) w4 32 5 (.slice a2 LL.length c2) LL.length (gcells cCm LL)) := hide (rr.mono (fun g hg => by have := hB3.size; omega))
                have HW2 := hide (hB3.trans (bb2.mono hB3.size))
                obtain ⟨n2, hn2⟩ : ∃ n2, n2 = LL.length := ⟨_, rfl⟩
                have HR3 : Hid (Row (fun g => w.heap.size ≤ g) w4 32 5 (.slice a2 n2 c2) LL.length (gcells cCm LL)) := hide (by have := HR2.out; rw [← hn2] at this ⊢; exact this)
                rw [← hn2] at R2
                simp only [HSL.out] at R1 R2
                obtain ⟨z1, z2, z3⟩ := app_runs R1
                obtain ⟨z4, z5, z6⟩ := app_runs R2
                clear R1 R2 rr bb2 hLL hn2 row3 kq3 b3 HBX hB3 HR2
                go_wp2
                go_region
                all_goals (
                  go_wp2
                  go_roundw
                  case rel => exact ⟨0 + 1, LL, by omega, by simp, ⟨_, _, _, rfl⟩, HS2, HCM2, HR3, HW2⟩
                  case measure => simp [intOf]; omega)
        | succ ix =>
          obtain ⟨d, hd⟩ : ∃ d, S[ix]? = some d := ⟨S[ix]'(by have := HSL.out; omega), List.getElem?_eq_getElem _⟩
          obtain ⟨gg, go, rfl, r0, r1, r2, r3, r4⟩ := rd_cm (HRD1.out.below HBX.out) hd
          have hdc : (S.map CmA.c)[ix]? = some d.c := by rw [List.getElem?_map, hd]; rfl
          have HAH : Hid (aheadB le x.c d.c = ((decide (d.c.gen < x.c.gen) || ((x.c.gen == d.c.gen) && decide (d.c.id < x.c.id))) != le)) := hide rfl
          have hpos : decide ((0 : Int) < ((ix + 1 : Nat) : Int)) = true := by simp
          cases le with
          | true =>
            by_cases hA : d.c.gen < x.c.gen
            · have dA : decide (d.c.gen < x.c.gen) = true := by simpa using hA
              have HSLOT : Hid (slotS true x.c (S.map CmA.c) = ix + 1) := hide (slotS_is (by rw [List.length_map]; have := HSL.out; omega) HI.out (fun e h0 he => by
                rw [Nat.add_sub_cancel] at he
                rw [hdc] at he
                injection he with he
                rw [← he, HAH.out]
                simp [hA]))
              clear hd hdc kq HAH
              go_wp2
              go_quiet (fail)
              clear q0 q2 r0 r1 r2 r3 r4
              by_cases hend : ix + 1 < vn
              · obtain ⟨g', e1, hO⟩ := HVX.out _ rfl
                injection e1 with e1 e2
                subst e1 e2
                clear hO
                have b3 := below_drewN HBX.out nq
                generalize wr.drewN nq = W3 at b3 ⊢
                have row3 := row_len HSL.out (HRO1.out.onl (F := fun _ => False) (Onl.ofBelow b3) (fun _ _ q => q))
                have hB3 := HB1.out.trans (b3.mono HB1.out.size)
                have kq3 := HK1.out.old b3
                have y0 := kq3.cell 0
                have y1 := kq3.cell 1
                have y2 := kq3.cell 2
                have y3 := kq3.cell 3
                have y4 := kq3.cell 4
                simp only [List.getElem?_cons_zero, List.getElem?_cons_succ] at y0 y1 y2 y3 y4
                have hvm2 : vc ≤ 9223372036854775807 := by unfold maxLen at hvm; omega
                obtain ⟨a1, c1, n1, w5, a2, c2, w4, R1, R2, rr, bb2, bb1⟩ := cins_mid (i := ix + 1) row3 x (by have := HSL.out; omega) (by have := HSL.out; omega)
                obtain ⟨LL, hLL⟩ : ∃ LL, LL = S.take (ix + 1) ++ x :: S.drop (ix + 1) := ⟨_, rfl⟩
                rw [← hLL] at rr R2
                have HCM2 : Hid (∀ y ∈ LL, CmR w0 y.c y.a y.cap) := hide (fun y hy => by
                  rw [hLL] at hy
                  simp only [List.mem_append, List.mem_cons] at hy
                  rcases hy with hy | rfl | hy
                  · exact HCM.out y (List.mem_of_mem_take hy)
                  · exact HXR.out
                  · exact HCM.out y (List.mem_of_mem_drop hy))
                have HS2 : Hid (LL.map CmA.c = sortG l true (ids.take (vn + 1))) := hide (by
                  rw [HST.out]
                  unfold insS
                  rw [← HS.out, HSLOT.out, hLL]
                  rw [List.map_append, List.map_cons, List.map_take, List.map_drop])
                have HR2 : Hid (Row (fun g => w.heap.size ≤ g) w4 32 5 (.slice a2 LL.length c2) LL.length (gcells cCm LL)) := hide (rr.mono (fun g hg => by have := hB3.size; omega))
                have HW2 := hide (hB3.trans (bb2.mono hB3.size))
                obtain ⟨n2, hn2⟩ : ∃ n2, n2 = LL.length := ⟨_, rfl⟩
                have HR3 : Hid (Row (fun g => w.heap.size ≤ g) w4 32 5 (.slice a2 n2 c2) LL.length (gcells cCm LL)) := hide (by have := HR2.out; rw [← hn2] at this ⊢; exact this)
                rw [← hn2] at R2
                simp only [HSL.out] at R1
                obtain ⟨z1, z2, z3⟩ := app_runs R1
                obtain ⟨z4, z5, z6⟩ := app_runs R2
                have hie : ¬ vc = ix + 1 := by omega
                clear R1 R2 rr bb2 bb1 hLL hn2 row3 kq3 b3 HBX hB3 HR2
                go_wp2
                go_region
                all_goals (
                  go_wp2
                  go_roundw
                  case rel => exact ⟨vn + 1, LL, by omega, by simp, ⟨_, _, _, rfl⟩, HS2, HCM2, HR3, HW2⟩
                  case measure => simp [intOf]; omega)
              · obtain rfl : vn = ix + 1 := by omega
                clear hend
                have b3 := below_drewN HBX.out nq
                generalize wr.drewN nq = W3 at b3 ⊢
                have row3 := row_len HSL.out (HRO1.out.onl (F := fun _ => False) (Onl.ofBelow b3) (fun _ _ q => q))
                have hB3 := HB1.out.trans (b3.mono HB1.out.size)
                have kq3 := HK1.out.old b3
                have y0 := kq3.cell 0
                have y1 := kq3.cell 1
                have y2 := kq3.cell 2
                have y3 := kq3.cell 3
                have y4 := kq3.cell 4
                simp only [List.getElem?_cons_zero, List.getElem?_cons_succ] at y0 y1 y2 y3 y4
                have hvm2 : vc ≤ 9223372036854775807 := by unfold maxLen at hvm; omega
                obtain ⟨g', e1, hO⟩ := HVX.out _ rfl
                injection e1 with e1 e2
                subst e1 e2
                clear hO
                by_cases hie : vc = ix + 1
                · subst hie
                  obtain ⟨a2, c2, w4, R1, R2, rr, bb2⟩ := cins_end row3 x (by have := HSL.out; omega) (some ⟨gg, 0, none⟩) (ix + 1 - (ix + 1))
                  obtain ⟨LL, hLL⟩ : ∃ LL, LL = S ++ [x] := ⟨_, rfl⟩
                  rw [← hLL] at rr R2
                  have HCM2 : Hid (∀ y ∈ LL, CmR w0 y.c y.a y.cap) := hide (fun y hy => by
                    rw [hLL] at hy
                    simp only [List.mem_append, List.mem_singleton] at hy
                    rcases hy with hy | rfl
                    · exact HCM.out y hy
                    · exact HXR.out)
                  have HS2 : Hid (LL.map CmA.c = sortG l true (ids.take (ix + 1 + 1))) := hide (by
                    rw [HST.out]
                    unfold insS
                    rw [← HS.out, HSLOT.out, hLL]
                    rw [List.take_of_length_le (by rw [List.length_map]; have := HSL.out; omega), List.drop_eq_nil_of_le (by rw [List.length_map]; have := HSL.out; omega), List.map_append]; rfl)
                  have HR2 : Hid (Row (fun g => w.heap.size ≤ g) w4 32 5 (.slice a2 LL.length c2) LL.length (gcells cCm LL)) := hide (rr.mono (fun g hg => by have := hB3.size; omega))
                  have HW2 := hide (hB3.trans (bb2.mono hB3.size))
                  obtain ⟨n2, hn2⟩ : ∃ n2, n2 = LL.length := ⟨_, rfl⟩
                  have HR3 : Hid (Row (fun g => w.heap.size ≤ g) w4 32 5 (.slice a2 n2 c2) LL.length (gcells cCm LL)) := hide (by have := HR2.out; rw [← hn2] at this ⊢; exact this)
                  rw [← hn2] at R2
                  simp only [HSL.out] at R1 R2
                  rw [Nat.sub_self] at R1
                  obtain ⟨z1, z2, z3⟩ := app_runs R1
                  obtain ⟨z4, z5, z6⟩ := app_runs R2
                  clear R1 R2 rr bb2 hLL hn2 row3 kq3 b3 HBX hB3 HR2
                  go_wp2
                  go_region
                  all_goals (
                    go_wp2
                    go_roundw
                    case rel => exact ⟨ix + 1 + 1, LL, by omega, by simp, ⟨_, _, _, rfl⟩, HS2, HCM2, HR3, HW2⟩
                    case measure => simp [intOf]; omega)
                · have hie2 := hie
                  obtain ⟨a2, c2, w4, R1, R2, rr, bb2⟩ := cins_end row3 x (by have := HSL.out; omega) (some ⟨gg, (ix + 1) * 5, none⟩) (vc - (ix + 1))
                  obtain ⟨LL, hLL⟩ : ∃ LL, LL = S ++ [x] := ⟨_, rfl⟩
                  rw [← hLL] at rr R2
                  have HCM2 : Hid (∀ y ∈ LL, CmR w0 y.c y.a y.cap) := hide (fun y hy => by
                    rw [hLL] at hy
                    simp only [List.mem_append, List.mem_singleton] at hy
                    rcases hy with hy | rfl
                    · exact HCM.out y hy
                    · exact HXR.out)
                  have HS2 : Hid (LL.map CmA.c = sortG l true (ids.take (ix + 1 + 1))) := hide (by
                    rw [HST.out]
                    unfold insS
                    rw [← HS.out, HSLOT.out, hLL]
                    rw [List.take_of_length_le (by rw [List.length_map]; have := HSL.out; omega), List.drop_eq_nil_of_le (by rw [List.length_map]; have := HSL.out; omega), List.map_append]; rfl)
                  have HR2 : Hid (Row (fun g => w.heap.size ≤ g) w4 32 5 (.slice a2 LL.length c2) LL.length (gcells cCm LL)) := hide (rr.mono (fun g hg => by have := hB3.size; omega))
                  have HW2 := hide (hB3.trans (bb2.mono hB3.size))
                  obtain ⟨n2, hn2⟩ : ∃ n2, n2 = LL.length := ⟨_, rfl⟩
                  have HR3 : Hid (Row (fun g => w.heap.size ≤ g) w4 32 5 (.slice a2 n2 c2) LL.length (gcells cCm LL)) := hide (by have := HR2.out; rw [← hn2] at this ⊢; exact this)
                  rw [← hn2] at R2
                  simp only [HSL.out] at R1 R2
                  obtain ⟨z1, z2, z3⟩ := app_runs R1
                  obtain ⟨z4, z5, z6⟩ := app_runs R2
                  clear R1 R2 rr bb2 hLL hn2 row3 kq3 b3 HBX hB3 HR2
                  go_wp2
                  go_region
                  all_goals (
                    go_wp2
                    go_roundw
                    case rel => exact ⟨ix + 1 + 1, LL, by omega, by simp, ⟨_, _, _, rfl⟩, HS2, HCM2, HR3, HW2⟩
                    case measure => simp [intOf]; omega)
            · have dA : decide (d.c.gen < x.c.gen) = false := by simpa using hA
              by_cases hE : x.c.gen = d.c.gen
              · have dE : (x.c.gen == d.c.gen) = true := by simpa using hE
                by_cases hD : d.c.id < x.c.id
                · have dI : decide (d.c.id < x.c.id) = true := by simpa using hD
                  have HSLOT : Hid (slotS true x.c (S.map CmA.c) = ix + 1) := hide (slotS_is (by rw [List.length_map]; have := HSL.out; omega) HI.out (fun e h0 he => by
                    rw [Nat.add_sub_cancel] at he
                    rw [hdc] at he
                    injection he with he
                    rw [← he, HAH.out]
                    simp [hE, hD]))
                  clear hd hdc kq HAH hE
                  go_wp2
                  go_quiet (fail)
                  clear q0 q2 r0 r1 r2 r3 r4
                  by_cases hend : ix + 1 < vn
                  · obtain ⟨g', e1, hO⟩ := HVX.out _ rfl
                    injection e1 with e1 e2
                    subst e1 e2
                    clear hO
                    have b3 := below_drewN HBX.out nq
                    generalize wr.drewN nq = W3 at b3 ⊢
                    have row3 := row_len HSL.out (HRO1.out.onl (F := fun _ => False) (Onl.ofBelow b3) (fun _ _ q => q))
                    have hB3 := HB1.out.trans (b3.mono HB1.out.size)
                    have kq3 := HK1.out.old b3
                    have y0 := kq3.cell 0
                    have y1 := kq3.cell 1
                    have y2 := kq3.cell 2
                    have y3 := kq3.cell 3
                    have y4 := kq3.cell 4
                    simp only [List.getElem?_cons_zero, List.getElem?_cons_succ] at y0 y1 y2 y3 y4
                    have hvm2 : vc ≤ 9223372036854775807 := by unfold maxLen at hvm; omega
                    obtain ⟨a1, c1, n1, w5, a2, c2, w4, R1, R2, rr, bb2, bb1⟩ := cins_mid (i := ix + 1) row3 x (by have := HSL.out; omega) (by have := HSL.out; omega)
                    obtain ⟨LL, hLL⟩ : ∃ LL, LL = S.take (ix + 1) ++ x :: S.drop (ix + 1) := ⟨_, rfl⟩
                    rw [← hLL] at rr R2
                    have HCM2 : Hid (∀ y ∈ LL, CmR w0 y.c y.a y.cap) := hide (fun y hy => by
                      rw [hLL] at hy
                      simp only [List.mem_append, List.mem_cons] at hy
                      rcases hy with hy | rfl | hy
                      · exact HCM.out y (List.mem_of_mem_take hy)
                      · exact HXR.out
                      · exact HCM.out y (List.mem_of_mem_drop hy))
                    have HS2 : Hid (LL.map CmA.c = sortG l true (ids.take (vn + 1))) := hide (by
                      rw [HST.out]
                      unfold insS
                      rw [← HS.out, HSLOT.out, hLL]
                      rw [List.map_append, List.map_cons, List.map_take, List.map_drop])
                    have HR2 : Hid (Row (fun g => w.heap.size ≤ g) w4 32 5 (.slice a2 LL.length c2) LL.length (gcells cCm LL)) := hide (rr.mono (fun g hg => by have := hB3.size; omega))
                    have HW2 := hide (hB3.trans (bb2.mono hB3.size))
                    obtain ⟨n2, hn2⟩ : ∃ n2, n2 = LL.length := ⟨_, rfl⟩
                    have HR3 : Hid (Row (fun g => w.heap.size ≤ g) w4 32 5 (.slice a2 n2 c2) LL.length (gcells cCm LL)) := hide (by have := HR2.out; rw [← hn2] at this ⊢; exact this)
                    rw [← hn2] at R2
                    simp only [HSL.out] at R1
                    obtain ⟨z1, z2, z3⟩ := app_runs R1
                    obtain ⟨z4, z5, z6⟩ := app_runs R2
                    have hie : ¬ vc = ix + 1 := by omega
                    clear R1 R2 rr bb2 bb1 hLL hn2 row3 kq3 b3 HBX hB3 HR2
                    go_wp2
                    go_region
                    all_goals (
                      go_wp2
                      go_roundw
                      case rel => exact ⟨vn + 1, LL, by omega, by simp, ⟨_, _, _, rfl⟩, HS2, HCM2, HR3, HW2⟩
                      case measure => simp [intOf]; omega)
                  · obtain rfl : vn = ix + 1 := by omega
                    clear hend
                    have b3 := below_drewN HBX.out nq
                    generalize wr.drewN nq = W3 at b3 ⊢
                    have row3 := row_len HSL.out (HRO1.out.onl (F := fun _ => False) (Onl.ofBelow b3) (fun _ _ q => q))
                    have hB3 := HB1.out.trans (b3.mono HB1.out.size)
                    have kq3 := HK1.out.old b3
                    have y0 := kq3.cell 0
                    have y1 := kq3.cell 1
                    have y2 := kq3.cell 2
                    have y3 := kq3.cell 3
                    have y4 := kq3.cell 4
                    simp only [List.getElem?_cons_zero, List.getElem?_cons_succ] at y0 y1 y2 y3 y4
                    have hvm2 : vc ≤ 9223372036854775807 := by unfold maxLen at hvm; omega
                    obtain ⟨g', e1, hO⟩ := HVX.out _ rfl
                    injection e1 with e1 e2
                    subst e1 e2
                    clear hO
                    by_cases hie : vc = ix + 1
                    · subst hie
                      obtain ⟨a2, c2, w4, R1, R2, rr, bb2⟩ := cins_end row3 x (by have := HSL.out; omega) (some ⟨gg, 0, none⟩) (ix + 1 - (ix + 1))
                      obtain ⟨LL, hLL⟩ : ∃ LL, LL = S ++ [x] := ⟨_, rfl⟩
                      rw [← hLL] at rr R2
                      have HCM2 : Hid (∀ y ∈ LL, CmR w0 y.c y.a y.cap) := hide (fun y hy => by
                        rw [hLL] at hy
                        simp only [List.mem_append, List.mem_singleton] at hy
                        rcases hy with hy | rfl
                        · exact HCM.out y hy
                        · exact HXR.out)
                      have HS2 : Hid (LL.map CmA.c = sortG l true (ids.take (ix + 1 + 1))) := hide (by
                        rw [HST.out]
                        unfold insS
                        rw [← HS.out, HSLOT.out, hLL]
                        rw [List.take_of_length_le (by rw [List.length_map]; have := HSL.out; omega), List.drop_eq_nil_of_le (by rw [List.length_map]; have := HSL.out; omega), List.map_append]; rfl)
                      have HR2 : Hid (Row (fun g => w.heap.size ≤ g) w4 32 5 (.slice a2 LL.length c2) LL.length (gcells cCm LL)) := hide (rr.mono (fun g hg => by have := hB3.size; omega))
                      have HW2 := hide (hB3.trans (bb2.mono hB3.size))
                      obtain ⟨n2, hn2⟩ : ∃ n2, n2 = LL.length := ⟨_, rfl⟩
                      have HR3 : Hid (Row (fun g => w.heap.size ≤ g) w4 32 5 (.slice a2 n2 c2) LL.length (gcells cCm LL)) := hide (by have := HR2.out; rw [← hn2] at this ⊢; exact this)
                      rw [← hn2] at R2
                      simp only [HSL.out] at R1 R2
                      rw [Nat.sub_self] at R1
                      obtain ⟨z1, z2, z3⟩ := app_runs R1
                      obtain ⟨z4, z5, z6⟩ := app_runs R2
                      clear R1 R2 rr bb2 hLL hn2 row3 kq3 b3 HBX hB3 HR2
                      go_wp2
                      go_region
                      all_goals (
                        go_wp2
                        go_roundw
                        case rel => exact ⟨ix + 1 + 1, LL, by omega, by simp, ⟨_, _, _, rfl⟩, HS2, HCM2, HR3, HW2⟩
                        case measure => simp [intOf]; omega)
                    · have hie2 := hie
                      obtain ⟨a2, c2, w4, R1, R2, rr, bb2⟩ := cins_end row3 x (by have := HSL.out; omega) (some ⟨gg, (ix + 1) * 5, none⟩) (vc - (ix + 1))
                      obtain ⟨LL, hLL⟩ : ∃ LL, LL = S ++ [x] := ⟨_, rfl⟩
                      rw [← hLL] at rr R2
                      have HCM2 : Hid (∀ y ∈ LL, CmR w0 y.c y.a y.cap) := hide (fun y hy => by
                        rw [hLL] at hy
                        simp only [List.mem_append, List.mem_singleton] at hy
                        rcases hy with hy | rfl
                        · exact HCM.out y hy
                        · exact HXR.out)
                      have HS2 : Hid (LL.map CmA.c = sortG l true (ids.take (ix + 1 + 1))) := hide (by
                        rw [HST.out]
                        unfold insS
                        rw [← HS.out, HSLOT.out, hLL]
                        rw [List.take_of_length_le (by rw [List.length_map]; have := HSL.out; omega), List.drop_eq_nil_of_le (by rw [List.length_map]; have := HSL.out; omega), List.map_append]; rfl)
                      have HR2 : Hid (Row (fun g => w.heap.size ≤ g) w4 32 5 (.slice a2 LL.length c2) LL.length (gcells cCm LL)) := hide (rr.mono (fun g hg => by have := hB3.size; omega))
                      have HW2 := hide (hB3.trans (bb2.mono hB3.size))
                      obtain ⟨n2, hn2⟩ : ∃ n2, n2 = LL.length := ⟨_, rfl⟩
                      have HR3 : Hid (Row (fun g => w.heap.size ≤ g) w4 32 5 (.slice a2 n2 c2) LL.length (gcells cCm LL)) := hide (by have := HR2.out; rw [← hn2] at this ⊢; exact this)
                      rw [← hn2] at R2
                      simp only [HSL.out] at R1 R2
                      obtain ⟨z1, z2, z3⟩ := app_runs R1
                      obtain ⟨z4, z5, z6⟩ := app_runs R2
                      clear R1 R2 rr bb2 hLL hn2 row3 kq3 b3 HBX hB3 HR2
                      go_wp2
                      go_region
                      all_goals (
                        go_wp2
                        go_roundw
                        case rel => exact ⟨ix + 1 + 1, LL, by omega, by simp, ⟨_, _, _, rfl⟩, HS2, HCM2, HR3, HW2⟩
                        case measure => simp [intOf]; omega)
                · have dI : decide (d.c.id < x.c.id) = false := by simpa using hD
                  have HI2 : Hid (∀ j e, ix ≤ j → (S.map CmA.c)[j]? = some e → aheadB true x.c e = true) := hide (fun j e hj he => by
                    by_cases q : j = ix
                    · subst q
                      rw [hdc] at he
                      injection he with he
                      rw [← he, HAH.out]
                      simp [hE, hD]
                    · exact HI.out j e (by omega) he)
                  clear hd hdc kq HAH hE
                  go_wp2
                  go_quiet (fail)
                  go_wp2
                  go_roundw
                  case rel => exact ⟨ix, by omega, by simp, HI2, hide (below_drewN HBX.out _)⟩
                  case measure => simp [intOf]
              · have dE : (x.c.gen == d.c.gen) = false := by simpa using hE
                have HI2 : Hid (∀ j e, ix ≤ j → (S.map CmA.c)[j]? = some e → aheadB true x.c e = true) := hide (fun j e hj he => by
                  by_cases q : j = ix
                  · subst q
                    rw [hdc] at he
                    injection he with he
                    rw [← he, HAH.out]
                    simp [hA, hE]
                  · exact HI.out j e (by omega) he)
                clear hd hdc kq HAH
                go_wp2
                go_quiet (fail)
                go_wp2
                go_roundw
                case rel => exact ⟨ix, by omega, by simp, HI2, hide (below_drewN HBX.out _)⟩
                case measure => simp [intOf]
          | false =>
            by_cases hA : d.c.gen < x.c.gen
            · have dA : decide (d.c.gen < x.c.gen) = true := by simpa using hA
              have HI2 : Hid (∀ j e, ix ≤ j → (S.map CmA.c)[j]? = some e → aheadB false x.c e = true) := hide (fun j e hj he => by
                by_cases q : j = ix
                · subst q
                  rw [hdc] at he
                  injection he with he
                  rw [← he, HAH.out]
                  simp [hA]
                · exact HI.out j e (by omega) he)
              clear hd hdc kq HAH
              go_wp2
              go_quiet (fail)
              go_wp2
              go_roundw
              case rel => exact ⟨ix, by omega, by simp, HI2, hide (below_drewN HBX.out _)⟩
              case measure => simp [intOf]
            · have dA : decide (d.c.gen < x.c.gen) = false := by simpa using hA
              by_cases hE : x.c.gen = d.c.gen
              · have dE : (x.c.gen == d.c.gen) = true := by simpa using hE
                by_cases hD : d.c.id < x.c.id
                · have dI : decide (d.c.id < x.c.id) = true := by simpa using hD
                  have HI2 : Hid (∀ j e, ix ≤ j → (S.map CmA.c)[j]? = some e → aheadB false x.c e = true) := hide (fun j e hj he => by
                    by_cases q : j = ix
                    · subst q
                      rw [hdc] at he
                      injection he with he
                      rw [← he, HAH.out]
                      simp [hE, hD]
                    · exact HI.out j e (by omega) he)
                  clear hd hdc kq HAH hE
                  go_wp2
                  go_quiet (fail)
                  go_wp2
                  go_roundw
                  case rel => exact ⟨ix, by omega, by simp, HI2, hide (below_drewN HBX.out _)⟩
                  case measure => simp [intOf]
                · have dI : decide (d.c.id < x.c.id) = false := by simpa using hD
                  have HSLOT : Hid (slotS false x.c (S.map CmA.c) = ix + 1) := hide (slotS_is (by rw [List.length_map]; have := HSL.out; omega) HI.out (fun e h0 he => by
                    rw [Nat.add_sub_cancel] at he
                    rw [hdc] at he
                    injection he with he
                    rw [← he, HAH.out]
                    simp [hE, hD]))
                  clear hd hdc kq HAH hE
                  go_wp2
                  go_quiet (fail)
                  clear q0 q2 r0 r1 r2 r3 r4
                  by_cases hend : ix + 1 < vn
                  · obtain ⟨g', e1, hO⟩ := HVX.out _ rfl
                    injection e1 with e1 e2
                    subst e1 e2
                    clear hO
                    have b3 := below_drewN HBX.out nq
                    generalize wr.drewN nq = W3 at b3 ⊢
                    have row3 := row_len HSL.out (HRO1.out.onl (F := fun _ => False) (Onl.ofBelow b3) (fun _ _ q => q))
                    have hB3 := HB1.out.trans (b3.mono HB1.out.size)
                    have kq3 := HK1.out.old b3
                    have y0 := kq3.cell 0
                    have y1 := kq3.cell 1
                    have y2 := kq3.cell 2
                    have y3 := kq3.cell 3
                    have y4 := kq3.cell 4
                    simp only [List.getElem?_cons_zero, List.getElem?_cons_succ] at y0 y1 y2 y3 y4
                    have hvm2 : vc ≤ 9223372036854775807 := by unfold maxLen at hvm; omega
                    obtain ⟨a1, c1, n1, w5, a2, c2, w4, R1, R2, rr, bb2, bb1⟩ := cins_mid (i := ix + 1) row3 x (by have := HSL.out; omega) (by have := HSL.out; omega)
                    obtain ⟨LL, hLL⟩ : ∃ LL, LL = S.take (ix + 1) ++ x :: S.drop (ix + 1) := ⟨_, rfl⟩
                    rw [← hLL] at rr R2
                    have HCM2 : Hid (∀ y ∈ LL, CmR w0 y.c y.a y.cap) := hide (fun y hy => by
                      rw [hLL] at hy
                      simp only [List.mem_append, List.mem_cons] at hy
                      rcases hy with hy | rfl | hy
                      · exact HCM.out y (List.mem_of_mem_take hy)
                      · exact HXR.out
                      · exact HCM.out y (List.mem_of_mem_drop hy))
                    have HS2 : Hid (LL.map CmA.c = sortG l false (ids.take (vn + 1))) := hide (by
                      rw [HST.out]
                      unfold insS
                      rw [← HS.out, HSLOT.out, hLL]
                      rw [List.map_append, List.map_cons, List.map_take, List.map_drop])
                    have HR2 : Hid (Row (fun g => w.heap.size ≤ g) w4 32 5 (.slice a2 LL.length c2) LL.length (gcells cCm LL)) := hide (rr.mono (fun g hg => by have := hB3.size; omega))
                    have HW2 := hide (hB3.trans (bb2.mono hB3.size))
                    obtain ⟨n2, hn2⟩ : ∃ n2, n2 = LL.length := ⟨_, rfl⟩
                    have HR3 : Hid (Row (fun g => w.heap.size ≤ g) w4 32 5 (.slice a2 n2 c2) LL.length (gcells cCm LL)) := hide (by have := HR2.out; rw [← hn2] at this ⊢; exact this)
                    rw [← hn2] at R2
                    simp only [HSL.out] at R1
                    obtain ⟨z1, z2, z3⟩ := app_runs R1
                    obtain ⟨z4, z5, z6⟩ := app_runs R2
                    have hie : ¬ vc = ix + 1 := by omega
                    clear R1 R2 rr bb2 bb1 hLL hn2 row3 kq3 b3 HBX hB3 HR2
                    go_wp2
                    go_region
                    all_goals (
                      go_wp2
                      go_roundw
                      case rel => exact ⟨vn + 1, LL, by omega, by simp, ⟨_, _, _, rfl⟩, HS2, HCM2, HR3, HW2⟩
                      case measure => simp [intOf]; omega)
                  · obtain rfl : vn = ix + 1 := by omega
                    clear hend
                    have b3 := below_drewN HBX.out nq
                    generalize wr.drewN nq = W3 at b3 ⊢
                    have row3 := row_len HSL.out (HRO1.out.onl (F := fun _ => False) (Onl.ofBelow b3) (fun _ _ q => q))
                    have hB3 := HB1.out.trans (b3.mono HB1.out.size)
                    have kq3 := HK1.out.old b3
                    have y0 := kq3.cell 0
                    have y1 := kq3.cell 1
                    have y2 := kq3.cell 2
                    have y3 := kq3.cell 3
                    have y4 := kq3.cell 4
                    simp only [List.getElem?_cons_zero, List.getElem?_cons_succ] at y0 y1 y2 y3 y4
                    have hvm2 : vc ≤ 9223372036854775807 := by unfold maxLen at hvm; omega
                    obtain ⟨g', e1, hO⟩ := HVX.out _ rfl
                    injection e1 with e1 e2
                    subst e1 e2
                    clear hO
                    by_cases hie : vc = ix + 1
                    · subst hie
                      obtain ⟨a2, c2, w4, R1, R2, rr, bb2⟩ := cins_end row3 x (by have := HSL.out; omega) (some ⟨gg, 0, none⟩) (ix + 1 - (ix + 1))
                      obtain ⟨LL, hLL⟩ : ∃ LL, LL = S ++ [x] := ⟨_, rfl⟩
                      rw [← hLL] at rr R2
                      have HCM2 : Hid (∀ y ∈ LL, CmR w0 y.c y.a y.cap) := hide (fun y hy => by
                        rw [hLL] at hy
                        simp only [List.mem_append, List.mem_singleton] at hy
                        rcases hy with hy | rfl
                        · exact HCM.out y hy
                        · exact HXR.out)
                      have HS2 : Hid (LL.map CmA.c = sortG l false (ids.take (ix + 1 + 1))) := hide (by
                        rw [HST.out]
                        unfold insS
                        rw [← HS.out, HSLOT.out, hLL]
                        rw [List.take_of_length_le (by rw [List.length_map]; have := HSL.out; omega), List.drop_eq_nil_of_le (by rw [List.length_map]; have := HSL.out; omega), List.map_append]; rfl)
                      have HR2 : Hid (Row (fun g => w.heap.size ≤ g) w4 32 5 (.slice a2 LL.length c2) LL.length (gcells cCm LL)) := hide (rr.mono (fun g hg => by have := hB3.size; omega))
                      have HW2 := hide (hB3.trans (bb2.mono hB3.size))
                      obtain ⟨n2, hn2⟩ : ∃ n2, n2 = LL.length := ⟨_, rfl⟩
                      have HR3 : Hid (Row (fun g => w.heap.size ≤ g) w4 32 5 (.slice a2 n2 c2) LL.length (gcells cCm LL)) := hide (by have := HR2.out; rw [← hn2] at this ⊢; exact this)
                      rw [← hn2] at R2
                      simp only [HSL.out] at R1 R2
                      rw [Nat.sub_self] at R1
                      obtain ⟨z1, z2, z3⟩ := app_runs R1
                      obtain ⟨z4, z5, z6⟩ := app_runs R2
                      clear R1 R2 rr bb2 hLL hn2 row3 kq3 b3 HBX hB3 HR2
                      go_wp2
                      go_region
                      all_goals (
                        go_wp2
                        go_roundw
                        case rel => exact ⟨ix + 1 + 1, LL, by omega, by simp, ⟨_, _, _, rfl⟩, HS2, HCM2, HR3, HW2⟩
                        case measure => simp [intOf]; omega)
                    · have hie2 := hie
                      obtain ⟨a2, c2, w4, R1, R2, rr, bb2⟩ := cins_end row3 x (by have := HSL.out; omega) (some ⟨gg, (ix + 1) * 5, none⟩) (vc - (ix + 1))
                      obtain ⟨LL, hLL⟩ : ∃ LL, LL = S ++ [x] := ⟨_, rfl⟩
                      rw [← hLL] at rr R2
                      have HCM2 : Hid (∀ y ∈ LL, CmR w0 y.c y.a y.cap) := hide (fun y hy => by
                        rw [hLL] at hy
                        simp only [List.mem_append, List.mem_singleton] at hy
                        rcases hy with hy | rfl
                        · exact HCM.out y hy
                        · exact HXR.out)
                      have HS2 : Hid (LL.map CmA.c = sortG l false (ids.take (ix + 1 + 1))) := hide (by
                        rw [HST.out]
                        unfold insS
                        rw [← HS.out, HSLOT.out, hLL]
                        rw [List.take_of_length_le (by rw [List.length_map]; have := HSL.out; omega), List.drop_eq_nil_of_le (by rw [List.length_map]; have := HSL.out; omega), List.map_append]; rfl)
                      have HR2 : Hid (Row (fun g => w.heap.size ≤ g) w4 32 5 (.slice a2 LL.length c2) LL.length (gcells cCm LL)) := hide (rr.mono (fun g hg => by have := hB3.size; omega))
                      have HW2 := hide (hB3.trans (bb2.mono hB3.size))
                      obtain ⟨n2, hn2⟩ : ∃ n2, n2 = LL.length := ⟨_, rfl⟩
                      have HR3 : Hid (Row (fun g => w.heap.size ≤ g) w4 32 5 (.slice a2 n2 c2) LL.length (gcells cCm LL)) := hide (by have := HR2.out; rw [← hn2] at this ⊢; exact this)
                      rw [← hn2] at R2
                      simp only [HSL.out] at R1 R2
                      obtain ⟨z1, z2, z3⟩ := app_runs R1
                      obtain ⟨z4, z5, z6⟩ := app_runs R2
                      clear R1 R2 rr bb2 hLL hn2 row3 kq3 b3 HBX hB3 HR2
                      go_wp2
                      go_region
                      all_goals (
                        go_wp2
                        go_roundw
                        case rel => exact ⟨ix + 1 + 1, LL, by omega, by simp, ⟨_, _, _, rfl⟩, HS2, HCM2, HR3, HW2⟩
                        case measure => simp [intOf]; omega)
              · have dE : (x.c.gen == d.c.gen) = false := by simpa using hE
                have HSLOT : Hid (slotS false x.c (S.map CmA.c) = ix + 1) := hide (slotS_is (by rw [List.length_map]; have := HSL.out; omega) HI.out (fun e h0 he => by
                  rw [Nat.add_sub_cancel] at he
                  rw [hdc] at he
                  injection he with he
                  rw [← he, HAH.out]
                  simp [hA, hE]))
                clear hd hdc kq HAH
                go_wp2
                go_quiet (fail)
                clear q0 q2 r0 r1 r2 r3 r4
                by_cases hend : ix + 1 < vn
                · obtain ⟨g', e1, hO⟩ := HVX.out _ rfl
                  injection e1 with e1 e2
                  subst e1 e2
                  clear hO
                  have b3 := below_drewN HBX.out nq
                  generalize wr.drewN nq = W3 at b3 ⊢
                  have row3 := row_len HSL.out (HRO1.out.onl (F := fun _ => False) (Onl.ofBelow b3) (fun _ _ q => q))
                  have hB3 := HB1.out.trans (b3.mono HB1.out.size)
                  have kq3 := HK1.out.old b3
                  have y0 := kq3.cell 0
                  have y1 := kq3.cell 1
                  have y2 := kq3.cell 2
                  have y3 := kq3.cell 3
                  have y4 := kq3.cell 4
                  simp only [List.getElem?_cons_zero, List.getElem?_cons_succ] at y0 y1 y2 y3 y4
                  have hvm2 : vc ≤ 9223372036854775807 := by unfold maxLen at hvm; omega
                  obtain ⟨a1, c1, n1, w5, a2, c2, w4, R1, R2, rr, bb2, bb1⟩ := cins_mid (i := ix + 1) row3 x (by have := HSL.out; omega) (by have := HSL.out; omega)
                  obtain ⟨LL, hLL⟩ : ∃ LL, LL = S.take (ix + 1) ++ x :: S.drop (ix + 1) := ⟨_, rfl⟩
                  rw [← hLL] at rr R2
                  have HCM2 : Hid (∀ y ∈ LL, CmR w0 y.c y.a y.cap) := hide (fun y hy => by
                    rw [hLL] at hy
                    simp only [List.mem_append, List.mem_cons] at hy
                    rcases hy with hy | rfl | hy
                    · exact HCM.out y (List.mem_of_mem_take hy)
                    · exact HXR.out
                    · exact HCM.out y (List.mem_of_mem_drop hy))
                  have HS2 : Hid (LL.map CmA.c = sortG l false (ids.take (vn + 1))) := hide (by
                    rw [HST.out]
                    unfold insS
                    rw [← HS.out, HSLOT.out, hLL]
                    rw [List.map_append, List.map_cons, List.map_take, List.map_drop])
                  have HR2 : Hid (Row (fun g => w.heap.size ≤ g) w4 32 5 (.slice a2 LL.length c2) LL.length (gcells cCm LL)) := hide (rr.mono (fun g hg => by have := hB3.size; omega))
                  have HW2 := hide (hB3.trans (bb2.mono hB3.size))
                  obtain ⟨n2, hn2⟩ : ∃ n2, n2 = LL.length := ⟨_, rfl⟩
                  have HR3 : Hid (Row (fun g => w.heap.size ≤ g) w4 32 5 (.slice a2 n2 c2) LL.length (gcells cCm LL)) := hide (by have := HR2.out; rw [← hn2] at this ⊢; exact this)
                  rw [← hn2] at R2
                  simp only [HSL.out] at R1
                  obtain ⟨z1, z2, z3⟩ := app_runs R1
                  obtain ⟨z4, z5, z6⟩ := app_runs R2
                  have hie : ¬ vc = ix + 1 := by omega
                  clear R1 R2 rr bb2 bb1 hLL hn2 row3 kq3 b3 HBX hB3 HR2
                  go_wp2
                  go_region
                  all_goals (
                    go_wp2
                    go_roundw
                    case rel => exact ⟨vn + 1, LL, by omega, by simp, ⟨_, _, _, rfl⟩, HS2, HCM2, HR3, HW2⟩
                    case measure => simp [intOf]; omega)
                · obtain rfl : vn = ix + 1 := by omega
                  clear hend
                  have b3 := below_drewN HBX.out nq
                  generalize wr.drewN nq = W3 at b3 ⊢
                  have row3 := row_len HSL.out (HRO1.out.onl (F := fun _ => False) (Onl.ofBelow b3) (fun _ _ q => q))
                  have hB3 := HB1.out.trans (b3.mono HB1.out.size)
                  have kq3 := HK1.out.old b3
                  have y0 := kq3.cell 0
                  have y1 := kq3.cell 1
                  have y2 := kq3.cell 2
                  have y3 := kq3.cell 3
                  have y4 := kq3.cell 4
                  simp only [List.getElem?_cons_zero, List.getElem?_cons_succ] at y0 y1 y2 y3 y4
                  have hvm2 : vc ≤ 9223372036854775807 := by unfold maxLen at hvm; omega
                  obtain ⟨g', e1, hO⟩ := HVX.out _ rfl
                  injection e1 with e1 e2
                  subst e1 e2
                  clear hO
                  by_cases hie : vc = ix + 1
                  · subst hie
                    obtain ⟨a2, c2, w4, R1, R2, rr, bb2⟩ := cins_end row3 x (by have := HSL.out; omega) (some ⟨gg, 0, none⟩) (ix + 1 - (ix + 1))
                    obtain ⟨LL, hLL⟩ : ∃ LL, LL = S ++ [x] := ⟨_, rfl⟩
                    rw [← hLL] at rr R2
                    have HCM2 : Hid (∀ y ∈ LL, CmR w0 y.c y.a y.cap) := hide (fun y hy => by
                      rw [hLL] at hy
                      simp only [List.mem_append, List.mem_singleton] at hy
                      rcases hy with hy | rfl
                      · exact HCM.out y hy
                      · exact HXR.out)
                    have HS2 : Hid (LL.map CmA.c = sortG l false (ids.take (ix + 1 + 1))) := hide (by
                      rw [HST.out]
                      unfold insS
                      rw [← HS.out, HSLOT.out, hLL]
                      rw [List.take_of_length_le (by rw [List.length_map]; have := HSL.out; omega), List.drop_eq_nil_of_le (by rw [List.length_map]; have := HSL.out; omega), List.map_append]; rfl)
                    have HR2 : Hid (Row (fun g => w.heap.size ≤ g) w4 32 5 (.slice a2 LL.length c2) LL.length (gcells cCm LL)) := hide (rr.mono (fun g hg => by have := hB3.size; omega))
                    have HW2 := hide (hB3.trans (bb2.mono hB3.size))
                    obtain ⟨n2, hn2⟩ : ∃ n2, n2 = LL.length := ⟨_, rfl⟩
                    have HR3 : Hid (Row (fun g => w.heap.size ≤ g) w4 32 5 (.slice a2 n2 c2) LL.length (gcells cCm LL)) := hide (by have := HR2.out; rw [← hn2] at this ⊢; exact this)
                    rw [← hn2] at R2
                    simp only [HSL.out] at R1 R2
                    rw [Nat.sub_self] at R1
                    obtain ⟨z1, z2, z3⟩ := app_runs R1
                    obtain ⟨z4, z5, z6⟩ := app_runs R2
                    clear R1 R2 rr bb2 hLL hn2 row3 kq3 b3 HBX hB3 HR2
                    go_wp2
                    go_region
                    all_goals (
                      go_wp2
                      go_roundw
                      case rel => exact ⟨ix + 1 + 1, LL, by omega, by simp, ⟨_, _, _, rfl⟩, HS2, HCM2, HR3, HW2⟩
                      case measure => simp [intOf]; omega)
                  · have hie2 := hie
                    obtain ⟨a2, c2, w4, R1, R2, rr, bb2⟩ := cins_end row3 x (by have := HSL.out; omega) (some ⟨gg, (ix + 1) * 5, none⟩) (vc - (ix + 1))
                    obtain ⟨LL, hLL⟩ : ∃ LL, LL = S ++ [x] := ⟨_, rfl⟩
                    rw [← hLL] at rr R2
                    have HCM2 : Hid (∀ y ∈ LL, CmR w0 y.c y.a y.cap) := hide (fun y hy => by
                      rw [hLL] at hy
                      simp only [List.mem_append, List.mem_singleton] at hy
                      rcases hy with hy | rfl
                      · exact HCM.out y hy
                      · exact HXR.out)
                    have HS2 : Hid (LL.map CmA.c = sortG l false (ids.take (ix + 1 + 1))) := hide (by
                      rw [HST.out]
                      unfold insS
                      rw [← HS.out, HSLOT.out, hLL]
                      rw [List.take_of_length_le (by rw [List.length_map]; have := HSL.out; omega), List.drop_eq_nil_of_le (by rw [List.length_map]; have := HSL.out; omega), List.map_append]; rfl)
                    have HR2 : Hid (Row (fun g => w.heap.size ≤ g) w4 32 5 (.slice a2 LL.length c2) LL.length (gcells cCm LL)) := hide (rr.mono (fun g hg => by have := hB3.size; omega))
                    have HW2 := hide (hB3.trans (bb2.mono hB3.size))
                    obtain ⟨n2, hn2⟩ : ∃ n2, n2 = LL.length := ⟨_, rfl⟩
                    have HR3 : Hid (Row (fun g => w.heap.size ≤ g) w4 32 5 (.slice a2 n2 c2) LL.length (gcells cCm LL)) := hide (by have := HR2.out; rw [← hn2] at this ⊢; exact this)
                    rw [← hn2] at R2
                    simp only [HSL.out] at R1 R2
                    obtain ⟨z1, z2, z3⟩ := app_runs R1
                    obtain ⟨z4, z5, z6⟩ := app_runs R2
                    clear R1 R2 rr bb2 hLL hn2 row3 kq3 b3 HBX hB3 HR2
                    go_wp2
                    go_region
                    all_goals (
                      go_wp2
                      go_roundw
                      case rel => exact ⟨ix + 1 + 1, LL, by omega, by simp, ⟨_, _, _, rfl⟩, HS2, HCM2, HR3, HW2⟩
                      case measure => simp [intOf]; omega)
    · obtain rfl : vn = m := by omega
      have hall : ids.take vn = ids := by rw [HM.out, List.take_length]
      have HF : Hid (CmP w0 w (sortG l le ids) (.returned (.slice va vn vc)) wr) := hide ⟨va, vn, vc, S, rfl, hsl.symm, by rw [HS.out, hall], HCM.out, HRO.out, HB.out⟩
      clear HRO hall rd hvx
      go_wp2
      go_ret
      exact HF.out
end Go.Proofs.Ytmkafoidfgaokaa
namespace Go.Proofs.Ytmkafoidfgaokaa
open Go.RowKit Apo
/-- commits in a row that is read -/
def LgP (w0 w : World) (l : List Cm) (e : Ending) (w' : World) : Prop := ∃ (a : Option Addr) (n c : Nat) (S : List CmA), e = .returned (.slice a n c) ∧ n = S.length ∧ S.map CmA.c = l ∧ (∀ x ∈ S, CmR w0 x.c x.a x.cap) ∧ RdG cCm 5 w' a S ∧ Below w.heap.size w w'
set_option maxRecDepth 100000 in
set_option maxHeartbeats 4000000 in
theorem log_any {w0 w : World} {p : Nat} {L : List CmA} (h : Gr w0 w p L) (hps : ∀ x ∈ L, x.c.ps.length ≤ 1099511627776) (id most : Int) :
    Calls Try.prog 28 #[.pointer (some ⟨p, 0, none⟩), .int .u64 id, .int .i64 most] w (LgP w0 w (logG (L.map CmA.c) id most)) := by
  have b0 : Below w.heap.size w (w.alloc (.cells #[.int .u64 id] 23)) := (Below.refl _ _).alloc (Nat.le_refl _) _
  have HCR := hide (reach_any (h.old b0) (some ⟨w.heap.size, 0, none⟩) 1 [id] hps (rd_lit1 _ _ _ _) (by simp))
  have hll : (reachG (L.map CmA.c) [id]).length ≤ 1000 := Nat.le_trans (reachG_len _ _) (by simpa using h.len)
  have HG := hide h
  have HB0 := hide b0
  have HE : Hid (logG (L.map CmA.c) id most = (sortG (L.map CmA.c) false (reachG (L.map CmA.c) [id])).take most.toNat) := hide rfl
  have HSL : Hid ((sortG (L.map CmA.c) false (reachG (L.map CmA.c) [id])).length ≤ 1000) := hide (by
    have := sortG_len (L.map CmA.c) false (reachG (L.map CmA.c) [id]) _ (Nat.le_refl _)
    rw [List.take_length] at this
    omega)
  generalize reachG (L.map CmA.c) [id] = X at HCR hll HE HSL
  generalize logG (L.map CmA.c) id most = R at HE ⊢
  clear h hps b0
  go_enter Try.func28, Try.ntmps28
  go_wp2_with fail
  refine HCR.out.mono ?_
  rintro e w1 ⟨xa, xn, xc, rfl, hxn, xr, b1⟩
  have HB1 := hide (HB0.out.trans (b1.mono HB0.out.size))
  subst hxn
  have HCS := hide (sorted_any (HG.out.old HB1.out) xa xc X false (Rd.own xr.1).1 hll)
  clear b1 HB0 HCR xr
  go_wp2_with fail
  refine HCS.out.mono ?_
  rintro e w2 ⟨a, n, c, S, rfl, hn, hS, hcm, row, b2⟩
  have HB2 := hide (HB1.out.trans (b2.mono HB1.out.size))
  obtain ⟨ra, rc, hv, rd, hnc, _⟩ := rd_gcells cCm_len row
  injection hv with e1 e2 e3
  subst e1 e3
  have HF : ∀ k : Nat, k ≤ n → (k = n ∨ k = most.toNat) → (k = n → n ≤ most.toNat) → Hid (LgP w0 w R (.returned (.slice a k c)) w2) := by
    intro k hk h1 h2
    refine hide ⟨a, k, c, S.take k, rfl, by simp; omega, ?_, fun x hx => hcm x (List.mem_of_mem_take hx), fun i x hi => rd i x (by rw [List.getElem?_take] at hi; split at hi; exact hi; cases hi), HB2.out⟩
    rw [HE.out, ← hS, List.map_take]
    rcases h1 with q | q
    · rw [List.take_of_length_le (by simp; omega), List.take_of_length_le (by simp; have := h2 q; omega)]
    · rw [q]
  rw [← e2] at hnc
  have hnl : n ≤ 1000 := by have := HSL.out; rw [← hS] at this; simpa [hn] using this
  clear hn hS hcm row rd e2 b2 HCS HB1 hll
  by_cases hneg : most < 0
  · by_cases hz : (0 : Int) < n
    · have HR := HF 0 (by omega) (.inr (by omega)) (by omega)
      clear HF
      go_wp2
      go_ret
      exact HR.out
    · obtain rfl : n = 0 := by omega
      have HR := HF 0 (by omega) (.inl rfl) (by omega)
      clear HF
      go_wp2
      go_ret
      exact HR.out
  · by_cases hz : most < n
    · obtain ⟨k, rfl⟩ : ∃ k : Nat, most = k := ⟨most.toNat, by omega⟩
      have HR := HF k (by omega) (.inr (by omega)) (by omega)
      clear HF
      go_wp2
      go_ret
      exact HR.out
    · have HR := HF n (by omega) (.inl rfl) (by omega)
      clear HF
      go_wp2
      go_ret
      exact HR.out
end Go.Proofs.Ytmkafoidfgaokaa
