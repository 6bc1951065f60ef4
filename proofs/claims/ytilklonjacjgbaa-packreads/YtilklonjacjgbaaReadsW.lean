/- The walk of apographlaw02.PackReads: it answers true, over the translation. -/
import Derived.Test.YtilklonjacjgbaaAwk
import Derived.Test.YtilklonjacjgbaaFew
import Derived.Test.YtilklonjacjgbaaClone
import Derived.Test.YtilklonjacjgbaaRef
import Derived.Deep.RegionLaw
import Derived.BigQuiet
import Derived.Deep.QuietTactic
namespace Go.Proofs.Ytilklonjacjgbaa
open Go.RowKit Apo

theorem Rr.drewN {w : World} {p g : Nat} {t : TypeId} {st : St} (h : Rr w p t g st) (n : Nat) : Rr (w.drewN n) p t g st := h.old (below_drewN (Below.refl _ _) n)
theorem Rr.drew {w : World} {p g : Nat} {t : TypeId} {st : St} (h : Rr w p t g st) : Rr w.drew p t g st := h.old (Below.refl _ _).drew

attribute [local go_sem ↓] Go.wp_at_zero Go.wp_at_succ

/-- two readers of the same bytes, apart from each other -/
structure Two (w : World) (p1 g1 p2 g2 : Nat) (st : St) : Prop where
  a : Rr w p1 56 g1 st
  b : Rr w p2 44 g2 st

theorem two_step {w1 w2 : World} {p1 g1 p2 g2 : Nat} {st' : St} (n1 : p1 ≠ p2) (n3 : p2 ≠ g1) (r1 : Rr w1 p1 56 g1 st') (r2 : Rr w2 p2 44 g2 st') (q2 : w1.grownBy w2 (some p2)) : Two w2 p1 g1 p2 g2 st' :=
  ⟨r1.kept q2 (by simp; omega) (by simp; omega), r2⟩
theorem Two.mid {w w1 : World} {p1 g1 p2 g2 : Nat} {st : St} (h : Two w p1 g1 p2 g2 st) (n1 : p1 ≠ p2) (n2 : p1 ≠ g2) (q1 : w.grownBy w1 (some p1)) : Rr w1 p2 44 g2 st := h.b.kept q1 (by simp; omega) (by simp; omega)

set_option maxHeartbeats 4000000 in
theorem reads_any (a : Option Addr) (cap : Nat) (l : List Int) (fa : Option Addr) (fcap : Nat) (fs : List Fld) (w : World) (hr : Rd .u8 w a l) (hcap : l.length ≤ cap) (hn : a = none → cap = 0) (hb : InB l) (hl : l.length ≤ 9223372036854775807)
    (hf : RdF w fa fs) (hok : ∀ f ∈ fs, OkF f) (hfl : fs.length ≤ 9223372036854775807) (hfs : ∀ f ∈ fs, f.s.size ≤ 9223372036854775807) :
    Calls Try.prog 5 #[.slice a l.length cap, .slice fa fs.length fcap] w fun e w' => e = .returned (.bool true) ∧ Below w.heap.size w w' := by
  have HR := hide hr
  have HF := hide hf
  have HN := hide hn
  have HB := hide hb
  have HO := hide hok
  have HS := hide hfs
  clear hr hf hn hb hok hfs
  by_cases hbig : l.length ≤ 500
  · by_cases hfew : fewF fs = true
    · have hfew20 : fs.length ≤ 20 := by simp [fewF] at hfew; exact hfew.2
      go_enter Try.func5, Try.ntmps5
      go_wp2_with fail
      refine (awake_any _).mono ?_
      rintro e w1 ⟨rfl, hb1⟩
      have HC := hide (few_any fa fcap fs w1 (HF.out.below hb1) hfl HS.out)
      rw [hfew] at HC
      go_wp2_with fail
      refine HC.out.mono ?_
      rintro e w2 ⟨rfl, hb2⟩
      have b2 : Below w.heap.size w w2 := hb1.trans (hb2.mono hb1.size)
      have HC2 := hide (read_any a cap l w2 (HR.out.below b2) HN.out HB.out (by omega))
      clear HC hb1 hb2
      go_wp2_with fail
      refine HC2.out.mono ?_
      rintro e w3 ⟨p1, g1, rfl, r1, h1, h2, h3, h4, b3⟩
      have hs2 := b2.size
      have hs3 := b3.size
      have b3' : Below w.heap.size w w3 := b2.trans (b3.mono hs2)
      have r2 := rr_new 44 (HR.out.below b3') hcap HN.out HB.out (by omega)
      have hg2 : blockOf a l w3.heap.size < w.heap.size ∨ blockOf a l w3.heap.size = w3.heap.size := by
        cases a with
        | none => exact Or.inr rfl
        | some x =>
          cases l with
          | nil => exact Or.inr rfl
          | cons _ _ => exact Or.inl (HR.out.lt (by simp))
      have b4 : Below w.heap.size w (w3.alloc (.cells #[.slice a l.length cap, .bool false] 44)) := b3'.alloc b3'.size _
      have T0 : Hid (Two (w3.alloc (.cells #[.slice a l.length cap, .bool false] 44)) p1 g1 w3.heap.size (blockOf a l w3.heap.size) (some l)) := ⟨r1.old ((Below.refl _ _).alloc (Nat.le_refl _) _), r2⟩
      have B4 := hide b4
      have n1 : p1 ≠ w3.heap.size := by omega
      have n2 : p1 ≠ blockOf a l w3.heap.size := by omega
      have n3 : w3.heap.size ≠ g1 := by omega
      clear HC2 r1 r2 b2 b3 b3' b4
      generalize blockOf a l w3.heap.size = g2 at *
      go_wp2
      generalize hp2 : w3.heap.size = p2 at *
      clear hp2
      go_loopw [28] (fun i wr => ∃ k : Nat, k ≤ fs.length ∧ i = .int .i64 k ∧ ∃ st, Two wr p1 g1 p2 g2 st ∧ Below w.heap.size w wr) (fun i _ => fs.length - (intOf i).toNat)
      case atStart => exact ⟨0, Nat.zero_le _, rfl, some l, T0, B4⟩
      case round =>
        clear T0 B4
        obtain ⟨k, hk, rfl, st, T, hbr⟩ := hrel
        have hsz := hbr.size
        have hp1 := T.a.lt
        have hp2 := T.b.lt
        by_cases hlt : k < fs.length
        · have hz : fs[k]? = some fs[k] := List.getElem?_eq_getElem hlt
          generalize fs[k] = f at hz
          obtain ⟨b, off, rfl, c0, c1, c2, c3⟩ := (HF.out.below hbr) k f hz
          have hfo := HO.out f (List.mem_of_getElem? hz)
          have hfz := HS.out f (List.mem_of_getElem? hz)
          obtain ⟨kk, n, s, bb⟩ := f
          obtain ⟨m1, m2, m3, m4⟩ := hfo
          simp only [] at c0 c1 c2 c3 m1 m2 m3 m4 hfz
          have hba : Below wr.heap.size wr (wr.alloc (.cells #[.int .i64 kk, .int .u64 n, .string s, .bool bb] 38)) := (Below.refl _ _).alloc (Nat.le_refl _) _
          have hb1 : Below w.heap.size w (wr.alloc (.cells #[.int .i64 kk, .int .u64 n, .string s, .bool bb] 38)) := hbr.alloc hsz _
          have TA : Hid (Two (wr.alloc (.cells #[.int .i64 kk, .int .u64 n, .string s, .bool bb] 38)) p1 g1 p2 g2 st) := ⟨T.a.old hba, T.b.old hba⟩
          have OF : Hid (Ob (wr.alloc (.cells #[.int .i64 kk, .int .u64 n, .string s, .bool bb] 38)) wr.heap.size 38 [.int .i64 kk, .int .u64 n, .string s, .bool bb]) := Ob.new _ _ _
          have BA := hide hb1
          clear hz T hbr hba hb1
          by_cases k1 : kk = 1
          · subst k1
            go_wp2
            go_region_law (go_simp; first
              | (go_at_call 16; refine (rdnum_any p1 g1 st n _ TA.out.a.drew).mono ?_; rintro e w4 ⟨rfl, r1, q1'⟩; have q1 := grew_trans (grew_below (some p1) (Below.refl _ _).drew) q1'; have d1 := (OF.out.kept q1 (by simp; omega)).cell 1; simp only [List.getElem?_cons_zero, List.getElem?_cons_succ] at d1; have X4 := hide (Two.mid TA.out n1 n2 q1); have B4 := hide (below_grew BA.out q1 (by simp; omega) (by omega)); have hs4 := q1.size; rw [World.size_alloc] at hs4; clear q1' q1)
              | (go_at_call 17; refine (xnum_any p2 g2 st n _ X4.out).mono ?_; rintro e w5 ⟨rfl, r2, q2⟩; have T5 := hide (two_step n1 n3 r1 r2 q2); have B5 := hide (below_grew B4.out q2 (by omega) (by omega)); clear r1 r2 q2 X4 B4))
            all_goals
              obtain ⟨a5, c5, ho5⟩ := left_of T5.out.b
              have d5 := ho5.cell 0
              simp only [List.getElem?_cons_zero] at d5
              have R5 := T5.out.a
              have X5 := T5.out.b
              have HR5 := hide R5
              have HX5 := hide X5
              clear ho5 R5 X5
              generalize hst : (rnum st n).2 = st' at *
              clear hst
              go_wp2
              go_quiet (first
                | (go_at_call 22; exact (rdleft_any p1 g1 st' _ (Rr.drewN HR5.out _)).mono (fun _ _ h => ⟨h.1, _, h.2.symm⟩))
                | (go_at_call 23; exact (rddone_any p1 g1 st' _ (Rr.drewN HR5.out _)).mono (fun _ _ h => ⟨h.1, _, h.2.symm⟩))
                | (go_at_call 24; exact (xdone_any p2 g2 st' _ (Rr.drewN HX5.out _)).mono (fun _ _ h => ⟨h.1, _, h.2.symm⟩)))
              go_wp2
              go_roundw
              case rel => exact ⟨k + 1, by omega, by go_num, st', ⟨HR5.out.drewN _, HX5.out.drewN _⟩, below_drewN B5.out _⟩
              case measure => simp [intOf]; omega
          · have e1 : (kk == 1) = false := by simpa using k1
            by_cases k2 : kk = 2
            · subst k2
              have hmm : n.tmod 300 = n % 300 := by rw [Int.tmod_eq_emod_of_nonneg m3]
              have hm0 : 0 ≤ n % 300 ∧ n % 300 ≤ 299 := by omega
              generalize hM : n % 300 = M at *
              clear hM
              go_wp2_with fail
              refine (rdtext_any p1 g1 st (M - 1) _ TA.out.a (by omega)).mono ?_
              rintro e w4 ⟨rfl, r1, q1⟩
              have X4 := hide (Two.mid TA.out n1 n2 q1)
              have B4 := hide (below_grew BA.out q1 (by simp; omega) (by omega))
              have hs4 := q1.size
              rw [World.size_alloc] at hs4
              clear q1
              go_wp2_with fail
              refine (xtext_any p2 g2 st (M - 1) _ X4.out (by omega)).mono ?_
              rintro e w5 ⟨rfl, r2, q2⟩
              have T5 := hide (two_step n1 n3 r1 r2 q2)
              have B5 := hide (below_grew B4.out q2 (by omega) (by omega))
              clear r1 r2 q2 X4 B4
              obtain ⟨a5, c5, ho5⟩ := left_of T5.out.b
              have d5 := ho5.cell 0
              simp only [List.getElem?_cons_zero] at d5
              have R5 := T5.out.a
              have X5 := T5.out.b
              have HR5 := hide R5
              have HX5 := hide X5
              clear ho5 R5 X5
              generalize hst : (rtext st (M - 1)).2 = st' at *
              clear hst
              go_wp2
              go_quiet (first
                | (go_at_call 22; exact (rdleft_any p1 g1 st' _ (Rr.drewN HR5.out _)).mono (fun _ _ h => ⟨h.1, _, h.2.symm⟩))
                | (go_at_call 23; exact (rddone_any p1 g1 st' _ (Rr.drewN HR5.out _)).mono (fun _ _ h => ⟨h.1, _, h.2.symm⟩))
                | (go_at_call 24; exact (xdone_any p2 g2 st' _ (Rr.drewN HX5.out _)).mono (fun _ _ h => ⟨h.1, _, h.2.symm⟩)))
              go_wp2
              go_roundw
              case rel => exact ⟨k + 1, by omega, by go_num, st', ⟨HR5.out.drewN _, HX5.out.drewN _⟩, below_drewN B5.out _⟩
              case measure => simp [intOf]; omega
            · have e2 : (kk == 2) = false := by simpa using k2
              go_wp2_with fail
              refine (rdflag_any p1 g1 st _ TA.out.a).mono ?_
              rintro e w4 ⟨rfl, r1, q1⟩
              have X4 := hide (Two.mid TA.out n1 n2 q1)
              have B4 := hide (below_grew BA.out q1 (by simp; omega) (by omega))
              have hs4 := q1.size
              rw [World.size_alloc] at hs4
              clear q1
              go_wp2_with fail
              refine (xflag_any p2 g2 st _ X4.out).mono ?_
              rintro e w5 ⟨rfl, r2, q2⟩
              have T5 := hide (two_step n1 n3 r1 r2 q2)
              have B5 := hide (below_grew B4.out q2 (by omega) (by omega))
              clear r1 r2 q2 X4 B4
              obtain ⟨a5, c5, ho5⟩ := left_of T5.out.b
              have d5 := ho5.cell 0
              simp only [List.getElem?_cons_zero] at d5
              have R5 := T5.out.a
              have X5 := T5.out.b
              have HR5 := hide R5
              have HX5 := hide X5
              clear ho5 R5 X5
              generalize hst : (rflag st).2 = st' at *
              clear hst
              go_wp2
              go_quiet (first
                | (go_at_call 22; exact (rdleft_any p1 g1 st' _ (Rr.drewN HR5.out _)).mono (fun _ _ h => ⟨h.1, _, h.2.symm⟩))
                | (go_at_call 23; exact (rddone_any p1 g1 st' _ (Rr.drewN HR5.out _)).mono (fun _ _ h => ⟨h.1, _, h.2.symm⟩))
                | (go_at_call 24; exact (xdone_any p2 g2 st' _ (Rr.drewN HX5.out _)).mono (fun _ _ h => ⟨h.1, _, h.2.symm⟩)))
              go_wp2
              go_roundw
              case rel => exact ⟨k + 1, by omega, by go_num, st', ⟨HR5.out.drewN _, HX5.out.drewN _⟩, below_drewN B5.out _⟩
              case measure => simp [intOf]; omega
        · obtain ⟨a5, c5, ho5⟩ := left_of T.b
          have d5 := ho5.cell 0
          simp only [List.getElem?_cons_zero] at d5
          have TT := hide T
          clear ho5 T
          go_wp2
          go_quiet (first | (go_at_call 22; exact (rdleft_any p1 g1 st _ (Rr.drewN TT.out.a _)).mono (fun _ _ h => ⟨h.1, _, h.2.symm⟩)))
          go_wp2
          go_ret
          exact ⟨rfl, below_drewN hbr _⟩
    · have hfewf : fewF fs = false := by simpa using hfew
      go_enter Try.func5, Try.ntmps5
      go_wp2_with fail
      refine (awake_any _).mono ?_
      rintro e w1 ⟨rfl, hb1⟩
      have HC := hide (few_any fa fcap fs w1 (HF.out.below hb1) hfl HS.out)
      rw [hfewf] at HC
      go_wp2_with fail
      refine HC.out.mono ?_
      rintro e w2 ⟨rfl, hb2⟩
      have b2 : Below w.heap.size w w2 := hb1.trans (hb2.mono hb1.size)
      clear HC hb1 hb2
      go_wp2
      go_ret
      exact ⟨rfl, b2⟩
  · go_enter Try.func5, Try.ntmps5
    go_wp2_with fail
    refine (awake_any _).mono ?_
    rintro e w1 ⟨rfl, hb1⟩
    go_wp2
    go_ret
    exact ⟨rfl, hb1⟩
end Go.Proofs.Ytilklonjacjgbaa
