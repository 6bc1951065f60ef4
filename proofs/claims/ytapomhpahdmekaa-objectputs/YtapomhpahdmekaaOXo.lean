/- The document's CommitOf, over the translation; written by tools/genoxo.py from OOf. -/
import Derived.Test.YtapomhpahdmekaaOOf
import Derived.Test.YtapomhpahdmekaaORc
import Derived.Test.YtapomhpahdmekaaRrn
import Derived.Deep.RegionLaw
namespace Go.Proofs.Ytapomhpahdmekaa
open Go.RowKit Apo
set_option maxRecDepth 100000 in
theorem fin_Xf {W : World} {g : Nat} {c0 c1 c2 c3 c4 er : Value} {tmps : Array Value} {Q : Ending → World → Prop} (k : Ob W g 25 [c0, c1, c2, c3, c4]) (h2 : tmps.getD 2 undef = .pointer (some ⟨g, 0, none⟩)) (h3 : tmps.getD 3 undef = er) (hq : Q (.returned (.tuple #[.agg #[c0, c1, c2, c3, c4], er])) W) :
    bodyPost Try.prog Try.f11 Q Exit.ret { tmps := tmps, defers := [] } W := by
  have hl := run_loadVar_row (P := Try.prog) W g 25 25 #[c0, c1, c2, c3, c4] (0, 0) _ k Try.underlying25 rfl (by rw [size_Cm]; rfl)
  have h2' : tmps[2]?.getD undef = .pointer (some ⟨g, 0, none⟩) := by simpa using h2
  have h3' : tmps[3]?.getD undef = er := by simpa using h3
  refine bodyPost_ret (v := .tuple #[.agg #[c0, c1, c2, c3, c4], er]) ?_ rfl hq
  simp [results, Try.results11, asAddr, h2', h3', hl]
attribute [local go_sem ↓] Apo.app_exec
set_option maxRecDepth 100000 in
set_option maxHeartbeats 8000000 in
theorem rof14 (a : Option Addr) (cap : Nat) (b : List Int) (w : World) (hr : Rd .u8 w a b) (hcap : b.length ≤ cap) (hn : a = none → cap = 0) (hb : InB b) (hbl : b.length ≤ 1000000) : Calls Try.prog 11 #[.slice a b.length cap] w (OmP w b) := by
  have b0 := (Below.refl w.heap.size w).alloc (Nat.le_refl _) (.cells #[.int .u64 0, .slice none 0 0, .int .u64 0, .int .u64 0, .string ⟨#[]⟩] 25)
  have k0 := Ob.new w [.int .u64 0, .slice none 0 0, .int .u64 0, .int .u64 0, .string ⟨#[]⟩] 25
  have hrl : ∀ x : Addr, a = some x → 0 < b.length → x.block < w.heap.size := fun x hx h0 => by subst hx; exact hr.lt h0
  have r1 := rr_new (cap := cap) 58 (hr.below b0) hcap hn hb (by omega)
  have hg0 : blockOf a b (w.heap.size + 1) ≤ w.heap.size + 1 := by
    cases a with
    | none => exact Nat.le_refl _
    | some x =>
      cases b with
      | nil => exact Nat.le_refl _
      | cons z l => have := hrl x rfl (by simp); show x.block ≤ _; omega
  simp only [World.size_alloc] at r1
  obtain ⟨bn, hbn⟩ : ∃ bn, bn = b.length := ⟨_, rfl⟩
  rw [← hbn] at r1 ⊢
  obtain ⟨w1, hw1⟩ : ∃ w1, w1 = (w.alloc (.cells #[.int .u64 0, .slice none 0 0, .int .u64 0, .int .u64 0, .string ⟨#[]⟩] 25)).alloc (.cells #[.slice a bn cap, .bool false] 58) := ⟨_, rfl⟩
  rw [← hw1] at r1
  have s1 : w1.heap.size = w.heap.size + 2 := by rw [hw1]; simp
  have HB1 : Hid (Below w.heap.size w w1) := hide (by rw [hw1]; exact b0.alloc (by simp) _)
  have HK1 : Hid (Ob w1 w.heap.size 25 [.int .u64 0, .slice none 0 0, .int .u64 0, .int .u64 0, .string ⟨#[]⟩]) := hide (by rw [hw1]; exact k0.alloc _)
  obtain ⟨g, hgd⟩ : ∃ g, g = blockOf a b (w.heap.size + 1) := ⟨_, rfl⟩
  rw [← hgd] at r1 hg0
  have HC1 := hide (xnum_any (w.heap.size + 1) g (some b) full w1 r1)
  rw [hw1] at HC1
  have hg1 : g < w1.heap.size := by omega
  clear hr hn hbn b0 k0 hrl r1 hgd hcap
  go_enter Try.func11, Try.ntmps11
  go_wp2_with fail
  refine HC1.out.mono ?_
  rintro e w2 ⟨rfl, r2, g2⟩
  rw [← hw1] at g2
  obtain ⟨id, hid⟩ : ∃ id, id = (rnum (some b) full).1 := ⟨_, rfl⟩
  obtain ⟨st1, hst1⟩ : ∃ st1, st1 = (rnum (some b) full).2 := ⟨_, rfl⟩
  rw [← hst1] at r2
  rw [← hid]
  have HID := hide hid
  have HST1 := hide hst1
  have z2 := g2.size
  have HB2 := hide (below_grew HB1.out g2 HB1.out.size (by omega))
  have HK2 := hide (HK1.out.kept g2 (by intro e; have e2 := Option.some.inj e; omega))
  clear HC1 g2 hid hst1 HB1 HK1
  obtain ⟨W3, hW3⟩ : ∃ W3, W3 = w2.alloc (.cells #[.int .u64 id, .slice none 0 0, .int .u64 0, .int .u64 0, .string ⟨#[]⟩] 25) := ⟨_, rfl⟩
  have b3 : Below w2.heap.size w2 W3 := by rw [hW3]; exact (Below.refl _ _).alloc (Nat.le_refl _) _
  have s3 : W3.heap.size = w2.heap.size + 1 := by rw [hW3]; simp
  have k3 : Ob W3 w2.heap.size 25 [.int .u64 id, .slice none 0 0, .int .u64 0, .int .u64 0, .string ⟨#[]⟩] := by rw [hW3]; exact Ob.new w2 [.int .u64 id, .slice none 0 0, .int .u64 0, .int .u64 0, .string ⟨#[]⟩] 25
  have HC2 := hide (xnum_any (w.heap.size + 1) g st1 2 W3 (r2.old b3))
  have HB3 := hide (HB2.out.trans (b3.mono HB2.out.size))
  have HKR3 := hide (HK2.out.old b3)
  have HK3 := hide k3
  rw [hW3] at HC2
  clear r2 b3 k3 HB2 HK2
  go_wp2_with fail
  refine HC2.out.mono ?_
  rintro e w4 ⟨rfl, r4, g4⟩
  rw [← hW3] at g4
  obtain ⟨qc, hqc⟩ : ∃ qc, qc = w2.heap.size := ⟨_, rfl⟩
  have hct := rnum_bd st1 (most := 2) (by omega)
  obtain ⟨CT, hCT⟩ : ∃ CT : Nat, (CT : Int) = (rnum st1 2).1 := ⟨(rnum st1 2).1.toNat, by omega⟩
  rw [← hCT] at hct ⊢
  obtain ⟨st2, hst2⟩ : ∃ st2, st2 = (rnum st1 2).2 := ⟨_, rfl⟩
  rw [← hst2] at r4
  have HCT := hide hCT
  have HST2 := hide hst2
  have z4 := g4.size
  have HR4 := hide r4
  have HB4 := hide (below_grew HB3.out g4 HB3.out.size (by omega))
  have HKR4 := hide (HKR3.out.kept g4 (by intro e; have e2 := Option.some.inj e; omega))
  have k4 := HK3.out.kept g4 (by intro e; have e2 := Option.some.inj e; omega)
  rw [← hqc] at k4 ⊢
  have HK4 := hide k4
  have hqw : w.heap.size < qc := by omega
  have hqp : (w.heap.size + 1) < qc := by omega
  have hqg : g < qc := by omega
  have hq4 : qc < w4.heap.size := by omega
  clear HC2 g4 hW3 s3 k4 hCT hst2 r4 HB3 HKR3 HK3 hqc z2 z4
  go_wp2
  go_loopw [7] (fun i wr => ∃ k : Nat, k ≤ CT ∧ i = .int .u64 k ∧ ∃ va vn vc, Hid (Rr wr (w.heap.size + 1) 58 g (eachK (fun st => rnum st full) st2 k).2) ∧ Hid (Ob wr qc 25 [.int .u64 id, .slice va vn vc, .int .u64 0, .int .u64 0, .string ⟨#[]⟩]) ∧ Hid (Row (fun i => qc < i ∧ i < wr.heap.size) wr 22 1 (.slice va vn vc) (eachK (fun st => rnum st full) st2 k).1.length ((eachK (fun st => rnum st full) st2 k).1.map (Value.int .u64))) ∧ Hid (Below w.heap.size w wr) ∧ Hid (Ob wr w.heap.size 25 [.int .u64 0, .slice none 0 0, .int .u64 0, .int .u64 0, .string ⟨#[]⟩])) (fun i _ => CT - (intOf i).toNat)
  case atStart => exact ⟨0, Nat.zero_le _, rfl, none, 0, 0, HR4, HK4, hide (Row.nil _ _ _ _), HB4, HKR4⟩
  case round =>
    clear HR4 HK4 HB4 HKR4 hq4
    obtain ⟨k, hk, rfl, va, vn, vc, HR, HK, HO, HB, HKR⟩ := hrel
    have hlk := eachK_len (fun st => rnum st full) st2 k
    have hqlt := HK.out.lt
    by_cases hlt : k < CT
    · have t1 : decide ((k : Int) < (CT : Int)) = true := by simp; omega
      have t2 : decide (k < CT) = true := by simp; omega
      have HS1 : Hid (eachK (fun st => rnum st full) st2 (k + 1) = ((eachK (fun st => rnum st full) st2 k).1 ++ [(rnum (eachK (fun st => rnum st full) st2 k).2 full).1], (rnum (eachK (fun st => rnum st full) st2 k).2 full).2)) := hide rfl
      generalize eachK (fun st => rnum st full) st2 k = EK at HS1 HR HO hlk
      obtain ⟨ps, st3⟩ := EK
      simp only at HS1 HR HO hlk
      have bD : Below wr.heap.size wr wr.drew := (Below.refl _ _).drew
      have HC5 := hide (stp_x (w.heap.size + 1) g qc st3 wr.drew _ _ _ _ ps va vn vc (HR.out.old bD) (HK.out.old bD) (HO.out.onl (F := fun _ => False) (Onl.ofBelow bD) (fun _ _ q => q)) hqp hqg (by omega))
      have x1 := HK.out.cell 1
      simp only [List.getElem?_cons_zero, List.getElem?_cons_succ] at x1
      clear HR HK HO bD
      go_wp2_with fail
      go_region_law (go_simp; first
        | (go_at_call 27; refine HC5.out.mono ?_; rintro en w5 ⟨rfl, ⟨z0, z1⟩, va8, vn8, vc8, w8, s1, s2, s3, c8, f8, HF⟩))
      all_goals (
        obtain ⟨r9, k9, o9, f9⟩ := HF.out
        obtain ⟨W9, hW9⟩ : ∃ W9, W9 = w8.setCell ⟨qc, 1, none⟩ (.slice va8 vn8 vc8) := ⟨_, rfl⟩
        rw [← hW9] at r9 k9 o9 f9 ⊢
        have G1 : Hid (Rr W9 (w.heap.size + 1) 58 g (eachK (fun st => rnum st full) st2 (k + 1)).2) := hide (by rw [HS1.out]; exact r9)
        have G3 : Hid (Row (fun i => qc < i ∧ i < W9.heap.size) W9 22 1 (.slice va8 vn8 vc8) (eachK (fun st => rnum st full) st2 (k + 1)).1.length ((eachK (fun st => rnum st full) st2 (k + 1)).1.map (Value.int .u64))) := hide (by rw [HS1.out]; exact o9)
        have G2 := hide k9
        have G4 := hide (Below.onl HB.out.drew f9 (fun i q => by omega) (Nat.le_refl _))
        have G5 := hide ((HKR.out.old (Below.refl wr.heap.size wr).drew).onl f9 (fun q => by omega))
        clear HF r9 k9 o9 f9 hW9 HB HKR s1 s2 s3 c8 f8 z0 z1 HC5 HS1 x1
        go_wp2
        go_roundw
        case rel => exact ⟨k + 1, by omega, by simp, va8, vn8, vc8, G1, G2, G3, G4, G5⟩
        case measure => simp [intOf]; omega)
    · obtain rfl : k = CT := by omega
      have t1 : decide ((k : Int) < (k : Int)) = false := by simp
      have t2 : decide (k < k) = false := by simp
      have HEK : Hid (eachK (fun st => rnum st full) st2 k = ((eachK (fun st => rnum st full) st2 k).1, (eachK (fun st => rnum st full) st2 k).2)) := hide rfl
      obtain ⟨ps, hps⟩ : ∃ ps, ps = (eachK (fun st => rnum st full) st2 k).1 := ⟨_, rfl⟩
      obtain ⟨st3, hst3⟩ : ∃ st3, st3 = (eachK (fun st => rnum st full) st2 k).2 := ⟨_, rfl⟩
      rw [← hps] at HEK HO hlk
      rw [← hst3] at HEK HR
      have hrr := xnum_any (w.heap.size + 1) g st3 full wr HR.out
      have HC5 := hide hrr
      clear hps hst3 HR hrr
      go_wp2_with fail
      refine HC5.out.mono ?_
      rintro e w5 ⟨rfl, r5, g5⟩
      have HEK5 : Hid (rnum st3 full = ((rnum st3 full).1, (rnum st3 full).2)) := hide rfl
      obtain ⟨gen, hgen⟩ : ∃ gen, gen = (rnum st3 full).1 := ⟨_, rfl⟩
      obtain ⟨st4, hst4⟩ : ∃ st4, st4 = (rnum st3 full).2 := ⟨_, rfl⟩
      rw [← hst4] at HEK5 r5
      rw [← hgen] at HEK5 ⊢
      have k5 := HK.out.kept g5 (by intro e; have e2 := Option.some.inj e; omega)
      have x2 := k5.cell 2
      have f2 := k5.frozen 2
      simp only [List.getElem?_cons_zero, List.getElem?_cons_succ] at x2
      obtain ⟨W5, hW5⟩ : ∃ W5, W5 = w5.setCell ⟨qc, 2, none⟩ (.int .u64 gen) := ⟨_, rfl⟩
      have o5 : Onl (fun i => i = qc) w5 W5 := by rw [hW5]; exact (Onl.refl (fun i => i = qc) w5).set (p := qc) (.inl rfl) _
      have HK5 : Hid (Ob W5 qc 25 [.int .u64 id, .slice va vn vc, .int .u64 gen, .int .u64 0, .string ⟨#[]⟩]) := hide (by rw [hW5]; exact k5.set 2 (.int .u64 gen))
      have OO4 : Onl (fun i => i = (w.heap.size + 1) ∨ i = qc) wr w5 := (Onl.refl _ wr).grown g5 (fun j hj => .inl (by cases hj; exact .inl rfl))
      have HOO5 := hide (OO4.more o5 (fun i q => .inl (.inr q)))
      have HC6 := hide (xnum_any (w.heap.size + 1) g st4 full W5 (r5.onl o5 (by omega) (by omega)))
      rw [hW5] at HC6
      clear hgen hst4 r5 g5 HC5 k5 o5 OO4
      go_wp2_with fail
      refine HC6.out.mono ?_
      rintro e w6 ⟨rfl, r6, g6⟩
      rw [← hW5] at g6
      have HEK6 : Hid (rnum st4 full = ((rnum st4 full).1, (rnum st4 full).2)) := hide rfl
      obtain ⟨root, hroot⟩ : ∃ root, root = (rnum st4 full).1 := ⟨_, rfl⟩
      obtain ⟨st5, hst5⟩ : ∃ st5, st5 = (rnum st4 full).2 := ⟨_, rfl⟩
      rw [← hst5] at HEK6 r6
      rw [← hroot] at HEK6 ⊢
      have OO6 := HOO5.out.grown g6 (fun j hj => .inl (by cases hj; exact .inl rfl))
      have k6 := HK5.out.kept g6 (by intro e; have e2 := Option.some.inj e; omega)
      have x3 := k6.cell 3
      have f3 := k6.frozen 3
      simp only [List.getElem?_cons_zero, List.getElem?_cons_succ] at x3
      obtain ⟨W7, hW7⟩ : ∃ W7, W7 = w6.setCell ⟨qc, 3, none⟩ (.int .u64 root) := ⟨_, rfl⟩
      have o7 : Onl (fun i => i = qc) w6 W7 := by rw [hW7]; exact (Onl.refl (fun i => i = qc) w6).set (p := qc) (.inl rfl) _
      have k7 : Ob W7 qc 25 [.int .u64 id, .slice va vn vc, .int .u64 gen, .int .u64 root, .string ⟨#[]⟩] := by rw [hW7]; exact k6.set 3 (.int .u64 root)
      have HO7 := hide (OO6.more o7 (fun i q => .inl (.inr q)))
      have HC7 := hide (xtext_any (w.heap.size + 1) g st5 60 W7 (r6.onl o7 (by omega) (by omega)) (by omega))
      have HK7 := hide k7
      rw [hW7] at HC7
      clear o7 k7 OO6 HK HK5 HOO5 hroot hst5 r6 g6 HC6 k6 hW5
      go_wp2_with fail
      refine HC7.out.mono ?_
      rintro e w8 ⟨rfl, r8, g8⟩
      rw [← hW7] at g8
      have HEK7 : Hid (rtext st5 60 = ((rtext st5 60).1, (rtext st5 60).2)) := hide rfl
      have htl := rtext_le st5 60 (by omega)
      obtain ⟨tx, htx⟩ : ∃ tx, tx = strOfNums (rtext st5 60).1 := ⟨_, rfl⟩
      obtain ⟨st6, hst6⟩ : ∃ st6, st6 = (rtext st5 60).2 := ⟨_, rfl⟩
      have htz : tx.size ≤ 60 := by rw [htx, strOfNums_size]; omega
      rw [← hst6] at HEK7 r8
      rw [← htx]
      have HTX := hide htx
      have k8 := HK7.out.kept g8 (by intro e; have e2 := Option.some.inj e; omega)
      have x4 := k8.cell 4
      have f4 := k8.frozen 4
      simp only [List.getElem?_cons_zero, List.getElem?_cons_succ] at x4
      obtain ⟨W9, hW9⟩ : ∃ W9, W9 = w8.setCell ⟨qc, 4, none⟩ (.string tx) := ⟨_, rfl⟩
      have o9 : Onl (fun i => i = qc) w8 W9 := by rw [hW9]; exact (Onl.refl (fun i => i = qc) w8).set (p := qc) (.inl rfl) _
      have k9 : Ob W9 qc 25 [.int .u64 id, .slice va vn vc, .int .u64 gen, .int .u64 root, .string tx] := by rw [hW9]; exact k8.set 4 (.string tx)
      have OO8 : Onl (fun i => i = (w.heap.size + 1) ∨ i = qc) wr w8 := HO7.out.grown g8 (fun j hj => .inl (by cases hj; exact .inl rfl))
      have OO9 := OO8.more o9 (fun i q => .inl (.inr q))
      have z9 := OO9.size
      have HCD := hide (xdone_any (w.heap.size + 1) g st6 W9 (r8.onl o9 (by omega) (by omega)))
      have row9 := HO.out.onl OO9 (fun i hi q => by have := (HO.out.2 i hi).1; omega)
      obtain ⟨va2, vc2, hv, hcc, hcm, _⟩ := row9.form
      injection hv with e1 e2 e3
      subst e1 e2 e3
      have rd9 := (Rd.own row9.1).1
      have HB9 := hide (Below.onl HB.out OO9 (fun i q => by omega) (Nat.le_refl _))
      have HKR9 := hide (HKR.out.onl OO9 (fun q => by omega))
      have hraw : rawM b = (⟨id, ps, gen, root, tx⟩, st6) := by
        unfold rawM
        simp only
        rw [← HST1.out, ← HID.out, ← HST2.out, ← HCT.out, Int.toNat_natCast, HEK.out]
        simp only
        rw [HEK5.out]
        simp only
        rw [HEK6.out]
        simp only
        rw [HEK7.out, ← HTX.out]
      have hszz : (⟨id, ps, gen, root, tx⟩ : Cm).Sz := by
        have := rawM_sz b
        rw [hraw] at this
        exact this
      unfold maxLen at hcm
      have hCR : CmR W9 ⟨id, ps, gen, root, tx⟩ va vc := ⟨rd9, hcc, by omega, by show tx.size ≤ _; omega, hszz⟩
      have HCR := hide (rcommit14 ⟨id, ps, gen, root, tx⟩ va vc W9 hCR.rd hCR.len hCR.big hCR.txt)
      have HCM := hide hCR
      have HROW := hide row9
      have HRAW := hide hraw
      have y0 := k9.cell 0
      have y1 := k9.cell 1
      have y2 := k9.cell 2
      have y3 := k9.cell 3
      have y4 := k9.cell 4
      simp only [List.getElem?_cons_zero, List.getElem?_cons_succ] at y0 y1 y2 y3 y4
      have HK9 := hide k9
      have HW9 := hide hW9
      rw [hW9] at HCD HCR y0 y1 y2 y3 y4
      obtain ⟨n, hn⟩ : ∃ n, n = ps.length := ⟨_, rfl⟩
      simp only [← hn] at HCR y1 ⊢
      have HN := hide hn
      clear htx hst6 htl hCR hraw hszz rd9 row9 OO8 OO9 o9 k8 k9 r8 g8 HC7 HO7 HK7 HB HKR HO hn
      by_cases hd : st6 = some []
      · rw [decide_eq_true hd] at HCD
        have HD := hide hd
        clear hd
        go_wp2_with fail
        refine HCD.out.mono ?_
        rintro e w10 ⟨rfl, rfl⟩
        go_wp2_with fail
        refine HCR.out.mono ?_
        rintro e w11 ⟨rfl, b11⟩
        rw [← hW9] at b11
        have k11 := HK9.out.old b11
        have kr11 := HKR9.out.old b11
        have HB11 := hide (HB9.out.trans (b11.mono HB9.out.size))
        have HROW11 := hide (HROW.out.onl (F := fun _ => False) (Onl.ofBelow b11) (fun _ _ q => q))
        have u0 := k11.cell 0
        have u1 := k11.cell 1
        have u2 := k11.cell 2
        have u3 := k11.cell 3
        have u4 := k11.cell 4
        have v0 := kr11.cell 0
        have v1 := kr11.cell 1
        have v2 := kr11.cell 2
        have v3 := kr11.cell 3
        have v4 := kr11.cell 4
        have f0 := kr11.frozen 0
        have f1 := kr11.frozen 1
        have f2 := kr11.frozen 2
        have f3 := kr11.frozen 3
        have f4 := kr11.frozen 4
        simp only [List.getElem?_cons_zero, List.getElem?_cons_succ] at u0 u1 u2 u3 u4 v0 v1 v2 v3 v4
        rw [← HN.out] at u1
        have HKR11 := hide kr11
        clear k11 kr11 b11
        by_cases he : cmE ⟨id, ps, gen, root, tx⟩ = 0
        · have HX : Hid (ofM b = (⟨id, ps, gen, root, tx⟩, 0)) := hide (ofM_ok (by rw [HRAW.out, HD.out]) he)
          rw [he]
          clear he
          go_wp2
          obtain ⟨WF, hWF⟩ : ∃ WF, WF = (((((w11.setCell ⟨w.heap.size, 0, none⟩ (.int .u64 id)).setCell ⟨w.heap.size, 1, none⟩ (.slice va n vc)).setCell ⟨w.heap.size, 2, none⟩ (.int .u64 gen)).setCell ⟨w.heap.size, 3, none⟩ (.int .u64 root)).setCell ⟨w.heap.size, 4, none⟩ (.string tx)) := ⟨_, rfl⟩
          have kF : Ob WF w.heap.size 25 [.int .u64 id, .slice va n vc, .int .u64 gen, .int .u64 root, .string tx] := by rw [hWF]; exact ((((HKR11.out.set 0 (.int .u64 id)).set 1 (.slice va n vc)).set 2 (.int .u64 gen)).set 3 (.int .u64 root)).set 4 (.string tx)
          have oF : Onl (fun i => i = w.heap.size) w11 WF := by rw [hWF]; exact (((((Onl.refl (fun i => i = w.heap.size) w11).set (p := w.heap.size) (.inl rfl) _).set (p := w.heap.size) (.inl rfl) _).set (p := w.heap.size) (.inl rfl) _).set (p := w.heap.size) (.inl rfl) _).set (p := w.heap.size) (.inl rfl) _
          rw [← hWF]
          refine fin_Xf kF rfl rfl ?_
          have rowF := HROW11.out.onl oF (fun i hi q => by have := (HROW11.out.2 i hi).1; omega)
          unfold OmP
          rw [HX.out]
          refine ⟨va, vc, by rw [HN.out]; rfl, ⟨(Rd.own rowF.1).1, HCM.out.len, HCM.out.big, HCM.out.txt, HCM.out.sz⟩, Below.onl HB11.out oF (fun i q => by omega) (Nat.le_refl _)⟩
        · have HX : Hid (ofM b = (zeroCm, 20)) := hide (ofM_no HRAW.out (fun q => he q.2))
          have hz2 : (cmE ⟨id, ps, gen, root, tx⟩ != 0) = true := by simpa using he
          generalize cmE ⟨id, ps, gen, root, tx⟩ = E at hz2 ⊢
          clear he u0 u1 u2 u3 u4
          go_wp2
          obtain ⟨WF, hWF⟩ : ∃ WF, WF = (((((w11.setCell ⟨w.heap.size, 0, none⟩ (.int .u64 0)).setCell ⟨w.heap.size, 1, none⟩ (.slice none 0 0)).setCell ⟨w.heap.size, 2, none⟩ (.int .u64 0)).setCell ⟨w.heap.size, 3, none⟩ (.int .u64 0)).setCell ⟨w.heap.size, 4, none⟩ (.string ⟨#[]⟩)) := ⟨_, rfl⟩
          have kF : Ob WF w.heap.size 25 [.int .u64 0, .slice none 0 0, .int .u64 0, .int .u64 0, .string ⟨#[]⟩] := by rw [hWF]; exact ((((HKR11.out.set 0 (.int .u64 0)).set 1 (.slice none 0 0)).set 2 (.int .u64 0)).set 3 (.int .u64 0)).set 4 (.string ⟨#[]⟩)
          have oF : Onl (fun i => i = w.heap.size) w11 WF := by rw [hWF]; exact (((((Onl.refl (fun i => i = w.heap.size) w11).set (p := w.heap.size) (.inl rfl) _).set (p := w.heap.size) (.inl rfl) _).set (p := w.heap.size) (.inl rfl) _).set (p := w.heap.size) (.inl rfl) _).set (p := w.heap.size) (.inl rfl) _
          rw [← hWF]
          refine fin_Xf kF rfl rfl ?_
          unfold OmP
          rw [HX.out]
          exact ⟨none, 0, rfl, CmR.zero _, Below.onl HB11.out oF (fun i q => by omega) (Nat.le_refl _)⟩
      · rw [decide_eq_false hd] at HCD
        have HX : Hid (ofM b = (zeroCm, 20)) := hide (ofM_no HRAW.out (fun q => hd q.1))
        have v0 := HKR9.out.cell 0
        have v1 := HKR9.out.cell 1
        have v2 := HKR9.out.cell 2
        have v3 := HKR9.out.cell 3
        have v4 := HKR9.out.cell 4
        have f0 := HKR9.out.frozen 0
        have f1 := HKR9.out.frozen 1
        have f2 := HKR9.out.frozen 2
        have f3 := HKR9.out.frozen 3
        have f4 := HKR9.out.frozen 4
        simp only [List.getElem?_cons_zero, List.getElem?_cons_succ] at v0 v1 v2 v3 v4
        clear hd
        go_wp2_with fail
        refine HCD.out.mono ?_
        rintro e w10 ⟨rfl, rfl⟩
        rw [← hW9]
        clear HCD HCR hW9 y0 y1 y2 y3 y4
        go_wp2
        obtain ⟨WF, hWF⟩ : ∃ WF, WF = (((((W9.setCell ⟨w.heap.size, 0, none⟩ (.int .u64 0)).setCell ⟨w.heap.size, 1, none⟩ (.slice none 0 0)).setCell ⟨w.heap.size, 2, none⟩ (.int .u64 0)).setCell ⟨w.heap.size, 3, none⟩ (.int .u64 0)).setCell ⟨w.heap.size, 4, none⟩ (.string ⟨#[]⟩)) := ⟨_, rfl⟩
        have kF : Ob WF w.heap.size 25 [.int .u64 0, .slice none 0 0, .int .u64 0, .int .u64 0, .string ⟨#[]⟩] := by rw [hWF]; exact ((((HKR9.out.set 0 (.int .u64 0)).set 1 (.slice none 0 0)).set 2 (.int .u64 0)).set 3 (.int .u64 0)).set 4 (.string ⟨#[]⟩)
        have oF : Onl (fun i => i = w.heap.size) W9 WF := by rw [hWF]; exact (((((Onl.refl (fun i => i = w.heap.size) W9).set (p := w.heap.size) (.inl rfl) _).set (p := w.heap.size) (.inl rfl) _).set (p := w.heap.size) (.inl rfl) _).set (p := w.heap.size) (.inl rfl) _).set (p := w.heap.size) (.inl rfl) _
        rw [← hWF]
        refine fin_Xf kF rfl rfl ?_
        unfold OmP
        rw [HX.out]
        exact ⟨none, 0, rfl, CmR.zero _, Below.onl HB9.out oF (fun i q => by omega) (Nat.le_refl _)⟩
end Go.Proofs.Ytapomhpahdmekaa
