/- RefsOwn: a copy goes its own way; a table that nobody made has nothing. The walk. Over the translation. -/
import Derived.Test.YticofadpbpcejaaRAw
import Derived.Test.YticofadpbpcejaaRGa
import Derived.Test.YticofadpbpcejaaRCy
import Derived.Test.YticofadpbpcejaaRNl
import Derived.Test.YticofadpbpcejaaRSm
namespace Go.Proofs.Yticofadpbpcejaa
open Go.RowKit Apo
set_option maxRecDepth 100000 in
set_option maxHeartbeats 8000000 in
theorem owns16 (w : World) (f : RfA) (hf : OkRfA w f) (d : Dr) (hx : d.r.n.size ≤ maxLen) :
    Calls Try.prog 5 #[.slice f.a f.l.length f.c, .agg #[.int .i64 d.kd, .string d.r.n, .bool d.r.t, .int .u64 d.r.i, .int .u64 d.old]] w fun e w' => e = .returned (.bool true) ∧ Below w.heap.size w w' := by
  obtain ⟨fa, fc, fl⟩ := f
  have HF := hide hf
  have hxz : d.r.n.size ≤ 9223372036854775807 := by unfold maxLen at hx; omega
  simp only
  obtain ⟨nf, hnf⟩ : ∃ n, n = fl.length := ⟨_, rfl⟩
  have HNF := hide hnf
  rw [← hnf]
  clear hf hx hnf
  have bA : Below w.heap.size w (w.alloc (.cells #[.int .i64 d.kd, .string d.r.n, .bool d.r.t, .int .u64 d.r.i, .int .u64 d.old] 34)) := (Below.refl _ w).alloc (Nat.le_refl _) _
  have HK := hide (Ob.new w [.int .i64 d.kd, .string d.r.n, .bool d.r.t, .int .u64 d.r.i, .int .u64 d.old] 34)
  have HBA := hide bA
  clear bA
  go_enter Try.func5, Try.ntmps5
  go_wp2_with fail
  refine (awake16 _).mono ?_
  rintro e w1 ⟨rfl, b1⟩
  have HB1 := hide (HBA.out.trans (b1.mono HBA.out.size))
  have HK1 := hide (HK.out.old b1)
  have HCF := hide (few16 w1 ⟨fa, fc, fl⟩ (HF.out.below HB1.out))
  simp only at HCF
  rw [← HNF.out] at HCF
  clear b1 HBA HK
  go_wp2_with fail
  refine HCF.out.mono ?_
  rintro e w2 ⟨rfl, b2⟩
  have HB2 := hide (HB1.out.trans (b2.mono HB1.out.size))
  have HK2 := hide (HK1.out.old b2)
  have x1 := HK2.out.cell 1
  simp only [List.getElem?_cons_zero, List.getElem?_cons_succ] at x1
  clear b2 HB1 HK1 HCF
  cases hfew : fewR fl with
  | false =>
    go_wp2
    go_ret
    exact ⟨rfl, HB2.out⟩
  | true =>
  by_cases h40 : 40 < d.r.n.size
  · have d1 : decide ((40 : Int) < (d.r.n.size : Int)) = true := by simp; omega
    clear hfew
    go_wp2
    go_ret
    exact ⟨rfl, HB2.out⟩
  have d1 : decide ((40 : Int) < (d.r.n.size : Int)) = false := by simp; omega
  have hfo := fewR_ok hfew
  have HFN := hide hfo.1
  have hf45 : fl.length ≤ 45 := hfo.2
  have HCN := hide (pnew_any (w := w2) (cap := fc) (HF.out.below HB2.out).rd (by show fl.length ≤ _; omega) (fun y hy => by have := HFN.out y hy; omega))
  simp only at HCN
  rw [← HNF.out] at HCN
  clear hfew hfo
  go_wp2_with fail
  refine HCN.out.mono ?_
  rintro e w3 ⟨rfl, t3, b3⟩
  obtain ⟨p, hp⟩ : ∃ p, p = w2.heap.size + 1 := ⟨_, rfl⟩
  obtain ⟨b, hb⟩ : ∃ b, b = w2.heap.size := ⟨_, rfl⟩
  obtain ⟨L, hL⟩ : ∃ L, L = newL fl := ⟨_, rfl⟩
  rw [← hp]
  rw [← hp, ← hb, ← hL] at t3
  have hbw : w.heap.size < b := by rw [hb]; exact HK2.out.lt
  have hpw : w.heap.size < p := by have := HK2.out.lt; omega
  have HT3 := hide t3
  have HB3 := hide (HB2.out.trans (b3.mono HB2.out.size))
  have HK3 := hide (HK2.out.old b3)
  have HCC := hide (pcopy_any t3)
  clear t3 b3 x1 HCN HK2 HB2 hp hb hL
  go_wp2_with fail
  refine HCC.out.mono ?_
  rintro e w4 ⟨q, c, rfl, t4, hq4, hc4, b4⟩
  have hlt3 := HT3.out.lt
  have HT4 := hide (HT3.out.old b4)
  have HC4 := hide t4
  have HB4 := hide (HB3.out.trans (b4.mono HB3.out.size))
  have HK4 := hide (HK3.out.old b4)
  have hql : c < w4.heap.size := t4.lt.2
  have hqp : q < w4.heap.size := t4.lt.1
  have HCA := hide (gall_any t4.v)
  clear t4 b4 HCC HT3 HB3 HK3
  go_wp2_with fail
  refine HCA.out.mono ?_
  rintro e w5 ⟨a5, n5, c5, rfl, hn5, r5, b5⟩
  have HT5 := hide (HT4.out.old b5)
  have HC5 := hide (HC4.out.old b5)
  have HB5 := hide (HB4.out.trans (b5.mono HB4.out.size))
  have HK5 := hide (HK4.out.old b5)
  have HR5 := hide r5
  have HN5 := hide hn5
  have hw5 : w4.heap.size ≤ w5.heap.size := b5.size
  have u1 := HK5.out.cell 1
  have u2 := HK5.out.cell 2
  have u3 := HK5.out.cell 3
  simp only [List.getElem?_cons_zero, List.getElem?_cons_succ] at u1 u2 u3
  have HM6 := hide (pmake_any HT5.out d.r hxz)
  clear b5 r5 hn5 HCA HT4 HC4 HB4 HK4
  go_wp2_with fail
  refine HM6.out.mono ?_
  rintro e w6 ⟨rfl, t6, o6⟩
  have HT6 := hide t6
  have HC6 := hide (HC5.out.onl o6 (by omega) (by omega))
  have HB6 := hide (Below.onl HB5.out o6 (fun i q => by omega) (Nat.le_refl _))
  have HK6 := hide (HK5.out.onl o6 (by omega))
  have HR6 := hide (HR5.out.onl o6 (fun g hg e => by have := HR5.out.2 g hg; omega))
  have v1 := HK6.out.cell 1
  have v3 := HK6.out.cell 3
  have v4 := HK6.out.cell 4
  simp only [List.getElem?_cons_zero, List.getElem?_cons_succ] at v1 v3 v4
  have HM7 := hide (pset_any HT6.out (n := d.r.n) (by unfold maxLen; omega) d.r.i d.old)
  clear t6 o6 HM6 HT5 HC5 HB5 HK5 HR5 u1 u2 u3
  go_wp2_with fail
  refine HM7.out.mono ?_
  rintro e w7 ⟨rfl, t7, o7⟩
  have HT7 := hide t7
  have HC7 := hide (HC6.out.onl o7 (by omega) (by omega))
  have HB7 := hide (Below.onl HB6.out o7 (fun i q => by omega) (Nat.le_refl _))
  have HK7 := hide (HK6.out.onl o7 (by omega))
  have HR7 := hide (HR6.out.onl o7 (fun g hg e => by have := HR6.out.2 g hg; omega))
  have z1 := HK7.out.cell 1
  simp only [List.getElem?_cons_zero, List.getElem?_cons_succ] at z1
  have HM8 := hide (pdrop_any HT7.out (n := d.r.n) (by unfold maxLen; omega))
  clear t7 o7 HM7 HT6 HC6 HB6 HK6 HR6 v1 v3 v4
  go_wp2_with fail
  refine HM8.out.mono ?_
  rintro e w8 ⟨rfl, t8, o8⟩
  have HC8 := hide (HC7.out.onl o8 (by omega) (by omega))
  have HB8 := hide (Below.onl HB7.out o8 (fun i q => by omega) (Nat.le_refl _))
  have HR8 := hide (HR7.out.onl o8 (fun g hg e => by have := HR7.out.2 g hg; omega))
  have HM9 : Hid (Calls Try.prog 20 #[.pointer none, .string ⟨#[97]⟩] w8 fun e w' => e = .returned (.tuple #[.agg #[.string ⟨#[]⟩, .bool false, .int .u64 0], .bool false]) ∧ Below w8.heap.size w8 w') := hide (pget_nil _ _)
  clear t8 o8 HM8 HT7 HC7 HB7 HK7 HR7 z1
  go_wp2_with fail
  refine HM9.out.mono ?_
  rintro e w9 ⟨rfl, b9⟩
  have bR := b9.alloc b9.size (.cells #[.string ⟨#[]⟩, .bool false, .int .u64 0] 32)
  have HC9 := hide (HC8.out.old bR)
  have HB9 := hide (HB8.out.trans (bR.mono HB8.out.size))
  have HR9 := hide (HR8.out.onl (F := fun _ => False) (Onl.ofBelow bR) (fun _ _ q => q))
  have HMA := hide (gall_any HC9.out.v)
  clear b9 bR HM9 HC8 HB8 HR8
  go_wp2_with fail
  refine HMA.out.mono ?_
  rintro e wa ⟨aa, na, ca, rfl, hna, ra, ba⟩
  have HBa := hide (HB9.out.trans (ba.mono HB9.out.size))
  have hS : Calls Try.prog 17 #[.slice aa na ca, .slice a5 n5 c5] wa fun e w' => e = .returned (.bool true) ∧ Below wa.heap.size wa w' := by
    have hr5 := HR9.out.onl (F := fun _ => False) (Onl.ofBelow ba) (fun _ _ q => q)
    have h5 := HN5.out
    subst hna h5
    obtain ⟨a1, c1, e1, rd1, _⟩ := rd_gcells (c := cRf) (k := 3) cRf_len ra
    obtain ⟨a2, c2, e2, rd2, _⟩ := rd_gcells (c := cRf) (k := 3) cRf_len hr5
    injection e1 with e11 _ e13
    injection e2 with e21 _ e23
    subst e11 e13 e21 e23
    have := rsame_refs aa ca L a5 c5 L wa rd1 rd2 (by have := HC9.out.ok.ok.len; omega)
    simpa using this
  have HS := hide hS
  clear hS hna ra ba HMA HC9 HB9 HR9
  go_wp2_with fail
  refine HS.out.mono ?_
  rintro e wb ⟨rfl, bb⟩
  have HBb := hide (HBa.out.trans (bb.mono HBa.out.size))
  clear bb HS HBa
  go_wp2_with fail
  refine (pmake_nil wb ⟨#[97]⟩ false 0).mono ?_
  rintro e wc ⟨rfl, bc⟩
  have HBc := hide (HBb.out.trans (bc.mono HBb.out.size))
  clear bc HBb
  go_wp2_with fail
  refine (pset_nil wc ⟨#[97]⟩ 0 1).mono ?_
  rintro e wd ⟨rfl, bd⟩
  have HBd := hide (HBc.out.trans (bd.mono HBc.out.size))
  clear bd HBc
  go_wp2_with fail
  refine (pdrop_nil wd ⟨#[97]⟩).mono ?_
  rintro e we ⟨rfl, be⟩
  have HBe := hide (HBd.out.trans (be.mono HBd.out.size))
  clear be HBd
  go_wp2_with fail
  refine (plen_nil we).mono ?_
  rintro e wf ⟨rfl, rfl⟩
  go_wp2_with fail
  refine (gall_any (tv_nil we)).mono ?_
  rintro e wg ⟨ag, ng, cg, rfl, hng, rg, bg⟩
  have HBg := hide (HBe.out.trans (bg.mono HBe.out.size))
  simp only [List.length_nil] at hng
  subst hng
  clear bg rg HBe
  go_wp2_with fail
  refine (pcopy_nil wg).mono ?_
  rintro e wh ⟨rfl, rfl⟩
  go_wp2
  go_ret
  exact ⟨rfl, HBg.out⟩
end Go.Proofs.Yticofadpbpcejaa
