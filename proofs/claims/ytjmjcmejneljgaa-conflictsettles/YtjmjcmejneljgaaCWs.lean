/- ConflictSettles' walk. -/
import Derived.Test.YtjmjcmejneljgaaCSv
import Derived.Test.YtjmjcmejneljgaaCLw
import Derived.Test.YtjmjcmejneljgaaCIn
namespace Apo
open Go Go.RowKit
open Classical in
theorem findC_ne {key : ByteArray} {l : List Cl} {f : Cl} (h : f.k ≠ key) : findC key (l ++ [f]) = findC key l := by
  unfold findC
  rw [List.findIdx?_append]
  cases l.findIdx? (fun c => decide (c.k = key)) with
  | some i => rfl
  | none => simp [h]
open Classical in
theorem findC_ge {key : ByteArray} {l : List Cl} {f : Cl} (h : 0 ≤ findC key l) : findC key (l ++ [f]) = findC key l := by
  unfold findC at h ⊢
  rw [List.findIdx?_append]
  cases q : l.findIdx? (fun c => decide (c.k = key)) with
  | some i => rfl
  | none => rw [q] at h; simp at h
open Classical in
theorem findC_new {key : ByteArray} {l : List Cl} {f : Cl} (h : f.k = key) (hn : findC key l < 0) : findC key (l ++ [f]) = l.length := by
  unfold findC at hn ⊢
  rw [List.findIdx?_append]
  cases q : l.findIdx? (fun c => decide (c.k = key)) with
  | some i => rw [q] at hn; simp only at hn; omega
  | none => simp [h]
open Classical in
theorem findC_bd (key : ByteArray) (l : List Cl) : -1 ≤ findC key l ∧ findC key l < (l.length : Int) + 1 := by
  unfold findC
  cases q : l.findIdx? (fun c => decide (c.k = key)) with
  | some i =>
    have := (List.findIdx?_eq_some_iff_getElem.1 q).1
    simp only
    omega
  | none => simp only; omega
theorem allE_all (how : Int) (l : List Cl) : ((allE how l).2 = 0 ∧ (allE how l).1 = l.map (fun c => (settleE how c).1)) ∨ ((allE how l).2 = 137 ∧ (allE how l).1 = []) := by
  cases q : howOk how with
  | true => exact .inl (by unfold allE; rw [q]; exact ⟨rfl, rfl⟩)
  | false =>
    cases l with
    | nil => exact .inl (by unfold allE; rw [q]; exact ⟨rfl, rfl⟩)
    | cons x l => exact .inr (by unfold allE; rw [q]; exact ⟨rfl, rfl⟩)
theorem allE_bad (how : Int) (l : List Cl) (f : Cl) : ((allE how l).2 = 0 ∧ (settleE how f).2 = 0 ∧ (allE how (l ++ [f])).2 = 0) ∨ ((allE how l).2 = 0 ∧ (settleE how f).2 = 137 ∧ (allE how (l ++ [f])).2 = 137) ∨ ((allE how l).2 = 137 ∧ (settleE how f).2 = 137 ∧ (allE how (l ++ [f])).2 = 137) := by
  cases q : howOk how with
  | true =>
    refine .inl ⟨?_, settle_ok q f, ?_⟩
    · unfold allE; rw [q]
    · unfold allE; rw [q]
  | false =>
    rw [settle_bad q]
    cases l with
    | nil => exact .inr (.inl ⟨by unfold allE; rw [q], rfl, by unfold allE; rw [q]; rfl⟩)
    | cons x l => exact .inr (.inr ⟨by unfold allE; rw [q], rfl, by unfold allE; rw [q]; rfl⟩)
end Apo
namespace Go.Proofs.Ytjmjcmejneljgaa
open Go.RowKit Apo
attribute [local go_sem ↓] Apo.app_exec
open Classical in
set_option maxRecDepth 100000 in
set_option maxHeartbeats 8000000 in
theorem settles13 (w : World) (x : ClA) (how : Int) (key : ByteArray) (hx : OkClA w x) : Calls Try.prog 5 #[.slice x.a x.l.length x.c, .int .i64 how, .string key] w fun e w' => e = .returned (.bool true) ∧ Below w.heap.size w w' := by
  obtain ⟨a, ac, l⟩ := x
  have hrd := hx.rd
  have hsz := hx.sz
  have hlc := hx.len
  have hbg := hx.big
  unfold maxLen at hbg
  simp only at hrd hsz hlc hbg ⊢
  have HCA := hide (awake13 w)
  have HCL := hide (fun W (u : Below w.heap.size w W) => light13 W a ac l (hrd.below u) (by omega) hsz)
  have HR := hide hrd
  obtain ⟨n, hn⟩ : ∃ n, n = l.length := ⟨_, rfl⟩
  rw [← hn] at HCL hlc ⊢
  have HN := hide hn
  clear hx hrd hsz hn
  cases hlt : lightC l with
  | false =>
    rw [hlt] at HCL
    clear hlt
    go_enter Try.func5, Try.ntmps5
    go_wp2_with fail
    refine HCA.out.mono ?_
    rintro e w1 ⟨rfl, u1⟩
    have HC2 := hide (HCL.out w1 u1)
    have HU1 := hide u1
    clear u1
    go_wp2_with fail
    refine HC2.out.mono ?_
    rintro e w2 ⟨rfl, u2⟩
    have HU2 := hide (HU1.out.trans (u2.mono HU1.out.size))
    clear u2
    go_wp2
    go_ret
    exact ⟨rfl, HU2.out⟩
  | true =>
    rw [hlt] at HCL
    obtain ⟨hl20, hsm⟩ := lightC_ok hlt
    have hl20' : n ≤ 20 := by rw [HN.out]; exact hl20
    clear hlt hsm
    by_cases hk60 : 60 < key.size
    · have d1 : decide ((60 : Int) < (key.size : Int)) = true := by simp; omega
      have d1n : decide (60 < key.size) = true := by simp; omega
      go_enter Try.func5, Try.ntmps5
      go_wp2_with fail
      refine HCA.out.mono ?_
      rintro e w1 ⟨rfl, u1⟩
      have HC2 := hide (HCL.out w1 u1)
      have HU1 := hide u1
      clear u1
      go_wp2_with fail
      refine HC2.out.mono ?_
      rintro e w2 ⟨rfl, u2⟩
      have HU2 := hide (HU1.out.trans (u2.mono HU1.out.size))
      clear u2
      go_wp2
      go_ret
      exact ⟨rfl, HU2.out⟩
    · have d1 : decide ((60 : Int) < (key.size : Int)) = false := by simp; omega
      have d1n : decide (60 < key.size) = false := by simp; omega
      go_enter Try.func5, Try.ntmps5
      go_wp2_with fail
      refine HCA.out.mono ?_
      rintro e w1 ⟨rfl, u1⟩
      have HC2 := hide (HCL.out w1 u1)
      have HU1 := hide u1
      clear u1
      go_wp2_with fail
      refine HC2.out.mono ?_
      rintro e w2 ⟨rfl, u2⟩
      have HU2 := hide (HU1.out.trans (u2.mono HU1.out.size))
      have HC3 := hide (all_any w2 how a ac l (HR.out.below HU2.out) (by omega))
      rw [← HN.out] at HC3
      clear u2 HC2 HCA HCL HU1
      go_wp2_with fail
      refine HC3.out.mono ?_
      rintro e w3 ⟨ea, ec, rfl, er, u3⟩
      obtain ⟨AE, hAE⟩ : ∃ AE, AE = allE how l := ⟨_, rfl⟩
      rw [← hAE] at er ⊢
      obtain ⟨es, eb⟩ := AE
      simp only at er ⊢
      obtain ⟨en, hen⟩ : ∃ en, en = es.length := ⟨_, rfl⟩
      rw [← hen]
      have HEN := hide hen
      have HAE := hide hAE
      have HER := hide er
      have HU3 := hide (HU2.out.trans (u3.mono HU2.out.size))
      have hs23 := u3.size
      have hs3 := HU2.out.size
      clear hAE er u3 hen HC3 HU2
      go_wp2
      go_loopw [9, 10, 11, 12, 37] (fun v1 v2 v3 v4 i wr => ∃ (k m r : Nat) (xa : Option Addr) (xc : Nat) (ya : Option Addr) (yc : Nat) (at' bd : Int), k ≤ n ∧ i = .int .i64 k ∧ v1 = .slice xa m xc ∧ v2 = .slice ya r yc ∧ v3 = .int .i64 at' ∧ v4 = .int .i64 bd ∧ Hid (m = k) ∧ Hid (r = (lessC key (l.take k)).length) ∧ Hid (at' = findC key (l.take k)) ∧ Hid (bd = (allE how (l.take k)).2) ∧ Hid (Row (fun g => w3.heap.size ≤ g) wr 47 3 (.slice xa m xc) m (gcells cEd ((l.take k).map (fun c => (settleE how c).1)))) ∧ Hid (Row (fun g => w3.heap.size ≤ g) wr 45 7 (.slice ya r yc) r (gcells cCl (lessC key (l.take k)))) ∧ Hid (Below w3.heap.size w3 wr)) (fun _ _ _ _ i _ => n - (intOf i).toNat)
      case atStart =>
        refine ⟨0, 0, 0, none, 0, none, 0, -1, 0, Nat.zero_le _, rfl, rfl, rfl, rfl, rfl, hide rfl, hide rfl, hide rfl, hide ?_, hide (by simpa [gcells] using Row.nil _ _ _ _), hide (by simpa [gcells, lessC] using Row.nil _ _ _ _), hide (Below.refl _ _)⟩
        unfold allE
        cases howOk how <;> rfl
      case round =>
        obtain ⟨k, m, r, xa, xc, ya, yc, at', bd, hk, rfl, rfl, rfl, rfl, rfl, HM, HRN, HAT, HBD, HW, HRest, HB⟩ := hrel
        have hs := HB.out.size
        by_cases hkn : k < n
        · obtain ⟨f, hz⟩ : ∃ f, l[k]? = some f := ⟨l[k]'(by have := HN.out; omega), List.getElem?_eq_getElem _⟩
          have hBw : Below w.heap.size w wr := HU3.out.trans (HB.out.mono (by omega))
          obtain ⟨p, off, rfl, c0, c1, c2, c3, c4, c5, c6⟩ := (HR.out.below hBw).cl hz
          have htk : l.take (k + 1) = l.take k ++ [f] := by rw [List.take_add_one, hz]; rfl
          obtain ⟨W1, hW1⟩ : ∃ W1, W1 = wr.alloc (.cells #[.string f.k, .bool f.a.b, .string f.a.v, .bool f.b.b, .string f.b.v, .bool f.c.b, .string f.c.v] 45) := ⟨_, rfl⟩
          have b1 : Below wr.heap.size wr W1 := by rw [hW1]; exact (Below.refl _ wr).alloc (Nat.le_refl _) _
          have k1 : Ob W1 wr.heap.size 45 (cCl f) := by rw [hW1]; exact Ob.new wr (cCl f) _
          have HC := hide (settle_any how f W1)
          simp only [Cl.val] at HC
          have HZ := hide hz
          have HTK := hide htk
          have HB1 := hide b1
          have HK1 := hide k1
          have hk1l := k1.lt
          clear hz b1 k1 htk hBw
          rw [hW1] at HC
          go_wp2_with fail
          refine HC.out.mono ?_
          rintro e w4 ⟨rfl, u4⟩
          rw [← hW1] at u4
          obtain ⟨E, hE⟩ : ∃ E, E = settleE how f := ⟨_, rfl⟩
          rw [← hE]
          have HE := hide hE
          obtain ⟨⟨Ek, Ev, Eg⟩, ws⟩ := E
          simp only
          obtain ⟨W5, hW5⟩ : ∃ W5, W5 = w4.alloc (.cells #[.string Ek, .string Ev, .bool Eg] 47) := ⟨_, rfl⟩
          have u5 : Below wr.heap.size wr W5 := by rw [hW5]; exact (HB1.out.trans (u4.mono HB1.out.size)).alloc (HB1.out.trans (u4.mono HB1.out.size)).size _
          have k5 : Ob W5 wr.heap.size 45 (cCl f) := by rw [hW5]; exact (HK1.out.old u4).alloc _
          have k5e : Ob W5 w4.heap.size 47 [.string Ek, .string Ev, .bool Eg] := by rw [hW5]; exact Ob.new w4 _ _
          have HC6 := hide (rsettle_any how f W5)
          simp only [Cl.val] at HC6
          have x0 := k5.cell 0
          have x1 := k5.cell 1
          have x2 := k5.cell 2
          have x3 := k5.cell 3
          have x4 := k5.cell 4
          have x5 := k5.cell 5
          have x6 := k5.cell 6
          simp only [cCl, List.getElem?_cons_zero, List.getElem?_cons_succ] at x0 x1 x2 x3 x4 x5 x6
          have HU5 := hide u5
          have HK5 := hide k5
          have HK5E := hide k5e
          have hk5l := k5.lt
          have hk5e := k5e.lt
          clear u4 u5 k5 k5e hE
          rw [hW5] at HC6 x0 x1 x2 x3 x4 x5 x6
          go_wp2_with fail
          refine HC6.out.mono ?_
          rintro e w6 ⟨rfl, u6⟩
          rw [← hW5] at u6
          rw [← HE.out]
          simp only
          obtain ⟨W7, hW7⟩ : ∃ W7, W7 = w6.alloc (.cells #[.string Ek, .string Ev, .bool Eg] 47) := ⟨_, rfl⟩
          have u7 : Below wr.heap.size wr W7 := by rw [hW7]; exact (HU5.out.trans (u6.mono HU5.out.size)).alloc (HU5.out.trans (u6.mono HU5.out.size)).size _
          have k7 : Ob W7 wr.heap.size 45 (cCl f) := by rw [hW7]; exact (HK5.out.old u6).alloc _
          have k7e : Ob W7 w4.heap.size 47 [.string Ek, .string Ev, .bool Eg] := by rw [hW7]; exact (HK5E.out.old u6).alloc _
          have r7 := HW.out.onl (w' := W7) (F := fun _ => False) (Onl.ofBelow u7) (fun _ _ q => q)
          have s7 := HRest.out.onl (w' := W7) (F := fun _ => False) (Onl.ofBelow u7) (fun _ _ q => q)
          have hmm : m = ((l.take k).map (fun c => (settleE how c).1)).length := by rw [HM.out, List.length_map, List.length_take, ← HN.out]; omega
          rw [hmm] at r7
          obtain ⟨va', vc', W8, RR, r8, b8, ob8, rw8⟩ := push_ed r7 (by have := u7.size; omega) (by rw [← hmm]; have := HM.out; omega) ⟨Ek, Ev, Eg⟩
          have hlen : (((l.take k).map (fun c => (settleE how c).1)) ++ [(⟨Ek, Ev, Eg⟩ : Ed)]).length = k + 1 := by rw [List.length_append, ← hmm, HM.out]; rfl
          rw [hlen] at RR r8
          rw [← hmm] at RR
          obtain ⟨s1, s2, s3⟩ := app_runs RR
          have HR8 : Hid (Row (fun g => w3.heap.size ≤ g) W8 47 3 (.slice va' (k + 1) vc') (k + 1) (gcells cEd ((l.take (k + 1)).map (fun c => (settleE how c).1)))) := by
            refine hide ?_
            rw [HTK.out, List.map_append]
            simp only [List.map_cons, List.map_nil, ← HE.out]
            exact r8
          have k8 := ob8 _ _ _ k7 (by decide)
          have q8 := rw8 _ _ _ _ _ _ s7 (by decide)
          have B8 : Below w3.heap.size w3 W8 := (HB.out.trans (u7.mono hs)).trans b8
          have y0 := k7e.cell 0
          have y1 := k7e.cell 1
          have y2 := k7e.cell 2
          have z0 := k8.cell 0
          have z1 := k8.cell 1
          have z2 := k8.cell 2
          have z3 := k8.cell 3
          have z4 := k8.cell 4
          have z5 := k8.cell 5
          have z6 := k8.cell 6
          simp only [cCl, List.getElem?_cons_zero, List.getElem?_cons_succ] at y0 y1 y2 z0 z1 z2 z3 z4 z5 z6
          have hgd : Try.prog.eqGuardType Try.prog.depth 47 = false := by kernel_rfl
          have hcmp := neqEd ⟨Ek, Ev, Eg⟩ ⟨Ek, Ev, Eg⟩
          simp only [decide_true, Bool.not_true] at hcmp
          have hk6 := u6.size
          have hk8 := k8.lt
          have HB8 := hide B8
          have HQ8 := hide q8
          have hrn : r ≤ 20 := by
            have h1 := List.length_filter_le (fun c : Cl => !decide (c.k = key)) (l.take k)
            have h2 := HRN.out
            unfold lessC at h2
            rw [List.length_take] at h1
            omega
          have hb8 : w3.heap.size ≤ W8.heap.size := B8.size
          have hat := findC_bd key (l.take k)
          rw [← HAT.out, List.length_take] at hat
          obtain ⟨bd', hbd'⟩ : ∃ b, b = (allE how (l.take (k + 1))).2 := ⟨_, rfl⟩
          have HBD' := hide hbd'
          have hcase : (bd = 0 ∧ ws = 0 ∧ bd' = 0) ∨ (bd = 0 ∧ ws = 137 ∧ bd' = 137) ∨ (bd = 137 ∧ ws = 137 ∧ bd' = 137) := by
            have := allE_bad how (l.take k) f
            rw [← HBD.out, ← HE.out, ← HTK.out, ← hbd'] at this
            exact this
          have hq : w4.heap.size < W7.heap.size := k7e.lt
          rw [hW7] at s1 s2 s3 y0 y1 y2 hq
          simp only [World.size_alloc] at s1 s2 s3 hq
          clear RR r8 b8 r7 s7 k7 k7e k8 q8 B8 ob8 rw8 hlen hmm u7 u6 hbd' HK5 HK5E HU5 HC6 HK1 HB1 HC hW5 hW1
          generalize wr.heap.size = pc at *
          generalize w4.heap.size = p4 at *
          by_cases hq : f.k = key
          · have e1 : (f.k.toList == key.toList) = true := by simp [hq]
            have e2 : f.k.toList = key.toList := by rw [hq]
            have e3 : (f.k.toList != key.toList) = false := by simp [hq]
            have HRN1 : Hid (r = (lessC key (l.take (k + 1))).length) := hide (by rw [HTK.out]; simp only [lessC, List.filter_append]; simp [hq, HRN.out, lessC])
            have HQ1 : Hid (Row (fun g => w3.heap.size ≤ g) W8 45 7 (.slice ya r yc) r (gcells cCl (lessC key (l.take (k + 1))))) := by
              refine hide ?_
              have : lessC key (l.take (k + 1)) = lessC key (l.take k) := by rw [HTK.out]; simp [lessC, hq]
              rw [this]
              exact HQ8.out
            by_cases hneg : at' < 0
            · have dn : decide (at' < 0) = true := by simpa using hneg
              have HA1 : Hid ((k : Int) = findC key (l.take (k + 1))) := hide (by
                rw [HTK.out, findC_new hq (by rw [← HAT.out]; exact hneg), List.length_take, ← HN.out]
                omega)
              clear hq
              rcases hcase with ⟨rfl, rfl, rfl⟩ | ⟨rfl, rfl, rfl⟩ | ⟨rfl, rfl, rfl⟩ <;>
              · go_wp2
                go_roundw
                case rel => exact ⟨k + 1, k + 1, r, va', vc', ya, yc, k, _, by omega, by go_num, rfl, rfl, rfl, rfl, hide rfl, HRN1, HA1, HBD', HR8, HQ1, HB8⟩
                case measure => simp [intOf]; omega
            · have dn : decide (at' < 0) = false := by simpa using hneg
              have HA1 : Hid (at' = findC key (l.take (k + 1))) := hide (by
                rw [HTK.out, findC_ge (by rw [← HAT.out]; omega)]
                exact HAT.out)
              clear hq
              rcases hcase with ⟨rfl, rfl, rfl⟩ | ⟨rfl, rfl, rfl⟩ | ⟨rfl, rfl, rfl⟩ <;>
              · go_wp2
                go_roundw
                case rel => exact ⟨k + 1, k + 1, r, va', vc', ya, yc, at', _, by omega, by go_num, rfl, rfl, rfl, rfl, hide rfl, HRN1, HA1, HBD', HR8, HQ1, HB8⟩
                case measure => simp [intOf]; omega
          · have e2 : ¬ f.k.toList = key.toList := fun e => hq (bytes_of_list e)
            have e1 : (f.k.toList == key.toList) = false := by rw [beq_eq_false_iff_ne]; exact e2
            have e3 : (f.k.toList != key.toList) = true := by simp [e2]
            have he : lessC key (l.take (k + 1)) = lessC key (l.take k) ++ [f] := by
              rw [HTK.out]
              simp [lessC, hq]
            have q8 := HQ8.out
            rw [HRN.out] at q8
            obtain ⟨ua', uc', W9, RR, r9, b9, -, rw9⟩ := push_cl q8 hb8 (by have := HRN.out; omega) f
            rw [← HRN.out] at RR
            rw [← he] at RR r9
            obtain ⟨t1, t2, t3⟩ := app_runs RR
            obtain ⟨m', hm'⟩ : ∃ m', m' = (lessC key (l.take (k + 1))).length := ⟨_, rfl⟩
            rw [← hm'] at t2 r9
            have HM1 := hide hm'
            have HR9 := hide r9
            have HB9 : Hid (Below w3.heap.size w3 W9) := hide (HB8.out.trans b9)
            have HE9 := hide (rw9 _ _ _ _ _ _ HR8.out (by decide))
            have HA1 : Hid (at' = findC key (l.take (k + 1))) := hide (by
              rw [HTK.out, findC_ne hq]
              exact HAT.out)
            clear RR r9 b9 rw9 q8 he hm' hq
            rcases hcase with ⟨rfl, rfl, rfl⟩ | ⟨rfl, rfl, rfl⟩ | ⟨rfl, rfl, rfl⟩ <;>
            · go_wp2
              go_roundw
              case rel => exact ⟨k + 1, k + 1, m', va', vc', ua', uc', at', _, by omega, by go_num, rfl, rfl, rfl, rfl, hide rfl, HM1, HA1, HBD', HE9, HR9, HB9⟩
              case measure => simp [intOf]; omega
        · obtain rfl : k = n := by omega
          have et : l.take k = l := by rw [HN.out]; exact List.take_length
          rw [et] at HRN HAT HBD HW HRest
          have hae := HAE.out
          have hbe : bd = eb := by rw [HBD.out, ← hae]
          subst hbe
          have hcase := allE_all how l
          rw [← hae] at hcase
          simp only at hcase
          have HCF := hide (fun W (u : Below w.heap.size w W) => find_any W a ac l key (HR.out.below u) (by omega))
          have HCW := hide (fun W (u : Below w.heap.size w W) => without_any W a ac l key (HR.out.below u) (by omega))
          rw [← HN.out] at HCF HCW
          rw [← HAT.out] at HCF
          have hBw : Below w.heap.size w wr := HU3.out.trans (HB.out.mono (by omega))
          have HBW := hide hBw
          have re := HER.out.onl (w' := wr) (F := fun _ => False) (Onl.ofBelow HB.out) (fun _ _ q => q)
          obtain ⟨_, _, he1, rde, _⟩ := rd_gcells cEd_len re
          injection he1 with he1 _ he2
          subst he1 he2
          have rr := HRest.out
          rw [HRN.out] at rr
          obtain ⟨_, _, hr1, rdr, _⟩ := rd_gcells cCl_len rr
          injection hr1 with hr1 _ hr2
          subst hr1 hr2
          have TAIL : Hid (∀ (W5 : World), Below wr.heap.size wr W5 → Calls Try.prog 19 #[.slice a k ac, .string key] W5 (fun e w' => e = .returned (.int .i64 at') ∧ Below w.heap.size w w' ∧ Below wr.heap.size wr w')) := hide (fun W5 u => (HCF.out W5 (HBW.out.trans (u.mono hBw.size))).mono (fun e w' h => ⟨h.1, (HBW.out.trans (u.mono hBw.size)).trans (h.2.mono (Nat.le_trans hBw.size u.size)), u.trans (h.2.mono u.size)⟩))
          have TAIL2 : Hid (∀ (W6 : World), Below w.heap.size w W6 → Below wr.heap.size wr W6 → Calls Try.prog 20 #[.slice a k ac, .string key] W6 (fun e w' => ∃ (xa : Option Addr) (xc : Nat), e = .returned (.slice xa r xc) ∧ Calls Try.prog 14 #[.slice xa r xc, .slice ya r yc] w' (fun e w'' => e = .returned (.bool true) ∧ Below w.heap.size w w''))) := hide (fun W6 u6 v6 => (HCW.out W6 u6).mono (fun e w' h => by
            obtain ⟨xa', xc', rfl, rx, ux⟩ := h
            have u7 := u6.trans (ux.mono u6.size)
            have v7 := v6.trans (ux.mono v6.size)
            obtain ⟨_, _, hx1, rdx, _⟩ := rd_gcells cCl_len rx
            injection hx1 with hx1 _ hx2
            subst hx1 hx2
            refine ⟨xa', xc', by rw [HRN.out], ?_⟩
            have := sameCl_any xa' xc' (lessC key l) ya yc (lessC key l) w' rdx (rdr.below v7) (by rw [← HRN.out]; have := List.length_filter_le (fun c : Cl => !decide (c.k = key)) l; have h2 := HRN.out; unfold lessC at h2; omega)
            rw [← HRN.out] at this
            refine this.mono (fun e w'' h => ⟨by simpa using h.1, u7.trans (h.2.mono u7.size)⟩)))
          have HRDE := hide rde
          have FIN : ∀ (xa : Option Addr) (xm xc : Nat), (∃ ws : List Ed, xm = ws.length ∧ ws = es ∧ RdG cEd 3 wr xa ws) → Hid (Calls Try.prog 18 #[.slice ea en ec, .slice xa xm xc] wr (fun e w' => e = .returned (.bool true) ∧ Below wr.heap.size wr w')) := by
            rintro xa xm xc ⟨ws, rfl, rfl, rdw⟩
            have := sameEd_any ea ec ws xa xc ws wr HRDE.out rdw (by
              rcases hcase with ⟨_, q⟩ | ⟨_, q⟩
              · rw [q, List.length_map]; omega
              · rw [q]; simp)
            rw [← HEN.out] at this ⊢
            exact hide (this.mono (fun e w'' h => ⟨by simpa using h.1, h.2⟩))
          have HFIN := hide FIN
          clear FIN rde rr rdr re hBw hae et
          rcases hcase with ⟨rfl, hes⟩ | ⟨rfl, hes⟩
          · have HS : Hid (Calls Try.prog 18 #[.slice ea en ec, .slice xa m xc] wr (fun e w' => e = .returned (.bool true) ∧ Below wr.heap.size wr w')) := by
              have rw' := HW.out
              have hmm : m = (l.map (fun c => (settleE how c).1)).length := by rw [HM.out, List.length_map, HN.out]
              rw [hmm] at rw'
              obtain ⟨_, _, hx1, rdx, _⟩ := rd_gcells cEd_len rw'
              injection hx1 with hx1 _ hx2
              subst hx1 hx2
              exact HFIN.out _ _ _ ⟨_, hmm, hes.symm, rdx⟩
            clear hes HFIN HW
            go_wp2_with fail
            refine HS.out.mono ?_
            rintro e w5 ⟨rfl, u5⟩
            have HT := hide (TAIL.out w5 u5)
            clear u5 TAIL HS
            go_wp2_with fail
            refine HT.out.mono ?_
            rintro e w6 ⟨rfl, u6, v6⟩
            have HT2 := hide (TAIL2.out w6 u6 v6)
            clear u6 v6 TAIL2 HT
            go_wp2_with fail
            refine HT2.out.mono ?_
            rintro e w7 ⟨xa7, xc7, rfl, C7⟩
            have HT3 := hide C7
            clear C7 HT2
            go_wp2_with fail
            refine HT3.out.mono ?_
            rintro e w8 ⟨rfl, u8⟩
            have HU8 := hide u8
            clear u8
            go_wp2
            go_ret
            exact ⟨rfl, HU8.out⟩
          · have HS : Hid (Calls Try.prog 18 #[.slice ea en ec, .slice none 0 0] wr (fun e w' => e = .returned (.bool true) ∧ Below wr.heap.size wr w')) := HFIN.out _ _ _ ⟨[], rfl, hes.symm, RdG.nil _ _⟩
            clear hes HFIN HW
            go_wp2_with fail
            refine HS.out.mono ?_
            rintro e w5 ⟨rfl, u5⟩
            have HT := hide (TAIL.out w5 u5)
            clear u5 TAIL HS
            go_wp2_with fail
            refine HT.out.mono ?_
            rintro e w6 ⟨rfl, u6, v6⟩
            have HT2 := hide (TAIL2.out w6 u6 v6)
            clear u6 v6 TAIL2 HT
            go_wp2_with fail
            refine HT2.out.mono ?_
            rintro e w7 ⟨xa7, xc7, rfl, C7⟩
            have HT3 := hide C7
            clear C7 HT2
            go_wp2_with fail
            refine HT3.out.mono ?_
            rintro e w8 ⟨rfl, u8⟩
            have HU8 := hide u8
            clear u8
            go_wp2
            go_ret
            exact ⟨rfl, HU8.out⟩
end Go.Proofs.Ytjmjcmejneljgaa
