/- state.Put. Over the translation. -/
import Derived.Test.YtgjhmpmjbedjoaaQSPv
import Derived.Test.YtgjhmpmjbedjoaaQZRi
import Derived.Test.YtgjhmpmjbedjoaaQCPu
namespace Go.Proofs.Ytgjhmpmjbedjoaa
open Go.RowKit Apo
theorem rd_lit4 (k : IntKind) (w : World) (t : TypeId) (x y z u : Int) : Rd k (w.alloc (.cells #[.int k x, .int k y, .int k z, .int k u] t)) (some ⟨w.heap.size, 0, none⟩) [x, y, z, u] := by
  intro i hi
  have hi' : i < 4 := by simpa using hi
  refine ⟨_, _, rfl, ?_⟩
  match i, hi' with
  | 0, _ => simp
  | 1, _ => simp
  | 2, _ => simp
  | 3, _ => simp
set_option maxRecDepth 100000 in
/-- four numbers -/
theorem wnum_four_o {O : Nat → Prop} (p : Nat) (cur : List Int) (n m k u : Int) (w : World) (q : Nat) (hq : q = w.heap.size) (hw : Wro O w p cur) (hn : u64B n) (hm : u64B m) (hk : u64B k) (hu : u64B u) (hc : cur.length ≤ 1099511627776) :
    Calls Try.prog 23 #[.pointer (some ⟨p, 0, none⟩), .slice (some ⟨q, 0, none⟩) 4 4] (w.alloc (.cells #[.int .u64 n, .int .u64 m, .int .u64 k, .int .u64 u] 22)) fun e w' => e = .returned (.tuple #[]) ∧ Wro (Gro O w w') w' p (cur ++ [n, m, k, u].flatMap (fun z => enc z.toNat)) ∧ Onl O w w' := by
  subst hq
  obtain ⟨n0, n1⟩ := hn
  obtain ⟨m0, m1⟩ := hm
  obtain ⟨k0, k1⟩ := hk
  obtain ⟨u0, u1⟩ := hu
  have hb : Below w.heap.size w (w.alloc (.cells #[.int .u64 n, .int .u64 m, .int .u64 k, .int .u64 u] 22)) := (Below.refl _ _).alloc (Nat.le_refl _) _
  refine (wnum_o p cur (some ⟨w.heap.size, 0, none⟩) 4 [n, m, k, u] _ (hw.old hb) (rd_lit4 _ _ _ _ _ _ _) (by intro z hz; simp at hz; omega) hc (by simp)).mono ?_
  rintro e w' ⟨rfl, k2, k3⟩
  have z := k3.size
  simp at z
  have e2 : encs [n, m, k, u] = [n, m, k, u].flatMap (fun z => enc z.toNat) := by simp [encs]
  rw [e2] at k2
  exact ⟨rfl, k2.mono (fun i y => y.elim .inl (fun t => .inr ⟨by have := t.1; simp at this; omega, t.2⟩)), (Onl.ofBelow hb).trans k3⟩
/-- a ref's bytes, where the ref is read beside them -/
theorem refW {O : Nat → Prop} (p : Nat) (cur : List Int) (r : Rf) (W : World) (q : Nat) (hw : Wro O W p cur) (hl : cur.length ≤ 10000000) (hs : r.n.size ≤ 1000) (hi : u64B r.i) (hk : Ob W q 57 [.string r.n, .bool r.t, .int .u64 r.i]) (hq : ¬ O q) :
    Calls Try.prog 22 #[.pointer (some ⟨p, 0, none⟩), .string r.n] W fun e w5 => e = .returned (.tuple #[]) ∧ w5.cell? ⟨q, 1, none⟩ = some (.bool r.t) ∧
      Hid (Calls Try.prog 24 #[.pointer (some ⟨p, 0, none⟩), .bool r.t] w5 fun e w6 => e = .returned (.tuple #[]) ∧ w6.cell? ⟨q, 2, none⟩ = some (.int .u64 r.i) ∧
      Hid (Calls Try.prog 23 #[.pointer (some ⟨p, 0, none⟩), .slice (some ⟨w6.heap.size, 0, none⟩) 1 1] (w6.alloc (.cells #[.int .u64 r.i] 22)) fun e w7 => e = .returned (.tuple #[]) ∧ Hid (Wro (Gro O W w7) w7 p (cur ++ rfB r) ∧ Onl O W w7))) := by
  have hlt := hk.lt
  have hel := enc_len r.n.size
  refine (wtext_o p cur r.n W hw (by omega)).mono ?_
  rintro e w5 ⟨rfl, o5, f5⟩
  have k5 := hk.onl f5 hq
  refine ⟨rfl, k5.cell 1, hide ?_⟩
  refine (wflag_o p _ r.t w5 o5 (by simp only [List.length_append, nums_length]; omega)).mono ?_
  rintro e w6 ⟨rfl, o6, f6⟩
  have s5 := f5.size
  have k6 := k5.onl f6 (fun y => by
    rcases y with y | y
    · exact hq y
    · omega)
  refine ⟨rfl, k6.cell 2, hide ?_⟩
  refine (wnum_one_o p _ r.i w6 w6.heap.size rfl o6 hi.1 hi.2 (by simp only [List.length_append, nums_length, flB_len]; omega)).mono ?_
  rintro e w7 ⟨rfl, o7, f7⟩
  have s6 := f6.size
  have s7 := f7.size
  have f56 : Onl O W w6 := f5.more f6 (fun i y => y.elim .inl (fun t => .inr t.1))
  have e : cur ++ (enc r.n.size ++ nums r.n) ++ flB r.t ++ enc r.i.toNat = cur ++ rfB r := by unfold rfB; simp only [List.append_assoc]
  rw [e] at o7
  refine ⟨rfl, hide ⟨o7.mono (fun i y => ?_), f56.more f7 (fun i y => ?_)⟩⟩
  · rcases y with ((y | y) | y) | y
    · exact .inl y
    · exact .inr ⟨y.1, by omega⟩
    · exact .inr ⟨by omega, by omega⟩
    · exact .inr ⟨by omega, y.2⟩
  · rcases y with (y | y) | y
    · exact .inl y
    · exact .inr y.1
    · exact .inr (by omega)
theorem rwB_own {B B' : Nat} {w : World} {v : Value} {l : List Int} (h : w.ownsRow B 5 1 v l.length (l.map (Value.int .u8))) (hb : B' ≤ B) : RwB B' w v l := by
  refine ⟨own_lower h (Nat.zero_le _), fun g hg => ?_⟩
  have := h.lt g hg
  exact ⟨by omega, this.2⟩
theorem stateE_two (s : Sv) : stateE s = 0 ∨ stateE s = 150 := by
  unfold stateE
  split
  · exact .inr rfl
  · exact .inl rfl
set_option maxRecDepth 100000 in
set_option maxHeartbeats 32000000 in
theorem put_state (x : SvA) (w : World) (h : SvR w x) (hlc : x.s.cl.length ≤ 1000000) :
    Calls Try.prog 8 #[.agg (cSv x).toArray] w (PdS w x.s) := by
  obtain ⟨s, ra, rc, ma, mc, ca, cc⟩ := x
  have HST := hide (fun W (b : Below w.heap.size w W) => right17 ⟨s, ra, rc, ma, mc, ca, cc⟩ W (h.below b) hlc)
  unfold cSv at HST ⊢
  simp only at hlc HST ⊢
  have HX := hide h
  have HPC := hide (fun W (b : Below w.heap.size w W) => put_cls W ca cc s.cl (h.cr.below b) hlc h.cz)
  have hb1 : s.rf.length ≤ 9223372036854775807 := by have := h.rl; simp only at this; unfold maxLen at this; omega
  have hb2 : s.md.length ≤ 9223372036854775807 := by have := h.ml; simp only at this; unfold maxLen at this; omega
  obtain ⟨n1, hn1⟩ : ∃ n, n = s.rf.length := ⟨_, rfl⟩
  obtain ⟨n2, hn2⟩ : ∃ n, n = s.md.length := ⟨_, rfl⟩
  obtain ⟨n3, hn3⟩ : ∃ n, n = s.cl.length := ⟨_, rfl⟩
  rw [← hn1, ← hn2, ← hn3]
  rw [← hn1, ← hn2, ← hn3] at HST
  rw [← hn3] at HPC
  rw [← hn1] at hb1
  rw [← hn2] at hb2
  have HN1 := hide hn1
  have HN2 := hide hn2
  have bA : Below w.heap.size w (w.alloc (.cells #[.string s.hd, .int .u64 s.wk, .int .u64 s.nx, .int .u64 s.pd, .slice ra n1 rc, .slice ma n2 mc, .slice ca n3 cc] 27)) := (Below.refl _ w).alloc (Nat.le_refl _) _
  have HBA := hide bA
  have hk := Ob.new w [.string s.hd, .int .u64 s.wk, .int .u64 s.nx, .int .u64 s.pd, .slice ra n1 rc, .slice ma n2 mc, .slice ca n3 cc] 27
  have HK := hide hk
  have a0 := hk.cell 0
  have a1 := hk.cell 1
  have a2 := hk.cell 2
  have a3 := hk.cell 3
  have a4 := hk.cell 4
  have a5 := hk.cell 5
  have a6 := hk.cell 6
  simp only [List.getElem?_cons_zero, List.getElem?_cons_succ] at a0 a1 a2 a3 a4 a5 a6
  obtain ⟨E, hE⟩ : ∃ E, E = stateE s := ⟨_, rfl⟩
  rw [← hE] at HST
  have HE := hide hE
  have hE2 : E = 0 ∨ E = 150 := by rw [hE]; exact stateE_two s
  clear h hn1 hn2 hn3 bA hE hk
  go_enter Try.func8, Try.ntmps8
  go_wp2_with fail
  refine (HST.out _ HBA.out).mono ?_
  rintro e w1 ⟨rfl, b1⟩
  have HB1 := hide (HBA.out.trans (b1.mono HBA.out.size))
  have k1 := HK.out.old b1
  have c6 := k1.cell 6
  simp only [List.getElem?_cons_zero, List.getElem?_cons_succ] at c6
  have HK1 := hide k1
  clear b1 k1 a0 a1 a2 a3 a4 a5 a6 HST HK
  rcases hE2 with rfl | rfl
  rotate_left
  · have HF : Hid (PdS w s (.returned (.tuple #[.slice none 0 0, .int .i64 150])) w1) := hide (pdS_bad (.inl (by rw [← HE.out]; decide)) HB1.out)
    go_wp2
    refine bodyPost_ret (by simp [results, Try.results8, go_sem]; rfl) rfl ?_
    exact HF.out
  go_wp2_with fail
  refine (HPC.out _ HB1.out).mono ?_
  rintro e w2 ⟨vc, rfl, oc, b2⟩
  obtain ⟨C, hC⟩ : ∃ C, C = putC s.cl := ⟨_, rfl⟩
  rw [← hC] at oc ⊢
  have HC := hide hC
  obtain ⟨C1, ce⟩ := C
  simp only at oc ⊢
  obtain ⟨va, vcc, hvc, hvl, hvn⟩ := own_form oc
  subst hvc
  have HOC := hide (rwB_own oc (Nat.zero_le _))
  have HB2 := hide (HB1.out.trans (b2.mono HB1.out.size))
  have k2 := HK1.out.old b2
  have HK2 := hide k2
  have b0 := k2.cell 0
  simp only [List.getElem?_cons_zero] at b0
  obtain ⟨vn, hvn2⟩ : ∃ vn, vn = C1.length := ⟨_, rfl⟩
  rw [← hvn2] at HOC ⊢
  have HVN := hide hvn2
  clear oc b2 hC hvn2 hvn k2 c6 HPC HB1 HK1 hvl
  by_cases hce : ce = 0
  rotate_left
  · have dce : (ce != 0) = true := by simpa using hce
    have HF : Hid (PdS w s (.returned (.tuple #[.slice none 0 0, .int .i64 150])) w2) := hide (pdS_bad (.inr (by rw [← HC.out]; exact hce)) HB2.out)
    clear hce
    go_wp2
    refine bodyPost_ret (by simp [results, Try.results8, go_sem]; rfl) rfl ?_
    exact HF.out
  subst hce
  have HOK := hide (putS_ok HE.out.symm (by rw [← HC.out]))
  obtain ⟨hs1, hs2, hs3, hs4, _⟩ := stateE_small HE.out.symm
  have HS4 := hide hs4
  have hC1 : C1.length ≤ 1000010 := by
    have h1 := putC_zero (l := s.cl) (by rw [← HC.out])
    rw [← HC.out] at h1
    exact h1
  have hn1 : n1 ≤ 40 := by rw [HN1.out]; exact hs2
  have hn2 : n2 ≤ 200 := by rw [HN2.out]; exact hs3
  clear hs4 hs2 hs3
  obtain ⟨D, hD⟩ : ∃ D, D = w2.heap.size := ⟨_, rfl⟩
  have HD := hide hD
  -- the writer
  obtain ⟨W3, hW3⟩ : ∃ W3, W3 = w2.alloc (.cells #[.slice none 0 0] 53) := ⟨_, rfl⟩
  have b3 : Below D w2 W3 := by rw [hW3, hD]; exact (Below.refl _ _).alloc (Nat.le_refl _) _
  have s3 : W3.heap.size = D + 1 := by rw [hW3, hD]; simp
  have o3 : Wro (fun i => D ≤ i ∧ i < W3.heap.size) W3 D [] := by
    have : Wro (fun i => i = w2.heap.size) W3 w2.heap.size [] := by rw [hW3]; exact Wro.new w2
    rw [← hD] at this
    exact this.mono (fun i q => ⟨by omega, by omega⟩)
  have HC3 := hide (wtext_o D [] s.hd W3 o3 (by simp; omega))
  have HB3 := hide b3
  have HKW : Hid (∀ W, Below D w2 W → Ob W w.heap.size 27 [.string s.hd, .int .u64 s.wk, .int .u64 s.nx, .int .u64 s.pd, .slice ra n1 rc, .slice ma n2 mc, .slice ca n3 cc]) := hide (fun W b => HK2.out.old (by rw [← HD.out]; exact b))
  have HWW : Hid (∀ W, Below D w2 W → Below w.heap.size w W) := hide (fun W b => HB2.out.trans (b.mono (by rw [HD.out]; exact HB2.out.size)))
  have HOW : Hid (∀ W, Below D w2 W → RwB 0 W (.slice va vn vcc) C1) := hide (fun W b => by rw [HVN.out]; exact RwB.old (by rw [← HVN.out]; exact HOC.out) (by rw [← HD.out]; exact b))
  have x0 := (HKW.out _ b3).cell 0
  simp only [List.getElem?_cons_zero] at x0
  rw [hW3] at HC3 x0
  have hDw : w.heap.size < D := by have := HK2.out.lt; omega
  clear b3 o3 b0 HOC HB2 HK2
  go_wp2_with fail
  rw [← hD]
  clear hD
  refine HC3.out.mono ?_
  rintro e w4 ⟨rfl, o4, f4⟩
  rw [← hW3] at o4 f4
  rw [List.nil_append] at o4
  have z4 := f4.size
  have b4 : Below D w2 w4 := Below.onl HB3.out f4 (fun i q => q.1) (by have := HD.out; omega)
  have o4' : Wro (fun i => D ≤ i ∧ i < w4.heap.size) w4 D (enc s.hd.size ++ nums s.hd) := o4.mono (fun i q => by
    rcases q with q | q
    · exact ⟨q.1, by omega⟩
    · exact ⟨by omega, q.2⟩)
  obtain ⟨T0, hT0⟩ : ∃ T0, T0 = enc s.hd.size ++ nums s.hd := ⟨_, rfl⟩
  have hT0l : T0.length ≤ 40 := by
    have := enc_len s.hd.size
    rw [hT0, List.length_append, nums_length]
    omega
  rw [← hT0] at o4'
  have HT0 := hide hT0
  obtain ⟨u1, u2, u3⟩ := HX.out.nz
  have hwn : IntKind.u64.wrap (n1 : Int) = (n1 : Int) := by rw [IntKind.wrap_u64]; omega
  have HC4 := hide (wnum_four_o D T0 s.wk s.nx s.pd (n1 : Int) w4 w4.heap.size rfl o4' u1 u2 u3 ⟨by omega, by omega⟩ (by omega))
  have k4 := HKW.out _ b4
  have a1 := k4.cell 1
  have a2 := k4.cell 2
  have a3 := k4.cell 3
  have a4 := k4.cell 4
  simp only [List.getElem?_cons_zero, List.getElem?_cons_succ] at a1 a2 a3 a4
  have HB4 := hide b4
  clear HC3 o4 f4 b4 o4' hT0 k4 x0 hW3 u1 u2 u3
  go_wp2_with fail
  refine HC4.out.mono ?_
  rintro e w5 ⟨rfl, o5, f5⟩
  have z5 := f5.size
  have b5 : Below D w2 w5 := Below.onl HB4.out f5 (fun i q => q.1) (by have := HD.out; omega)
  obtain ⟨T1, hT1⟩ : ∃ T1, T1 = T0 ++ [s.wk, s.nx, s.pd, (n1 : Int)].flatMap (fun z => enc z.toNat) := ⟨_, rfl⟩
  have hT1l : T1.length ≤ 100 := by
    have e1 := flat_lenG (f := fun z : Int => enc z.toNat) (c := 10) (l := [s.wk, s.nx, s.pd, (n1 : Int)]) (fun z _ => (enc_len _).2)
    have e2 : [s.wk, s.nx, s.pd, (n1 : Int)].length = 4 := rfl
    rw [e2] at e1
    rw [hT1, List.length_append]
    omega
  rw [← hT1] at o5
  have HT1 : Hid (T1 = T0 ++ (n4 s).flatMap (fun z => enc z.toNat)) := hide (by rw [hT1]; unfold n4; rw [HN1.out])
  have HO1 : Hid (Wro (fun i => D ≤ i ∧ i < w5.heap.size) w5 D T1) := hide (o5.mono (fun i q => by
    rcases q with q | q
    · exact ⟨q.1, by omega⟩
    · exact ⟨by omega, q.2⟩))
  have k5 := HKW.out _ b5
  have c4 := k5.cell 4
  simp only [List.getElem?_cons_zero, List.getElem?_cons_succ] at c4
  have HB5 := hide b5
  clear HC4 o5 f5 b5 hT1 k5 a1 a2 a3 a4 HB4
  go_wp2
  clear c4
  go_loopw [47] (fun i wr => ∃ k : Nat, k ≤ n1 ∧ i = .int .i64 k ∧ Hid (Wro (fun i => D ≤ i ∧ i < wr.heap.size) wr D (T1 ++ (s.rf.take k).flatMap rfB)) ∧ Hid (Below D w2 wr)) (fun i _ => n1 - (intOf i).toNat)
  case atStart => exact ⟨0, Nat.zero_le _, rfl, hide (by rw [List.take_zero, List.flatMap_nil, List.append_nil]; exact HO1.out), HB5⟩
  case round =>
    clear HO1 HB5 z5
    obtain ⟨k, hk, rfl, HO, HBD⟩ := hrel
    have hDs := HBD.out.size
    have hwD : D ≤ wr.heap.size := by have := HD.out; omega
    have hcl5 : (T1 ++ (s.rf.take k).flatMap rfB).length ≤ 2600 := by
      have h1 : ((s.rf.take k).flatMap rfB).length ≤ 60 * (s.rf.take k).length := flat_lenG (fun r hr => rfB_len (HS4.out r (List.mem_of_mem_take hr)))
      have h2 : (s.rf.take k).length ≤ k := List.length_take_le _ _
      rw [List.length_append]
      omega
    by_cases hlt : k < n1
    · obtain ⟨r, hr⟩ : ∃ r, s.rf[k]? = some r := ⟨s.rf[k]'(by have := HN1.out; omega), List.getElem?_eq_getElem _⟩
      have hrm := List.mem_of_getElem? hr
      have hrn := HS4.out r hrm
      have hri := HX.out.ri r hrm
      obtain ⟨g, o, rfl, c0, c1, c2⟩ := rd_rf (HX.out.below (HWW.out _ HBD.out)).rr hr
      have HTE : Hid (T1 ++ (s.rf.take (k + 1)).flatMap rfB = T1 ++ (s.rf.take k).flatMap rfB ++ rfB r) := hide (by rw [List.take_add_one, hr]; simp)
      obtain ⟨W1, hW1⟩ : ∃ W1, W1 = wr.alloc (.cells #[.string r.n, .bool r.t, .int .u64 r.i] 57) := ⟨_, rfl⟩
      have bb1 : Below wr.heap.size wr W1 := by rw [hW1]; exact (Below.refl _ wr).alloc (Nat.le_refl _) _
      have kr : Ob W1 wr.heap.size 57 [.string r.n, .bool r.t, .int .u64 r.i] := by rw [hW1]; exact Ob.new wr [.string r.n, .bool r.t, .int .u64 r.i] _
      have sz1 : W1.heap.size = wr.heap.size + 1 := by rw [hW1]; simp
      obtain ⟨cu, hcu⟩ : ∃ cu, cu = T1 ++ (s.rf.take k).flatMap rfB := ⟨_, rfl⟩
      rw [← hcu] at HO hcl5 HTE
      have HC5 := hide (refW (O := fun i => D ≤ i ∧ i < wr.heap.size) D cu r W1 wr.heap.size (HO.out.old bb1) (by omega) (by omega) hri kr (fun q => by omega))
      have HBD5 := hide (HBD.out.trans (bb1.mono hwD))
      have y0 := kr.cell 0
      simp only [List.getElem?_cons_zero] at y0
      rw [hW1] at HC5 y0
      have HSZ := hide sz1
      clear hr hrm hcu bb1 kr sz1 HO
      go_wp2_with fail
      refine HC5.out.mono ?_
      rintro en w5 ⟨rfl, y1, HC6⟩
      go_wp2_with fail
      refine HC6.out.mono ?_
      rintro en w6 ⟨rfl, y2, HC7⟩
      go_wp2_with fail
      refine HC7.out.mono ?_
      rintro en w7 ⟨rfl, HO7⟩
      obtain ⟨o7, f7⟩ := HO7.out
      rw [← hW1] at o7 f7
      have z7 := f7.size
      have HB7 := hide (Below.onl HBD5.out f7 (fun i q => q.1) (by have := HD.out; omega))
      have HO8 : Hid (Wro (fun i => D ≤ i ∧ i < w7.heap.size) w7 D (T1 ++ (s.rf.take (k + 1)).flatMap rfB)) := hide (by
        rw [HTE.out]
        have sz := HSZ.out
        exact o7.mono (fun i q => by
          rcases q with q | q
          · exact ⟨q.1, by omega⟩
          · exact ⟨by omega, q.2⟩))
      clear HC5 HC6 HC7 HO7 o7 f7 HBD HTE c0 c1 c2 y0 y1 y2 hW1 HSZ
      go_wp2
      go_roundw
      case rel => exact ⟨k + 1, by omega, by simp, HO8, HB7⟩
      case measure => simp [intOf]; omega
    · obtain rfl : k = n1 := by omega
      have ht5 : s.rf.take k = s.rf := by rw [HN1.out, List.take_length]
      rw [ht5] at HO hcl5
      obtain ⟨T2, hT2⟩ : ∃ T2, T2 = T1 ++ s.rf.flatMap rfB := ⟨_, rfl⟩
      rw [← hT2] at HO hcl5
      have HT2 := hide hT2
      have k5 := HKW.out _ HBD.out
      have a5 := k5.cell 5
      simp only [List.getElem?_cons_zero, List.getElem?_cons_succ] at a5
      have hwn2 : IntKind.u64.wrap (n2 : Int) = (n2 : Int) := by rw [IntKind.wrap_u64]; omega
      have HC8 := hide (wnum_one_o D T2 (n2 : Int) wr wr.heap.size rfl HO.out (by omega) (by omega) (by omega))
      clear HO k5 hT2 ht5
      go_wp2_with fail
      refine HC8.out.mono ?_
      rintro en w8 ⟨rfl, o8, f8⟩
      have z8 := f8.size
      have HB8 := hide (Below.onl HBD.out f8 (fun i q => q.1) (by have := HD.out; omega))
      rw [Int.toNat_natCast] at o8
      obtain ⟨T3, hT3⟩ : ∃ T3, T3 = T2 ++ enc n2 := ⟨_, rfl⟩
      have hel2 := enc_len n2
      have hT3l : T3.length ≤ 2700 := by rw [hT3, List.length_append]; omega
      rw [← hT3] at o8
      have HT3 := hide hT3
      have HO8 : Hid (Wro (fun i => D ≤ i ∧ i < w8.heap.size) w8 D T3) := hide (o8.mono (fun i q => by
        rcases q with q | q
        · exact ⟨q.1, by omega⟩
        · exact ⟨by omega, q.2⟩))
      have k8 := HKW.out _ HB8.out
      have b5 := k8.cell 5
      simp only [List.getElem?_cons_zero, List.getElem?_cons_succ] at b5
      clear HC8 o8 f8 hT3 hel2 k8 HBD a5 hDs hwD z8
      go_wp2
      clear b5
      go_loopw [75] (fun i wr => ∃ k : Nat, k ≤ n2 ∧ i = .int .i64 k ∧ Hid (Wro (fun i => D ≤ i ∧ i < wr.heap.size) wr D (T3 ++ (s.md.take k).flatMap mdB)) ∧ Hid (Below D w2 wr)) (fun i _ => n2 - (intOf i).toNat)
      case atStart => exact ⟨0, Nat.zero_le _, rfl, hide (by rw [List.take_zero, List.flatMap_nil, List.append_nil]; exact HO8.out), HB8⟩
      case round =>
        clear HO8 HB8
        obtain ⟨k2, hk2, rfl, HO, HBD⟩ := hrel
        have hDs := HBD.out.size
        have hwD : D ≤ wr.heap.size := by have := HD.out; omega
        have hcl6 : (T3 ++ (s.md.take k2).flatMap mdB).length ≤ 6800 := by
          have h1 : ((s.md.take k2).flatMap mdB).length ≤ 20 * (s.md.take k2).length := flat_lenG (fun m _ => mdB_len m)
          have h2 : (s.md.take k2).length ≤ k2 := List.length_take_le _ _
          rw [List.length_append]
          omega
        by_cases hlt2 : k2 < n2
        · obtain ⟨m, hm⟩ : ∃ m, s.md[k2]? = some m := ⟨s.md[k2]'(by have := HN2.out; omega), List.getElem?_eq_getElem _⟩
          obtain ⟨⟨i0, i1⟩, ⟨j0, j1⟩⟩ := HX.out.mi m (List.mem_of_getElem? hm)
          obtain ⟨g, o, rfl, c0, c1⟩ := rd_mk (HX.out.below (HWW.out _ HBD.out)).mr hm
          have HTE : Hid (T3 ++ (s.md.take (k2 + 1)).flatMap mdB = T3 ++ (s.md.take k2).flatMap mdB ++ (enc m.id.toNat ++ enc m.ch.toNat)) := hide (by rw [List.take_add_one, hm]; simp [mdB])
          obtain ⟨W1, hW1⟩ : ∃ W1, W1 = wr.alloc (.cells #[.int .u64 m.id, .int .u64 m.ch] 60) := ⟨_, rfl⟩
          have bb1 : Below wr.heap.size wr W1 := by rw [hW1]; exact (Below.refl _ wr).alloc (Nat.le_refl _) _
          have kr : Ob W1 wr.heap.size 60 [.int .u64 m.id, .int .u64 m.ch] := by rw [hW1]; exact Ob.new wr [.int .u64 m.id, .int .u64 m.ch] _
          have sz1 : W1.heap.size = wr.heap.size + 1 := by rw [hW1]; simp
          obtain ⟨cu, hcu⟩ : ∃ cu, cu = T3 ++ (s.md.take k2).flatMap mdB := ⟨_, rfl⟩
          rw [← hcu] at HO hcl6 HTE
          have HC5 := hide (wnum_two_o (O := fun i => D ≤ i ∧ i < wr.heap.size) D cu m.id m.ch W1 (wr.heap.size + 1) (by omega) (HO.out.old bb1) i0 i1 j0 j1 (by omega))
          have HBD5 := hide (HBD.out.trans (bb1.mono hwD))
          have y0 := kr.cell 0
          have y1 := kr.cell 1
          simp only [List.getElem?_cons_zero, List.getElem?_cons_succ] at y0 y1
          rw [hW1] at HC5 y0 y1
          have HSZ := hide sz1
          clear hm hcu bb1 kr sz1 HO
          go_wp2_with fail
          refine HC5.out.mono ?_
          rintro en w7 ⟨rfl, o7, f7⟩
          rw [← hW1] at o7 f7
          have z7 := f7.size
          have HB7 := hide (Below.onl HBD5.out f7 (fun i q => q.1) (by have := HD.out; omega))
          have HO8 : Hid (Wro (fun i => D ≤ i ∧ i < w7.heap.size) w7 D (T3 ++ (s.md.take (k2 + 1)).flatMap mdB)) := hide (by
            rw [HTE.out]
            have sz := HSZ.out
            exact o7.mono (fun i q => by
              rcases q with q | q
              · exact ⟨q.1, by omega⟩
              · exact ⟨by omega, q.2⟩))
          clear HC5 o7 f7 HBD HTE c0 c1 y0 y1 hW1 HSZ
          go_wp2
          go_roundw
          case rel => exact ⟨k2 + 1, by omega, by simp, HO8, HB7⟩
          case measure => simp [intOf]; omega
        · obtain rfl : k2 = n2 := by omega
          have ht6 : s.md.take k2 = s.md := by rw [HN2.out, List.take_length]
          rw [ht6] at HO hcl6
          have HCV := hide (conv_own (HOW.out _ HBD.out).1)
          have hcvt := HCV.out wr (Below.refl _ _)
          have hbC : InB C1 := by
            have := HC.out
            have h2 := putC_byte (l := s.cl) (by unfold top; omega)
            rw [← this] at h2
            exact h2
          have hns : nums (strOfNums C1) = C1 := nums_strOfNums hbC
          have hss : (strOfNums C1).size = C1.length := strOfNums_size _
          obtain ⟨SB, hSB⟩ : ∃ SB, SB = strOfNums C1 := ⟨_, rfl⟩
          rw [← hSB] at hns hss hcvt
          have HC9 := hide (wtext_o (O := fun i => D ≤ i ∧ i < wr.heap.size) D (T3 ++ s.md.flatMap mdB) SB wr HO.out (by omega))
          have HNS := hide hns
          have HSS := hide hss
          clear HO hbC hns hss hSB ht6 HCV
          go_wp2_with fail
          refine HC9.out.mono ?_
          rintro en w9 ⟨rfl, o9, f9⟩
          have z9 := f9.size
          have HND : Hid (T3 ++ s.md.flatMap mdB ++ (enc SB.size ++ nums SB) = stB s) := hide (by
            unfold stB
            rw [HSS.out, HNS.out, HT3.out, HT2.out, HT1.out, HT0.out, ← HN2.out]
            rw [show (putC s.cl).1 = C1 by rw [← HC.out]])
          have HBF := hide (Below.onl HBD.out f9 (fun i q => q.1) (by have := HD.out; omega))
          have hBl : (T3 ++ s.md.flatMap mdB ++ (enc SB.size ++ nums SB)).length ≤ 1100000 := by
            have e1 := enc_len SB.size
            have e2 := HSS.out
            have e3 := nums_length SB
            have e4 := hcl6
            rw [List.length_append] at e4
            simp only [List.length_append, e3]
            omega
          rw [HND.out] at o9 hBl
          obtain ⟨BB, hBB⟩ : ∃ BB, BB = stB s := ⟨_, rfl⟩
          rw [← hBB] at o9 hBl
          obtain ⟨_, v, hob, hrow⟩ := o9
          have HC10 := hide (wbytes_o D v BB w9 hob hrow.1 (by omega))
          have HBB := hide hBB
          clear HC9 f9 HBD hcvt hob hrow hBB HND
          go_wp2_with fail
          refine HC10.out.mono ?_
          rintro en w10 ⟨v10, rfl, o10, b10⟩
          obtain ⟨a10, c10, hv10, _, _⟩ := own_form o10
          subst hv10
          have HF : Hid (PdS w s (.returned (.tuple #[.slice a10 BB.length c10, .int .i64 0])) w10) := by
            refine hide ?_
            unfold PdS
            rw [HOK.out]
            have bw := HWW.out _ HBF.out
            exact ⟨_, rfl, by simp only; rw [← HBB.out]; exact rwB_own o10 bw.size, bw.trans (b10.mono bw.size)⟩
          clear HC10 o10 b10
          go_wp2
          refine bodyPost_ret (by simp [results, Try.results8, go_sem]; rfl) rfl ?_
          exact HF.out
end Go.Proofs.Ytgjhmpmjbedjoaa
