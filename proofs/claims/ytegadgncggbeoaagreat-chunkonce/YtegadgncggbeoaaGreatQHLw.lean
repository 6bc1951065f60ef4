/- What law 8 holds while it goes: a store of its own; chapter 8's example. Over the translation. -/
import Derived.Lib.SlBytesConst
import Derived.Test.YtegadgncggbeoaaGreatQHPr
import Derived.Test.YtegadgncggbeoaaGreatQHOp
import Derived.Test.YtegadgncggbeoaaGreatQPgA
namespace Apo
open Go Go.RowKit
theorem open_first {n : Int} (h8 : 8 ≤ lenOf n) : (newSd n).format.2.openC = ((⟨1, ⟨0, 0⟩, freeOf (newSd n).format.2, freeOf (newSd n).format.2, ((freeOf (newSd n).format.2).give ⟨0, 0⟩).2, false⟩, []), 0) := by
  obtain ⟨f1, f2, f3, f4⟩ := format_du h8
  have hld := f2.load f3
  unfold Sd.openC
  rw [hld]
  simp
end Apo
namespace Go.Proofs.YtegadgncggbeoaaGreat
open Go.RowKit Apo
/-- the store of a new device -/
def newCs (n : Int) : Cs := cs1 (newSd n).format.2.openC.1.1 (newSd n).format.2
theorem sto_new {n : Int} (h8 : 8 ≤ lenOf n) : Sto (newSd n).format.2.S ⟨1, 0, 0, 0⟩ (newCs n) [] [] 1 := by
  obtain ⟨f1, f2, f3, f4⟩ := format_du h8
  obtain ⟨o1, o2, o3⟩ := open_tg f2 f3
  refine ⟨o3, fun i h1 h2 => ?_, Nat.le_refl _, fun i c => ?_, fun x hx => by simp at hx, List.Pairwise.nil, List.Pairwise.nil, rfl, Nat.le_refl _⟩
  · show (newSd n).format.2.openC.1.1.f.is i
    rw [open_first h8]
    exact (freeOf_is f2.ok.size i).2 ⟨h1, h2⟩
  · constructor
    · intro q
      cases q
    · rintro ⟨t, q⟩
      simp at q
theorem newCs_st {n : Int} (h8 : 8 ≤ lenOf n) : Alive (newCs n).st ∧ (newCs n).st.C = [] ∧ (newCs n).st.S.length = lenOf n ∧ (newCs n).next = 1 := by
  obtain ⟨f1, f2, f3, f4⟩ := format_du h8
  exact ⟨alive_format h8, f3.2.1, f4, rfl⟩
/-- a store that the law has made -/
structure LwS (w W : World) (s d : Nat) (S : Cs) (O : Nat → Prop) : Prop where
  c : CSx O W s d S
  lo : ∀ i, O i → w.heap.size ≤ i
  hi : ∀ i, O i → i < W.heap.size
  bel : Below w.heap.size w W
section
variable {w W W' : World} {s d : Nat} {S S' : Cs} {st : Sd} {O : Nat → Prop}
theorem LwS.below (h : LwS w W s d S O) (b : Below W.heap.size W W') : LwS w W' s d S O :=
  ⟨h.c.below b, h.lo, fun i q => Nat.lt_of_lt_of_le (h.hi i q) b.size, h.bel.trans (b.mono h.bel.size)⟩
theorem LwS.turn (h : LwS w W s d S O) (k : CSx (Gro O W W') W' s d S') (o : Onl O W W') : LwS w W' s d S' (Gro O W W') :=
  ⟨k, Gro.base h.lo h.bel.size, Gro.lt h.hi o.size, Below.onl h.bel o h.lo (Nat.le_refl _)⟩
theorem LwD.store (h : LwD w W d st O) (k : CSx (Gro O W W') W' s d S) (o : Onl O W W') : LwS w W' s d S (Gro O W W') :=
  ⟨k, Gro.base h.lo h.bel.size, Gro.lt h.hi o.size, Below.onl h.bel o h.lo (Nat.le_refl _)⟩
end
theorem lopen_new {w W : World} {d : Nat} {n : Int} {O : Nat → Prop} (h : LwD w W d (newSd n) O) (h8 : 8 ≤ lenOf n) :
    Calls Tryz.prog 9 #[.pointer (some ⟨d, 0, none⟩)] W fun e W' => ∃ s O', e = .returned (.tuple #[.pointer (some ⟨s, 0, none⟩), .int .i64 0]) ∧ LwS w W' s d (newCs n) O' := by
  obtain ⟨f1, f2, f3, f4⟩ := format_du h8
  have ho := open_first h8
  have hC : (newSd n).C.length = 0 := rfl
  exact (hopen_new h.c h.hi (by rw [hC]; omega) (fresh_load (by omega)) f1 (by rw [ho]) (by rw [ho]) (by rw [f3.2.1]; simp)).mono (fun _ _ ⟨s, h1, h2, h3⟩ => ⟨s, _, h1, h.store h2 h3⟩)
theorem lput {w W : World} {s d : Nat} {S : Cs} {O : Nat → Prop} {S0 : List (List Int)} {sup : Sup} {K0 K : List Kt} {m : Nat} (h : LwS w W s d S O) (hs : Sto S0 sup S K0 K m) (hK : K.length ≤ 16383) (hnl : S.next < 18446744073709551616) (hcc : S.st.C.length ≤ 536870912)
    (ba : Option Addr) (bcap : Nat) (b : List Int) (hr : Rd .u8 W ba b) (hrn : ba = none → bcap = 0) (hrl : b.length ≤ bcap) (hl : b.length ≤ 1099511627776) (hby : ∀ z ∈ b, 0 ≤ z ∧ z ≤ 255) (hbo : ∀ x, ba = some x → 0 < b.length → ¬ O x.block) :
    Calls Tryz.prog 11 #[.pointer (some ⟨s, 0, none⟩), .slice ba b.length bcap] W fun e W' => ∃ (id : Nat) (er : Int) (S' : Cs) (O' : Nat → Prop), e = .returned (.tuple #[.int .u64 id, .int .i64 er]) ∧ PutR S b id er S' ∧ LwS w W' s d S' O' ∧ Onl O W W' ∧ O' = Gro O W W' :=
  (hput_any h.c (hs.few.mono hK) hs.fresh hnl hcc ba bcap b hr hrn hrl hl hby hbo).mono (fun _ _ ⟨id, er, S', h1, h2, h3, h4⟩ => ⟨id, er, S', _, h1, h2, h.turn h3 h4, h4, rfl⟩)
set_option maxRecDepth 100000 in
theorem conv_one (W : World) (x : Int) : (convert 34 34 (.slice (some ⟨W.heap.size, 0, none⟩) 1 1)).run Tryz.prog (W.alloc (.cells #[.int .u8 x] 5)) = .ok (.slice (some ⟨W.heap.size, 0, none⟩) 1 1) (W.alloc (.cells #[.int .u8 x] 5 (1, 2))) := Lib.run_convert_bytes_const (P := Tryz.prog) W 34 5 #[.int .u8 x] 1 1 Tryz.underlying34 Tryz.underlying5
theorem lput_one {w W : World} {s d : Nat} {S : Cs} {O : Nat → Prop} {S0 : List (List Int)} {sup : Sup} {K0 K : List Kt} {m : Nat} (h : LwS w W s d S O) (hs : Sto S0 sup S K0 K m) (hK : K.length ≤ 16383) (hnl : S.next < 18446744073709551616) (hcc : S.st.C.length ≤ 536870912) {x : Int} (hx : 0 ≤ x ∧ x ≤ 255) :
    Calls Tryz.prog 11 #[.pointer (some ⟨s, 0, none⟩), .slice (some ⟨W.heap.size, 0, none⟩) 1 1] (W.alloc (.cells #[.int .u8 x] 5 (1, 2))) fun e W' => ∃ (id : Nat) (er : Int) (S' : Cs) (O' : Nat → Prop), e = .returned (.tuple #[.int .u64 id, .int .i64 er]) ∧ PutR S [x] id er S' ∧ LwS w W' s d S' O' := by
  have L4 := h.below ((Below.refl _ W).alloc (Nat.le_refl _) (.cells #[.int .u8 x] 5 (1, 2)))
  have r4 : Rd .u8 (W.alloc (.cells #[.int .u8 x] 5 (1, 2))) (some ⟨W.heap.size, 0, none⟩) [x] := by
    intro i hi
    obtain rfl : i = 0 := by simp at hi; exact hi
    refine ⟨W.heap.size, 0, rfl, ?_⟩
    rw [World.cell?_alloc_mark]
    rfl
  exact (lput L4 hs hK hnl hcc (some ⟨W.heap.size, 0, none⟩) 1 [x] r4 (fun e => by cases e) (by simp) (by simp) (by simpa using hx) (fun y hy _ q => by cases hy; have := h.hi _ q; simp at this)).mono (fun _ _ ⟨id, er, S', O', h1, h2, h3, _⟩ => ⟨id, er, S', O', h1, h2, h3⟩)
set_option maxRecDepth 100000 in
set_option maxHeartbeats 8000000 in
theorem hawake_any (w : World) : Calls Tryz.prog 7 #[] w fun e w' => e = .returned (.bool true) ∧ Below w.heap.size w w' := by
  have h8 : 8 ≤ lenOf 200 := by decide
  have ST := sto_new h8
  obtain ⟨al, hC, hS, hN⟩ := newCs_st h8
  have HST := hide ST
  have HAL := hide al
  have HC := hide hC
  have HS := hide hS
  have HN := hide hN
  have H8 := hide h8
  clear ST al hC hS hN h8
  go_enter Tryz.func7, Tryz.ntmps7
  go_wp2_with fail
  refine (cnew_any 200 w).mono ?_
  rintro e w1 ⟨d, rfl, k1, b1⟩
  have L1 : LwD w w1 d (newSd 200) (Fresh w w1) := ⟨k1, fun i q => q.1, fun i q => q.2, b1⟩
  have C2 := lopen_new L1 H8.out
  have HC2 := hide C2
  clear k1 b1 L1 C2
  go_wp2_with fail
  refine HC2.out.mono ?_
  rintro e w2 ⟨s, O2, rfl, L2⟩
  have HL2 := hide L2
  clear L2
  have kc := conv_one w2 97
  have C3 := lput_one HL2.out HST.out (by simp) (by rw [HN.out]; omega) (by rw [HC.out]; simp) (x := 97) (by omega)
  have HC3 := hide C3
  clear C3
  go_wp2_with fail
  clear kc
  refine HC3.out.mono ?_
  rintro e w3 ⟨id3, er3, S3, O3, rfl, p3, L3⟩
  have H3 : Hid (id3 = 1 ∧ er3 = 0 ∧ ∃ c, Sto (newSd 200).format.2.S ⟨1, 0, 0, 0⟩ S3 [] [(1, c, [97])] 2 ∧ Alive S3.st ∧ S3.next = 2 ∧ S3.st.S.length = 200 ∧ S3.st.C.length ≤ 10000) := by
    refine hide ?_
    have hn1 : needP (([97] : List Int).length : Int) = 1 := by decide
    have hl : lenOf 200 = 200 := by decide
    rcases HST.out.put HAL.out (by simp) (by simp) (by rw [HN.out]; omega) p3 with ⟨x, hx, _⟩ | ⟨_, ⟨_, _, q⟩ | ⟨q1, q2, c, m', q3, q4, q5, q6, q7, _, _, _, q8⟩⟩
    · simp at hx
    · rw [hn1, HS.out, hl] at q; omega
    · rw [HN.out] at q2 q3 q6
      rw [HC.out] at q8
      refine ⟨q2, q1, c, ?_, q5, q6, by rw [q7, HS.out, hl], by simp at q8; omega⟩
      rw [hn1] at q4
      exact { q3 with top := fun i h1 h2 => q3.top i (by omega) h2, m1 := by omega }
  obtain ⟨rfl, rfl, c1, ST3, al3, nx3, sl3, cl3⟩ := H3.out
  have HL3 := hide L3
  have HST3 := hide ST3
  have HAL3 := hide al3
  have HX3 := hide (And.intro nx3 (And.intro sl3 cl3))
  clear L3 ST3 al3 nx3 sl3 cl3 p3
  have kc := conv_one w3 98
  have C4 := lput_one HL3.out HST3.out (by simp) (by rw [HX3.out.1]; omega) (by have := HX3.out.2.2; omega) (x := 98) (by omega)
  have HC4 := hide C4
  clear C4
  go_wp2_with fail
  clear kc
  refine HC4.out.mono ?_
  rintro e w4 ⟨id4, er4, S4, O4, rfl, p4, L4⟩
  have H4 : Hid (id4 = 2 ∧ er4 = 0 ∧ ∃ c, Sto (newSd 200).format.2.S ⟨1, 0, 0, 0⟩ S4 [] [(1, c1, [97]), (2, c, [98])] 3 ∧ Alive S4.st ∧ S4.next = 3 ∧ S4.st.S.length = 200 ∧ S4.st.C.length ≤ 20000) := by
    refine hide ?_
    have hn1 : needP (([98] : List Int).length : Int) = 1 := by decide
    obtain ⟨x1, x2, x3⟩ := HX3.out
    rcases HST3.out.put HAL3.out (by simp) (by simp) (by rw [x1]; omega) p4 with ⟨x, hx, hx2, _⟩ | ⟨_, ⟨_, _, q⟩ | ⟨q1, q2, c, m', q3, q4, q5, q6, q7, _, _, _, q8⟩⟩
    · simp at hx; rw [hx] at hx2; simp at hx2
    · rw [hn1, x2] at q; omega
    · rw [x1] at q2 q3 q6
      refine ⟨q2, q1, c, ?_, q5, q6, by rw [q7, x2], by omega⟩
      rw [hn1] at q4
      exact { q3 with top := fun i h1 h2 => q3.top i (by omega) h2, m1 := by omega }
  obtain ⟨rfl, rfl, c2, ST4, al4, nx4, sl4, cl4⟩ := H4.out
  have HL4 := hide L4
  have HST4 := hide ST4
  have HAL4 := hide al4
  have HX4 := hide (And.intro nx4 (And.intro sl4 cl4))
  clear L4 ST4 al4 nx4 sl4 cl4 p4
  have kc := conv_one w4 97
  have C5 := lput_one HL4.out HST4.out (by simp) (by rw [HX4.out.1]; omega) (by have := HX4.out.2.2; omega) (x := 97) (by omega)
  have HC5 := hide C5
  clear C5
  go_wp2_with fail
  clear kc
  refine HC5.out.mono ?_
  rintro e w5 ⟨id5, er5, S5, O5, rfl, p5, L5⟩
  have H5 : Hid (id5 = 1 ∧ er5 = 0) := by
    refine hide ?_
    obtain ⟨x1, x2, x3⟩ := HX4.out
    rcases HST4.out.put HAL4.out (by simp) (by simp) (by rw [x1]; omega) p5 with ⟨x, hx, hx2, h3, h4, _⟩ | ⟨q, _⟩
    · simp at hx
      rcases hx with rfl | rfl
      · exact ⟨h3, h4⟩
      · simp at hx2
    · exact absurd rfl (q (1, c1, [97]) (by simp))
  obtain ⟨rfl, rfl⟩ := H5.out
  have HB := hide L5.bel
  clear L5 p5
  go_wp2
  go_ret
  exact ⟨rfl, HB.out⟩
end Go.Proofs.YtegadgncggbeoaaGreat
