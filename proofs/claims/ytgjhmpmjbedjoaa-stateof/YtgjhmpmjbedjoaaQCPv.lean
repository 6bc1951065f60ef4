/- The document's PutClashes, over the translation. -/
import Derived.Deep.RegionHeld3
import Derived.Test.YtgjhmpmjbedjoaaQCPu
import Derived.Test.YtgjhmpmjbedjoaaQCRc
namespace Go.Proofs.Ytgjhmpmjbedjoaa
open Go.RowKit Apo
/-- bytes in a row above B -/
def RwB (B : Nat) (w : World) (v : Value) (l : List Int) : Prop := Row (fun i => B ≤ i ∧ i < w.heap.size) w 5 1 v l.length (l.map (Value.int .u8))
theorem RwB.form {B : Nat} {w : World} {v : Value} {l : List Int} (h : RwB B w v l) : ∃ a n c, v = .slice a n c := by
  obtain ⟨a, c, hv, _⟩ := Row.form h
  exact ⟨a, _, c, hv⟩
theorem RwB.old {B : Nat} {w w' : World} {v : Value} {l : List Int} (h : RwB B w v l) (b : Below w.heap.size w w') : RwB B w' v l :=
  (Row.onl (F := fun _ => False) h (Onl.ofBelow b) (fun _ _ q => q)).mono (fun _ q => ⟨q.1, Nat.lt_of_lt_of_le q.2 b.size⟩)
theorem RwB.of {B : Nat} {w w' : World} {v : Value} {l : List Int} (h : Row (Gro (fun i => B ≤ i ∧ i < w.heap.size) w w') w' 5 1 v l.length (l.map (Value.int .u8))) (hB : B ≤ w.heap.size) (hs : w.heap.size ≤ w'.heap.size) : RwB B w' v l :=
  h.mono (fun i q => by
    rcases q with q | q
    · exact ⟨q.1, by omega⟩
    · exact ⟨by omega, by omega⟩)
theorem row_nilU (w : World) (O : Nat → Prop) : Row O w 5 1 (.slice none 0 0) ([] : List Int).length (([] : List Int).map (Value.int .u8)) := Row.nil _ _ _ _
/-- the cells of three sides -/
def cells3 (f : Cl) : List Value := [.bool f.a.b, .string f.a.v, .bool f.b.b, .string f.b.v, .bool f.c.b, .string f.c.v]
theorem cells3_at (f : Cl) {j : Nat} (hj : j < 3) : (cells3 f)[j * 2]? = some (.bool (f.at j).b) ∧ (cells3 f)[j * 2 + 1]? = some (.string (f.at j).v) := by
  match j, hj with
  | 0, _ => exact ⟨rfl, rfl⟩
  | 1, _ => exact ⟨rfl, rfl⟩
  | 2, _ => exact ⟨rfl, rfl⟩
/-- a flag, then a text, where a side is read beside them -/
theorem flagtext {O : Nat → Prop} (v : Value) (cur : List Int) (s : Si) (W : World) (q : Nat) (hr : Row O W 5 1 v cur.length (cur.map (Value.int .u8))) (hl : cur.length ≤ 10000000) (hs : s.v.size ≤ 1000000) (hk : Ob W q 73 [.bool s.b, .string s.v]) (hq : ¬ O q) :
    Calls Try.prog 29 #[v, .bool s.b] W fun e w5 => ∃ ga gn gc, e = .returned (.slice ga gn gc) ∧ w5.cell? ⟨q, 0, none⟩ = some (.bool s.b) ∧ w5.cell? ⟨q, 1, none⟩ = some (.string s.v) ∧
      Hid (Calls Try.prog 27 #[.slice ga gn gc, .string s.v] w5 fun e w6 => ∃ ka kn kc, e = .returned (.slice ka kn kc) ∧ w6.cell? ⟨q, 0, none⟩ = some (.bool s.b) ∧ w6.cell? ⟨q, 1, none⟩ = some (.string s.v) ∧ Hid (Row (Gro O W w6) w6 5 1 (.slice ka kn kc) (cur ++ flB s.b ++ (enc s.v.size ++ nums s.v)).length ((cur ++ flB s.b ++ (enc s.v.size ++ nums s.v)).map (Value.int .u8)) ∧ Onl O W w6)) := by
  have hlt := hk.lt
  refine (flag_o v cur s.b W hr (by omega)).mono ?_
  rintro en w5 ⟨v5, rfl, o5, f5⟩
  obtain ⟨ga, gc, hg, _⟩ := o5.form
  subst hg
  have kb2 := hk.onl f5 hq
  have z0 := kb2.cell 0
  have z1 := kb2.cell 1
  simp only [List.getElem?_cons_zero, List.getElem?_cons_succ] at z0 z1
  refine ⟨_, _, _, rfl, z0, z1, hide ?_⟩
  refine (text_o _ (cur ++ flB s.b) s.v w5 o5 (by rw [List.length_append, flB_len]; omega)).mono ?_
  rintro en w6 ⟨v6, rfl, o6, f6⟩
  obtain ⟨ka, kc, hg, _⟩ := o6.form
  subst hg
  have s5 := f5.size
  have s6 := f6.size
  have kb3 := kb2.onl f6 (fun q => q.elim hq (fun t => by omega))
  have t0 := kb3.cell 0
  have t1 := kb3.cell 1
  simp only [List.getElem?_cons_zero, List.getElem?_cons_succ] at t0 t1
  refine ⟨_, _, _, rfl, t0, t1, hide ⟨o6.mono (fun i y => ?_), f5.more f6 (fun i y => y.elim .inl (fun t => .inr t.1))⟩⟩
  rcases y with (y | y) | y
  · exact .inl y
  · exact .inr ⟨y.1, by omega⟩
  · exact .inr ⟨by omega, y.2⟩
/-- what the document's Put answers, and its frame -/
def PdP (w : World) (l : List Cl) (e : Ending) (w' : World) : Prop := ∃ v, e = .returned (.tuple #[v, .int .i64 (putC l).2]) ∧ RwB w.heap.size w' v (putC l).1 ∧ Below w.heap.size w w'
set_option maxRecDepth 100000 in
set_option maxHeartbeats 8000000 in
theorem rput_cls (w : World) (a : Option Addr) (ac : Nat) (l : List Cl) (h : RdG cCl 7 w a l) (hl : l.length ≤ 1000000) (hz : ClsSz l) : Calls Try.prog 26 #[.slice a l.length ac] w (PdP w l) := by
  have HC := hide (rclashes_any w a ac l h hl hz)
  have HR := hide h
  obtain ⟨n, hn⟩ : ∃ n, n = l.length := ⟨_, rfl⟩
  rw [← hn] at hl HC ⊢
  have HN := hide hn
  obtain ⟨E, hE⟩ : ∃ E, E = clashE l := ⟨_, rfl⟩
  rw [← hE] at HC
  have HE := hide hE
  clear h hz hn hE
  by_cases h0 : E = 0
  · subst h0
    have hsz := clashE_size HE.out.symm
    have HSZ := hide hsz
    clear hsz
    by_cases hm : 1000 < n
    · have d1 : decide ((1000 : Int) < (n : Int)) = true := by simp; omega
      have d2 : decide (1000 < n) = true := by simp; omega
      have HX : Hid (putC l = ([], 132)) := hide (by
        unfold putC
        rw [if_neg (by rw [← HE.out]; simp), if_pos (by rw [← HN.out]; exact hm)])
      clear hm
      go_enter Try.func26, Try.ntmps26
      go_wp2_with fail
      refine HC.out.mono ?_
      rintro e w1 ⟨rfl, b1⟩
      have HF : Hid (PdP w l (.returned (.tuple #[.slice none 0 0, .int .i64 132])) w1) := by
        refine hide ?_
        unfold PdP
        rw [HX.out]
        exact ⟨.slice none 0 0, rfl, row_nilU _ _, b1⟩
      clear b1 HC
      go_wp2
      refine bodyPost_ret (by simp [results, Try.results26, go_sem]; rfl) rfl ?_
      exact HF.out
    · have d1 : decide ((1000 : Int) < (n : Int)) = false := by simp; omega
      have d2 : decide (1000 < n) = false := by simp; omega
      have HX : Hid (putC l = (clsB l, 0)) := hide (by
        unfold putC
        rw [if_neg (by rw [← HE.out]; simp), if_neg (by rw [← HN.out]; exact hm)])
      have hm2 : n ≤ 1000 := by omega
      have hwn : IntKind.u64.wrap (n : Int) = (n : Int) := by rw [IntKind.wrap_u64]; omega
      clear hm
      go_enter Try.func26, Try.ntmps26
      go_wp2_with fail
      refine HC.out.mono ?_
      rintro e w1 ⟨rfl, b1⟩
      have HB1 := hide b1
      have s1 := b1.size
      have HC2 := hide (num_o (O := fun i => w.heap.size ≤ i ∧ i < w1.heap.size) (.slice none 0 0) [] (n : Int) w1 (row_nilU _ _) (by simp) (by omega) (by omega))
      clear b1 HC
      go_wp2_with fail
      refine HC2.out.mono ?_
      rintro e w3 ⟨v3, rfl, o3, f3⟩
      have hel := enc_len n
      rw [Int.toNat_natCast, List.nil_append] at o3
      obtain ⟨P0, hP0⟩ : ∃ P0, P0 = enc n := ⟨_, rfl⟩
      rw [← hP0] at o3
      have hP0l : P0.length ≤ 40 := by rw [hP0]; omega
      have HB3 := hide (Below.onl HB1.out f3 (fun i q => by omega) (Nat.le_refl _))
      have z3 := f3.size
      have HO3 := hide (RwB.of o3 s1 z3)
      obtain ⟨va, vn, vc, rfl⟩ := HO3.out.form
      have HP0 := hide hP0
      clear o3 f3 hP0 hel HC2
      go_wp2
      go_loopw [5, 24] (fun v i wr => ∃ k : Nat, k ≤ n ∧ i = .int .i64 k ∧ (∃ va vn vc, v = .slice va vn vc) ∧ Hid (RwB w.heap.size wr v (P0 ++ (l.take k).flatMap clB)) ∧ Hid (Below w.heap.size w wr)) (fun _ i _ => n - (intOf i).toNat)
      case atStart => exact ⟨0, Nat.zero_le _, rfl, ⟨_, _, _, rfl⟩, hide (by simpa using HO3.out), HB3⟩
      case round =>
        clear HO3 HB3 z3
        obtain ⟨k, hk, rfl, ⟨va, vn, vc, rfl⟩, HO, HB⟩ := hrel
        have hs := HB.out.size
        have hnl : (P0 ++ (l.take k).flatMap clB).length ≤ 1100000 := by
          have h1 : ((l.take k).flatMap clB).length ≤ 1000 * (l.take k).length := flat_lenC (fun c hc => by obtain ⟨q1, q2, q3, q4⟩ := HSZ.out c (List.mem_of_mem_take hc); exact clB_len2 q1 q2 q3 q4)
          have h2 : (l.take k).length ≤ k := List.length_take_le _ _
          rw [List.length_append]
          omega
        by_cases hlt : k < n
        · obtain ⟨f, hzf⟩ : ∃ f, l[k]? = some f := ⟨l[k]'(by have := HN.out; omega), List.getElem?_eq_getElem _⟩
          obtain ⟨g, off, rfl, c0, c1, c2, c3, c4, c5, c6⟩ := (HR.out.below HB.out).cl hzf
          obtain ⟨hs1, hs2, hs3, hs4⟩ := HSZ.out f (List.mem_of_getElem? hzf)
          have hte : (l.take (k + 1)).flatMap clB = (l.take k).flatMap clB ++ clB f := by rw [List.take_add_one, hzf]; simp
          have HTE : Hid (P0 ++ (l.take (k + 1)).flatMap clB = P0 ++ (l.take k).flatMap clB ++ (enc f.k.size ++ nums f.k) ++ siP f 3) := hide (by rw [hte, clB_siP]; simp only [List.append_assoc])
          obtain ⟨W1, hW1⟩ : ∃ W1, W1 = wr.alloc (.cells #[.string f.k, .bool f.a.b, .string f.a.v, .bool f.b.b, .string f.b.v, .bool f.c.b, .string f.c.v] 75) := ⟨_, rfl⟩
          have b1 : Below w.heap.size w W1 := by rw [hW1]; exact HB.out.alloc hs _
          have bb1 : Below wr.heap.size wr W1 := by rw [hW1]; exact (Below.refl _ wr).alloc (Nat.le_refl _) _
          have sz1 : W1.heap.size = wr.heap.size + 1 := by rw [hW1]; simp
          have kb1 : Ob W1 wr.heap.size 75 (cCl f) := by rw [hW1]; exact Ob.new wr (cCl f) _
          have yy0 := kb1.cell 0
          simp only [cCl, List.getElem?_cons_zero] at yy0
          obtain ⟨cu, hcu⟩ : ∃ cu, cu = P0 ++ (l.take k).flatMap clB := ⟨_, rfl⟩
          rw [← hcu] at HO hnl HTE
          have HC5 := hide (text_o (O := fun i => w.heap.size ≤ i ∧ i < wr.heap.size) _ cu f.k W1 (Row.onl (F := fun _ => False) HO.out (Onl.ofBelow bb1) (fun _ _ q => q)) (by omega))
          have HBW1 := hide b1
          have HKB := hide kb1
          rw [hW1] at HC5 yy0
          clear hte hcu hzf b1 bb1 kb1 HO
          go_wp2_with fail
          refine HC5.out.mono ?_
          rintro en w2 ⟨v2, rfl, o2, f2⟩
          rw [← hW1] at o2 f2
          have kb2 := HKB.out.onl f2 (fun q => by omega)
          have x1 := kb2.cell 1
          have x2 := kb2.cell 2
          have x3 := kb2.cell 3
          have x4 := kb2.cell 4
          have x5 := kb2.cell 5
          have x6 := kb2.cell 6
          simp only [cCl, List.getElem?_cons_zero, List.getElem?_cons_succ] at x1 x2 x3 x4 x5 x6
          have z2 := f2.size
          obtain ⟨cv, hcv⟩ : ∃ cv, cv = cu ++ (enc f.k.size ++ nums f.k) := ⟨_, rfl⟩
          have hT : cv.length ≤ 1200000 := by
            have := enc_len f.k.size
            rw [hcv]
            simp only [List.length_append, nums_length]
            omega
          rw [← hcv] at o2 HTE
          have HB2 := hide (Below.onl HBW1.out f2 (fun i q => by omega) (Nat.le_refl _))
          have HO2 : Hid (RwB w.heap.size w2 v2 cv) := hide (o2.mono (fun i q => by
            rcases q with q | q
            · exact ⟨by omega, by omega⟩
            · exact ⟨by omega, by omega⟩))
          obtain ⟨va, vn, vc, rfl⟩ := HO2.out.form
          obtain ⟨W3, hW3⟩ : ∃ W3, W3 = w2.alloc (.cells #[.bool f.a.b, .string f.a.v, .bool f.b.b, .string f.b.v, .bool f.c.b, .string f.c.v] 73) := ⟨_, rfl⟩
          have bb3 : Below w2.heap.size w2 W3 := by rw [hW3]; exact (Below.refl _ w2).alloc (Nat.le_refl _) _
          have HB4 := hide (HB2.out.trans (bb3.mono HB2.out.size))
          have s3 : W3.heap.size = w2.heap.size + 1 := by rw [hW3]; simp
          have HO4 : Hid (Row (fun i => w.heap.size ≤ i ∧ i < W3.heap.size ∧ i ≠ w2.heap.size) W3 5 1 (.slice va vn vc) cv.length (cv.map (Value.int .u8))) := hide ((Row.onl (F := fun _ => False) HO2.out (Onl.ofBelow bb3) (fun _ _ q => q)).mono (fun i q => ⟨q.1, by have := q.2; omega, by have := q.2; omega⟩))
          have hw2 : w.heap.size ≤ w2.heap.size := HB2.out.size
          have k3 : Ob W3 w2.heap.size 73 (cells3 f) := by rw [hW3]; exact Ob.new w2 (cells3 f) _
          have HK3 := hide k3
          clear HC5 o2 f2 kb2 hcv HKB HBW1 HB2 HO2 hW1 sz1 yy0 bb3 k3 s3
          go_wp2_with fail
          rw [← hW3]
          obtain ⟨q3, hq3⟩ : ∃ q3, q3 = w2.heap.size := ⟨_, rfl⟩
          rw [← hq3] at HK3 HO4 hw2 ⊢
          have HQ3 : Hid (w.heap.size ≤ q3) := hide hw2
          clear hW3 x1 x2 x3 x4 x5 x6 c0 c1 c2 c3 c4 c5 c6 hq3 z2 hw2
          go_wp2
          go_loopw [5, 40] (fun v i wx => ∃ j : Nat, j ≤ 3 ∧ i = .int .i64 j ∧ (∃ va vn vc, v = .slice va vn vc) ∧ Hid (Row (fun i => w.heap.size ≤ i ∧ i < wx.heap.size ∧ i ≠ q3) wx 5 1 v (cv ++ siP f j).length ((cv ++ siP f j).map (Value.int .u8))) ∧ Hid (Ob wx q3 73 (cells3 f)) ∧ Hid (Below w.heap.size w wx)) (fun _ i _ => 3 - (intOf i).toNat)
          case atStart => exact ⟨0, by omega, rfl, ⟨_, _, _, rfl⟩, hide (by simpa [siP] using HO4.out), HK3, HB4⟩
          case round =>
            clear HO4 HB4 HK3
            obtain ⟨j, hj, rfl, ⟨va, vn, vc, rfl⟩, HOJ, HK, HBJ⟩ := hrel
            have hsj := HBJ.out.size
            have hjl : (cv ++ siP f j).length ≤ 1300000 := by
              have := siP_len hs2 hs3 hs4 j hj
              rw [List.length_append]
              omega
            by_cases hj3 : j < 3
            · obtain ⟨e1, e2⟩ := cells3_at f hj3
              have u0 := HK.out.cell (j * 2)
              have u1 := HK.out.cell (j * 2 + 1)
              rw [e1] at u0
              rw [e2] at u1
              have hvs := at_size hs2 hs3 hs4 j
              have HSP := hide (siP_succ f j)
              obtain ⟨s, hsd⟩ : ∃ s, s = f.at j := ⟨_, rfl⟩
              rw [← hsd] at u0 u1 hvs HSP
              have dj : decide ((j : Int) < 3) = true := by simp; omega
              obtain ⟨W2, hW2⟩ : ∃ W2, W2 = wr.alloc (.cells #[.bool s.b, .string s.v] 73) := ⟨_, rfl⟩
              have b1 : Below w.heap.size w W2 := by rw [hW2]; exact HBJ.out.alloc hsj _
              have bb1 : Below wr.heap.size wr W2.drew := by rw [hW2]; exact ((Below.refl _ wr).alloc (Nat.le_refl _) _).drew
              have sz1 : W2.heap.size = wr.heap.size + 1 := by rw [hW2]; simp
              have kb1 : Ob W2 wr.heap.size 73 [.bool s.b, .string s.v] := by rw [hW2]; exact Ob.new wr [.bool s.b, .string s.v] _
              have kb0 : Ob W2 wr.heap.size 73 [.bool s.b, .string s.v] := kb1
              have y0 := kb1.cell 0
              have y1 := kb1.cell 1
              simp only [List.getElem?_cons_zero, List.getElem?_cons_succ] at y0 y1
              obtain ⟨cw, hcw⟩ : ∃ cw, cw = cv ++ siP f j := ⟨_, rfl⟩
              rw [← hcw] at HOJ hjl
              have HTJ : Hid (cv ++ siP f (j + 1) = cw ++ flB s.b ++ (enc s.v.size ++ nums s.v)) := hide (by rw [HSP.out, hcw]; unfold siB; simp only [List.append_assoc])
              have HC5 := hide (flagtext (O := fun i => w.heap.size ≤ i ∧ i < wr.heap.size ∧ i ≠ q3) _ cw s W2.drew wr.heap.size (Row.onl (F := fun _ => False) HOJ.out (Onl.ofBelow bb1) (fun _ _ q => q)) (by omega) (by omega) kb0 (fun q => by have := q.2.1; omega))
              have HBW1 := hide b1
              have HSZ2 := hide sz1
              have HKQ := hide (HK.out.old bb1)
              clear hcw b1 bb1 kb1 kb0 HOJ HSP hsd e1 e2 sz1
              go_wp2_with fail
              rw [← hW2]
              clear hW2
              go_region_held3 (fun W' => W'.cell? ⟨wr.heap.size, 0, none⟩ = some (.bool s.b) ∧ W'.cell? ⟨wr.heap.size, 1, none⟩ = some (.string s.v)) (go_keep) (first
                | (go_at_call 29; refine HC5.out.mono ?_; rintro en w5 ⟨ga, gn, gc, rfl, z0, z1, HC6⟩)
                | (go_at_call 27; refine HC6.out.mono ?_; rintro en w6 ⟨ka, kn, kc, rfl, t0, t1, HO6⟩))
              have HO7 : Hid (Row (fun i => w.heap.size ≤ i ∧ i < w6.heap.size ∧ i ≠ q3) w6 5 1 (.slice ka kn kc) (cv ++ siP f (j + 1)).length ((cv ++ siP f (j + 1)).map (Value.int .u8))) := by
                refine hide ?_
                rw [HTJ.out]
                have z := HO6.out.2.size
                have z2 := HSZ2.out
                have z3 := HBW1.out.size
                have z4 := HK.out.lt
                have z5 : W2.drew.heap.size = W2.heap.size := rfl
                refine HO6.out.1.mono (fun i y => ?_)
                rcases y with y | y
                · exact ⟨y.1, by have := y.2.1; omega, y.2.2⟩
                · exact ⟨by omega, by omega, by omega⟩
              have HK7 := hide (HKQ.out.onl HO6.out.2 (fun q => q.2.2 rfl))
              have HB7 := hide (Below.onl HBW1.out.drew HO6.out.2 (fun i q => q.1) (Nat.le_refl _))
              clear HO6 HC5 HC6 HTJ HKQ HBW1 z0 z1 t0 t1 HSZ2 y0 y1 u0 u1
              go_wp2
              go_roundw
              case rel => exact ⟨j + 1, by omega, by simp, ⟨_, _, _, rfl⟩, HO7, HK7, HB7⟩
              case measure => simp [intOf]; omega
            · obtain rfl : j = 3 := by omega
              have HO7 : Hid (RwB w.heap.size wr (.slice va vn vc) (P0 ++ (l.take (k + 1)).flatMap clB)) := hide (by rw [HTE.out]; exact Row.mono HOJ.out (fun i q => ⟨q.1, q.2.1⟩))
              go_wp2
              go_roundw
              case rel => exact ⟨k + 1, by omega, by simp, ⟨_, _, _, rfl⟩, HO7, HBJ⟩
              case measure => simp [intOf]; omega
        · obtain rfl : k = n := by omega
          have HND : Hid (P0 ++ (l.take k).flatMap clB = clsB l) := by
            refine hide ?_
            have e1 : l.take k = l := by rw [HN.out, List.take_length]
            rw [e1, HP0.out]
            unfold clsB
            rw [HN.out]
          have HF : Hid (PdP w l (.returned (.tuple #[.slice va vn vc, .int .i64 0])) wr) := by
            refine hide ?_
            unfold PdP
            rw [HX.out, ← HND.out]
            exact ⟨_, rfl, HO.out, HB.out⟩
          clear HO HND
          go_wp2
          refine bodyPost_ret (by simp [results, Try.results26, go_sem]; rfl) rfl ?_
          exact HF.out
  · have hz2 : (E != 0) = true := by simpa using h0
    have HX : Hid (putC l = ([], E)) := hide (by
      unfold putC
      rw [if_pos (by rw [← HE.out]; exact h0), ← HE.out])
    clear h0
    go_enter Try.func26, Try.ntmps26
    go_wp2_with fail
    refine HC.out.mono ?_
    rintro e w1 ⟨rfl, b1⟩
    have HF : Hid (PdP w l (.returned (.tuple #[.slice none 0 0, .int .i64 E])) w1) := by
      refine hide ?_
      unfold PdP
      rw [HX.out]
      exact ⟨.slice none 0 0, rfl, row_nilU _ _, b1⟩
    clear b1 HC
    go_wp2
    refine bodyPost_ret (by simp [results, Try.results26, go_sem]; rfl) rfl ?_
    exact HF.out
end Go.Proofs.Ytgjhmpmjbedjoaa
