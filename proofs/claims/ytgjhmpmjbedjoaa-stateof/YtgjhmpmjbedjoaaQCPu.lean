/- conflict.Put, over the translation. -/
import Derived.Test.YtgjhmpmjbedjoaaQCFl
import Derived.Test.YtgjhmpmjbedjoaaQCRi
import Derived.Test.YtgjhmpmjbedjoaaQA8
namespace Go.Proofs.Ytgjhmpmjbedjoaa
open Go.RowKit Apo
theorem own_lower {w : World} {B B' : Nat} {e : TypeId} {size : Nat} {v : Value} {n : Nat} {xs : List Value} (h : w.ownsRow B e size v n xs) (hb : B' ≤ B) : w.ownsRow B' e size v n xs := by
  refine ⟨h.1, ?_⟩
  rcases h.2 with q | ⟨g, cap, cur, h1, h2, h3⟩
  · exact .inl q
  · exact .inr ⟨g, cap, cur, h1, Nat.le_trans hb h2, h3⟩
/-- the bytes of the first sides -/
def siP (c : Cl) (j : Nat) : List Int := (List.range j).flatMap (fun i => siB (c.at i))
theorem siP_succ (c : Cl) (j : Nat) : siP c (j + 1) = siP c j ++ siB (c.at j) := by
  unfold siP
  rw [List.range_succ, List.flatMap_append]
  simp
theorem clB_siP (c : Cl) : clB c = (enc c.k.size ++ nums c.k) ++ siP c 3 := by
  rw [siP_succ, siP_succ, siP_succ]
  unfold clB
  simp [siP, Cl.at]
theorem siB_len {s : Si} (h : s.v.size ≤ 200) : (siB s).length ≤ 211 := by
  have := enc_len s.v.size
  unfold siB
  simp only [List.length_append, nums_length, flB_len]
  omega
theorem siP_len {c : Cl} (ha : c.a.v.size ≤ 200) (hb : c.b.v.size ≤ 200) (hc : c.c.v.size ≤ 200) : ∀ j, j ≤ 3 → (siP c j).length ≤ 211 * j := by
  intro j hj
  have h1 := siB_len ha
  have h2 := siB_len hb
  have h3 := siB_len hc
  match j, hj with
  | 0, _ => simp [siP]
  | 1, _ => rw [siP_succ]; simp [siP, Cl.at]; omega
  | 2, _ => rw [siP_succ, siP_succ]; simp [siP, Cl.at]; omega
  | 3, _ => rw [siP_succ, siP_succ, siP_succ]; simp [siP, Cl.at]; omega
theorem clB_len2 {c : Cl} (hk : c.k.size ≤ 40) (ha : c.a.v.size ≤ 200) (hb : c.b.v.size ≤ 200) (hc : c.c.v.size ≤ 200) : (clB c).length ≤ 1000 := clB_len ⟨by omega, by omega, by omega, by omega⟩
theorem flat_lenC {f : Cl → List Int} {c : Nat} : ∀ {l : List Cl}, (∀ x ∈ l, (f x).length ≤ c) → (l.flatMap f).length ≤ c * l.length
  | [], _ => by simp
  | x :: l, h => by
    have h1 := h x (by simp)
    have h2 := flat_lenC (l := l) (fun y hy => h y (by simp [hy]))
    rw [List.flatMap_cons, List.length_append, List.length_cons, Nat.mul_add]
    omega
theorem idxAt (c : Cl) (w : World) {j : Nat} (hj : j < 3) : (Instr.index 89 (.agg #[.bool c.a.b, .string c.a.v, .bool c.b.b, .string c.b.v, .bool c.c.b, .string c.c.v]) (.int .i64 j)).run Try.prog w = .ok (.agg #[.bool (c.at j).b, .string (c.at j).v]) w := by
  match j, hj with
  | 0, _ => exact idx0 _ _ _ _ _ _ _
  | 1, _ => exact idx1 _ _ _ _ _ _ _
  | 2, _ => exact idx2 _ _ _ _ _ _ _
theorem at_size {c : Cl} (ha : c.a.v.size ≤ 200) (hb : c.b.v.size ≤ 200) (hc : c.c.v.size ≤ 200) (j : Nat) : (c.at j).v.size ≤ 200 := by
  match j with
  | 0 => exact ha
  | 1 => exact hb
  | j + 2 => exact hc
/-- what Put answers, and its frame -/
def PcP (w : World) (l : List Cl) (e : Ending) (w' : World) : Prop := ∃ v, e = .returned (.tuple #[v, .int .i64 (putC l).2]) ∧ w'.ownsRow w.heap.size 5 1 v (putC l).1.length ((putC l).1.map (Value.int .u8)) ∧ Below w.heap.size w w'
set_option maxRecDepth 100000 in
set_option maxHeartbeats 8000000 in
theorem put_cls (w : World) (a : Option Addr) (ac : Nat) (l : List Cl) (h : RdG cCl 7 w a l) (hl : l.length ≤ 1000000) (hz : ClsSz l) : Calls Try.prog 21 #[.slice a l.length ac] w (PcP w l) := by
  have HC := hide (right_any w a ac l h hl hz)
  have HR := hide h
  obtain ⟨n, hn⟩ : ∃ n, n = l.length := ⟨_, rfl⟩
  rw [← hn] at hl HC ⊢
  have HN := hide hn
  obtain ⟨E, hE⟩ : ∃ E, E = clashE l := ⟨_, rfl⟩
  rw [← hE] at HC
  have HE := hide hE
  clear h hz hn hE
  by_cases h0 : E = 0
  · subst h0
    have hsz := clashE_size HE.out.symm
    have HSZ := hide hsz
    clear hsz
    by_cases hm : 1000 < n
    · have d1 : decide ((1000 : Int) < (n : Int)) = true := by simp; omega
      have d2 : decide (1000 < n) = true := by simp; omega
      have HX : Hid (putC l = ([], 132)) := hide (by
        unfold putC
        rw [if_neg (by rw [← HE.out]; simp), if_pos (by rw [← HN.out]; exact hm)])
      clear hm
      go_enter Try.func21, Try.ntmps21
      go_wp2_with fail
      refine HC.out.mono ?_
      rintro e w1 ⟨rfl, b1⟩
      have HF : Hid (PcP w l (.returned (.tuple #[.slice none 0 0, .int .i64 132])) w1) := by
        refine hide ?_
        unfold PcP
        rw [HX.out]
        exact ⟨.slice none 0 0, rfl, World.ownsRow_nil _ _ _ _, b1⟩
      clear b1 HC
      go_wp2
      refine bodyPost_ret (by simp [results, Try.results21, go_sem]; rfl) rfl ?_
      exact HF.out
    · have d1 : decide ((1000 : Int) < (n : Int)) = false := by simp; omega
      have d2 : decide (1000 < n) = false := by simp; omega
      have HX : Hid (putC l = (clsB l, 0)) := hide (by
        unfold putC
        rw [if_neg (by rw [← HE.out]; simp), if_neg (by rw [← HN.out]; exact hm)])
      have hm2 : n ≤ 1000 := by omega
      have hwn : IntKind.u64.wrap (n : Int) = (n : Int) := by rw [IntKind.wrap_u64]; omega
      clear hm
      go_enter Try.func21, Try.ntmps21
      go_wp2_with fail
      refine HC.out.mono ?_
      rintro e w1 ⟨rfl, b1⟩
      have HB1 := hide b1
      have s1 := b1.size
      have bw : Below w1.heap.size w1 (w1.alloc (.cells #[.slice none 0 0] 53)) := (Below.refl _ _).alloc (Nat.le_refl _) _
      have HC2 := hide (wnum_one_o w1.heap.size [] (n : Int) _ (w1.heap.size + 1) (by simp) (Wro.new w1) (by omega) (by omega) (by simp))
      clear b1 HC
      go_wp2_with fail
      refine HC2.out.mono ?_
      rintro e w3 ⟨rfl, o3, f3⟩
      have hel := enc_len n
      rw [Int.toNat_natCast, List.nil_append] at o3
      obtain ⟨P0, hP0⟩ : ∃ P0, P0 = enc n := ⟨_, rfl⟩
      rw [← hP0] at o3
      have hP0l : P0.length ≤ 40 := by rw [hP0]; omega
      have HB3 := hide (Below.onl (HB1.out.trans (bw.mono s1)) f3 (fun i q => by omega) (Nat.le_refl _))
      have z3 := f3.size
      simp only [World.size_alloc] at z3
      obtain ⟨p, hp⟩ : ∃ p, p = w1.heap.size := ⟨_, rfl⟩
      rw [← hp] at o3
      have HO3 := hide (o3.mono (O' := fun i => w.heap.size ≤ i ∧ i < w3.heap.size) (fun i q => by
        rcases q with q | q
        · exact ⟨by omega, by omega⟩
        · have q1 := q.1; have q2 := q.2; simp only [World.size_alloc] at q1; exact ⟨by omega, by omega⟩))
      have HP0 := hide hP0
      rw [← hp]
      clear o3 f3 hP0 hel bw HC2 hp
      go_wp2
      go_loopw [28] (fun i wr => ∃ k : Nat, k ≤ n ∧ i = .int .i64 k ∧ Hid (Wro (fun i => w.heap.size ≤ i ∧ i < wr.heap.size) wr p (P0 ++ (l.take k).flatMap clB)) ∧ Hid (Below w.heap.size w wr)) (fun i _ => n - (intOf i).toNat)
      case atStart => exact ⟨0, Nat.zero_le _, rfl, hide (by simpa using HO3.out), HB3⟩
      case round =>
        clear HO3 HB3 z3
        obtain ⟨k, hk, rfl, HO, HB⟩ := hrel
        have hs := HB.out.size
        have hnl : (P0 ++ (l.take k).flatMap clB).length ≤ 1100000 := by
          have h1 : ((l.take k).flatMap clB).length ≤ 1000 * (l.take k).length := flat_lenC (fun c hc => by obtain ⟨q1, q2, q3, q4⟩ := HSZ.out c (List.mem_of_mem_take hc); exact clB_len2 q1 q2 q3 q4)
          have h2 : (l.take k).length ≤ k := List.length_take_le _ _
          rw [List.length_append]
          omega
        by_cases hlt : k < n
        · obtain ⟨f, hzf⟩ : ∃ f, l[k]? = some f := ⟨l[k]'(by have := HN.out; omega), List.getElem?_eq_getElem _⟩
          obtain ⟨g, off, rfl, c0, c1, c2, c3, c4, c5, c6⟩ := (HR.out.below HB.out).cl hzf
          obtain ⟨hs1, hs2, hs3, hs4⟩ := HSZ.out f (List.mem_of_getElem? hzf)
          have hte : (l.take (k + 1)).flatMap clB = (l.take k).flatMap clB ++ clB f := by rw [List.take_add_one, hzf]; simp
          have HTE : Hid (P0 ++ (l.take (k + 1)).flatMap clB = P0 ++ (l.take k).flatMap clB ++ (enc f.k.size ++ nums f.k) ++ siP f 3) := hide (by rw [hte, clB_siP]; simp only [List.append_assoc])
          obtain ⟨W1, hW1⟩ : ∃ W1, W1 = wr.alloc (.cells #[.string f.k, .bool f.a.b, .string f.a.v, .bool f.b.b, .string f.b.v, .bool f.c.b, .string f.c.v] 75) := ⟨_, rfl⟩
          have b1 : Below w.heap.size w W1 := by rw [hW1]; exact HB.out.alloc hs _
          have bb1 : Below wr.heap.size wr W1 := by rw [hW1]; exact (Below.refl _ wr).alloc (Nat.le_refl _) _
          have sz1 : W1.heap.size = wr.heap.size + 1 := by rw [hW1]; simp
          have kb1 : Ob W1 wr.heap.size 75 (cCl f) := by rw [hW1]; exact Ob.new wr (cCl f) _
          have yy0 := kb1.cell 0
          simp only [cCl, List.getElem?_cons_zero] at yy0
          obtain ⟨cu, hcu⟩ : ∃ cu, cu = P0 ++ (l.take k).flatMap clB := ⟨_, rfl⟩
          rw [← hcu] at HO hnl HTE
          have HC5 := hide (wtext_o p cu f.k W1 (HO.out.old bb1) (by omega))
          have HBW1 := hide b1
          have HKB := hide kb1
          have HSZ1 := hide sz1
          rw [hW1] at HC5 yy0
          clear hte hcu hzf b1 bb1 kb1 HO
          go_wp2_with fail
          refine HC5.out.mono ?_
          rintro en w2 ⟨rfl, o2, f2⟩
          rw [← hW1] at o2 f2
          have kb2 := HKB.out.onl f2 (fun q => by omega)
          have x0 := kb2.cell 0
          have x1 := kb2.cell 1
          have x2 := kb2.cell 2
          have x3 := kb2.cell 3
          have x4 := kb2.cell 4
          have x5 := kb2.cell 5
          have x6 := kb2.cell 6
          simp only [cCl, List.getElem?_cons_zero, List.getElem?_cons_succ] at x0 x1 x2 x3 x4 x5 x6
          have z2 := f2.size
          obtain ⟨cv, hcv⟩ : ∃ cv, cv = cu ++ (enc f.k.size ++ nums f.k) := ⟨_, rfl⟩
          have hT : cv.length ≤ 1200000 := by
            have := enc_len f.k.size
            rw [hcv]
            simp only [List.length_append, nums_length]
            omega
          rw [← hcv] at o2 HTE
          have HB2 := hide (Below.onl HBW1.out f2 (fun i q => by omega) (Nat.le_refl _))
          have HO2 := hide (o2.mono (O' := fun i => w.heap.size ≤ i ∧ i < w2.heap.size) (fun i q => by
            rcases q with q | q
            · exact ⟨by omega, by omega⟩
            · exact ⟨by omega, by omega⟩))
          have HC6 := hide (sides_any f w2)
          simp only [Cl.val] at HC6
          clear HC5 o2 f2 kb2 hcv HKB HSZ1 HBW1 hW1 z2 sz1 yy0
          go_wp2_with fail
          refine HC6.out.mono ?_
          rintro en w4 ⟨rfl, b4⟩
          have z4 := b4.size
          have HB4 := hide (HB2.out.trans (b4.mono HB2.out.size))
          have HO4 := hide ((HO2.out.old b4).mono (O' := fun i => w.heap.size ≤ i ∧ i < w4.heap.size) (fun i q => ⟨q.1, by have := q.2; omega⟩))
          clear HC6 b4 HB2 HO2 x0 x1 x2 x3 x4 x5 x6 c0 c1 c2 c3 c4 c5 c6 z4
          go_wp2
          go_loopw [38] (fun i wr => ∃ j : Nat, j ≤ 3 ∧ i = .int .i64 j ∧ Hid (Wro (fun i => w.heap.size ≤ i ∧ i < wr.heap.size) wr p (cv ++ siP f j)) ∧ Hid (Below w.heap.size w wr)) (fun i _ => 3 - (intOf i).toNat)
          case atStart => exact ⟨0, by omega, rfl, hide (by simpa [siP] using HO4.out), HB4⟩
          case round =>
            clear HO4 HB4
            obtain ⟨j, hj, rfl, HOJ, HBJ⟩ := hrel
            have hsj := HBJ.out.size
            have hjl : (cv ++ siP f j).length ≤ 1300000 := by
              have := siP_len hs2 hs3 hs4 j hj
              rw [List.length_append]
              omega
            by_cases hj3 : j < 3
            · have ix := fun W => idxAt f W hj3
              have hvs := at_size hs2 hs3 hs4 j
              have HSP := hide (siP_succ f j)
              obtain ⟨s, hsd⟩ : ∃ s, s = f.at j := ⟨_, rfl⟩
              rw [← hsd] at ix hvs HSP
              have dj : decide ((j : Int) < 3) = true := by simp; omega
              obtain ⟨W2, hW2⟩ : ∃ W2, W2 = wr.alloc (.cells #[.bool s.b, .string s.v] 73) := ⟨_, rfl⟩
              have b1 : Below w.heap.size w W2 := by rw [hW2]; exact HBJ.out.alloc hsj _
              have bb1 : Below wr.heap.size wr W2 := by rw [hW2]; exact (Below.refl _ wr).alloc (Nat.le_refl _) _
              have sz1 : W2.heap.size = wr.heap.size + 1 := by rw [hW2]; simp
              have kb1 : Ob W2 wr.heap.size 73 [.bool s.b, .string s.v] := by rw [hW2]; exact Ob.new wr [.bool s.b, .string s.v] _
              have yy0 := kb1.cell 0
              simp only [List.getElem?_cons_zero] at yy0
              obtain ⟨cw, hcw⟩ : ∃ cw, cw = cv ++ siP f j := ⟨_, rfl⟩
              rw [← hcw] at HOJ hjl
              have HTJ : Hid (cv ++ siP f (j + 1) = cw ++ flB s.b ++ (enc s.v.size ++ nums s.v)) := hide (by rw [HSP.out, hcw]; unfold siB; simp only [List.append_assoc])
              have HC5 := hide (wflag_o p cw s.b W2 (HOJ.out.old bb1) (by omega))
              have HBW1 := hide b1
              have HKB := hide kb1
              have HW2 := hide hW2
              rw [hW2] at HC5 yy0
              clear hcw b1 bb1 kb1 HOJ hsd HSP
              go_wp2_with fail
              refine HC5.out.mono ?_
              rintro en w5 ⟨rfl, o2, f2⟩
              rw [← hW2] at o2 f2
              have kb2 := HKB.out.onl f2 (fun q => by omega)
              have yy1 := kb2.cell 1
              simp only [List.getElem?_cons_zero, List.getElem?_cons_succ] at yy1
              have z2 := f2.size
              have hT2 : (cw ++ flB s.b).length ≤ 1400000 := by
                rw [List.length_append, flB_len]
                omega
              have HC6 := hide (wtext_o p (cw ++ flB s.b) s.v w5 o2 (by omega))
              have HB5 := hide (Below.onl HBW1.out f2 (fun i q => by omega) (Nat.le_refl _))
              clear HC5 o2 f2 kb2
              go_wp2_with fail
              refine HC6.out.mono ?_
              rintro en w6 ⟨rfl, o4, f4⟩
              have z4 := f4.size
              have HB6 := hide (Below.onl HB5.out f4 (fun i q => by
                rcases q with q | q
                · omega
                · have := HBW1.out.size; omega) (Nat.le_refl _))
              have HO6 : Hid (Wro (fun i => w.heap.size ≤ i ∧ i < w6.heap.size) w6 p (cv ++ siP f (j + 1))) := by
                refine hide ?_
                rw [HTJ.out]
                refine o4.mono (fun i q => ?_)
                have := HBW1.out.size
                rcases q with (q | q) | q
                · exact ⟨by omega, by omega⟩
                · exact ⟨by omega, by omega⟩
                · exact ⟨by omega, by omega⟩
              clear HC6 o4 f4 HB5 HBW1 HKB HTJ hW2 HW2 ix
              go_wp2
              go_roundw
              case rel => exact ⟨j + 1, by omega, by simp, HO6, HB6⟩
              case measure => simp [intOf]; omega
            · obtain rfl : j = 3 := by omega
              have HO7 : Hid (Wro (fun i => w.heap.size ≤ i ∧ i < wr.heap.size) wr p (P0 ++ (l.take (k + 1)).flatMap clB)) := hide (by rw [HTE.out]; exact HOJ.out)
              go_wp2
              go_roundw
              case rel => exact ⟨k + 1, by omega, by simp, HO7, HBJ⟩
              case measure => simp [intOf]; omega
        · obtain rfl : k = n := by omega
          have HND : Hid (P0 ++ (l.take k).flatMap clB = clsB l) := by
            refine hide ?_
            have e1 : l.take k = l := by rw [HN.out, List.take_length]
            rw [e1, HP0.out]
            unfold clsB
            rw [HN.out]
          obtain ⟨BB, hBB⟩ : ∃ BB, BB = clsB l := ⟨_, rfl⟩
          rw [HND.out, ← hBB] at HO hnl
          obtain ⟨_, v, hob, hrow⟩ := HO.out
          have HC7 := hide (wbytes_o p v BB wr hob hrow.1 (by omega))
          have HBB := hide hBB
          clear hob hrow HO hBB HND
          go_wp2_with fail
          refine HC7.out.mono ?_
          rintro en w5 ⟨v5, rfl, o5, b5⟩
          obtain ⟨a5, c5, hv5, _, _⟩ := own_form o5
          subst hv5
          have HF : Hid (PcP w l (.returned (.tuple #[.slice a5 BB.length c5, .int .i64 0])) w5) := by
            refine hide ?_
            unfold PcP
            rw [HX.out]
            exact ⟨.slice a5 BB.length c5, rfl, by simp only; rw [← HBB.out]; exact own_lower o5 hs, HB.out.trans (b5.mono hs)⟩
          clear HC7 o5 b5
          go_wp2
          refine bodyPost_ret (by simp [results, Try.results21, go_sem]; rfl) rfl ?_
          exact HF.out
  · have hz2 : (E != 0) = true := by simpa using h0
    have HX : Hid (putC l = ([], E)) := hide (by
      unfold putC
      rw [if_pos (by rw [← HE.out]; exact h0), ← HE.out])
    clear h0
    go_enter Try.func21, Try.ntmps21
    go_wp2_with fail
    refine HC.out.mono ?_
    rintro e w1 ⟨rfl, b1⟩
    have HF : Hid (PcP w l (.returned (.tuple #[.slice none 0 0, .int .i64 E])) w1) := by
      refine hide ?_
      unfold PcP
      rw [HX.out]
      exact ⟨.slice none 0 0, rfl, World.ownsRow_nil _ _ _ _, b1⟩
    clear b1 HC
    go_wp2
    refine bodyPost_ret (by simp [results, Try.results21, go_sem]; rfl) rfl ?_
    exact HF.out
end Go.Proofs.Ytgjhmpmjbedjoaa
