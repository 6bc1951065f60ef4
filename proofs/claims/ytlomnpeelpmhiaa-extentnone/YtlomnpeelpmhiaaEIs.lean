/- slices.Insert at rows of spans, over the translation. -/
import Derived.Test.YtlomnpeelpmhiaaEMe
import Derived.Test.YtlomnpeelpmhiaaRSp
import Derived.BigRegion
import Derived.Maps.AppendAt
namespace Go.Proofs.Ytlomnpeelpmhiaa
open Go.RowKit Apo
attribute [local go_sem ↓] Apo.app_exec Apo.cp_exec Apo.cl_exec

theorem rcells_take : ∀ (R : List (Nat × Nat)) (i : Nat), (rcells R).take (i * 2) = rcells (R.take i)
  | [], i => by simp [rcells]
  | x :: R, 0 => by simp [rcells]
  | x :: R, i + 1 => by
    rw [show (i + 1) * 2 = i * 2 + 1 + 1 by omega]
    simp only [rcells, List.take_succ_cons, rcells_take R i]
theorem rcells_drop : ∀ (R : List (Nat × Nat)) (i : Nat), (rcells R).drop (i * 2) = rcells (R.drop i)
  | [], i => by simp [rcells]
  | x :: R, 0 => by simp [rcells]
  | x :: R, i + 1 => by
    rw [show (i + 1) * 2 = i * 2 + 1 + 1 by omega]
    simp only [rcells, List.drop_succ_cons, rcells_drop R i]
theorem rcells_one : ∀ (R : List (Nat × Nat)), ∀ v ∈ rcells R, v.oneCell' = true
  | [], v, h => by simp [rcells] at h
  | x :: R, v, h => by
    simp only [rcells, List.mem_cons] at h
    rcases h with rfl | rfl | h
    · rfl
    · rfl
    · exact rcells_one R v h

section
variable {O : Nat → Prop} {w w' : World} {e : TypeId} {size n : Nat} {v : Value} {xs : List Value}
/-- an own row's whole block -/
theorem row_ob (h : Row O w e size v n xs) : (v = .slice none 0 0 ∧ n = 0 ∧ xs = []) ∨ ∃ g cap cur, v = .slice (some ⟨g, 0, none⟩) n cap ∧ O g ∧ Ob w g e cur ∧ n ≤ cap ∧ cap ≤ maxLen ∧ cur.length = cap * size ∧ cur.take (n * size) = xs := by
  rcases h.1.2 with ⟨rfl, hz⟩ | ⟨g, cap, cur, rfl, _, hg, h1, h2, h3, h4⟩
  · left
    refine ⟨rfl, hz, ?_⟩
    have := h.1.1
    rw [hz, Nat.zero_mul] at this
    exact List.eq_nil_of_length_eq_zero this
  · exact .inr ⟨g, cap, cur.toList, rfl, h.2 g rfl, hg, h1, h2, by simpa using h3, h4⟩
theorem ob_row {g cap : Nat} {cur : List Value} (hO : O g) (h : Ob w g e cur) (h1 : n ≤ cap) (h2 : cap ≤ maxLen) (h3 : cur.length = cap * size) (h4 : cur.take (n * size) = xs) : Row O w e size (.slice (some ⟨g, 0, none⟩) n cap) n xs := by
  refine ⟨⟨?_, .inr ⟨g, cap, cur.toArray, rfl, Nat.zero_le _, h, h1, h2, by simpa using h3, by simpa using h4⟩⟩, fun k hk => ?_⟩
  · rw [← h4, List.length_take, h3]
    exact Nat.min_eq_left (Nat.mul_le_mul_right _ h1)
  · simp only [Value.ownBlock, Option.some.injEq] at hk
    subst hk
    exact hO
end
theorem add_off (g o j : Nat) : (⟨g, o, none⟩ : Addr).add j = ⟨g, o + j, none⟩ := by unfold Addr.add; split <;> simp_all
/-- a block's cells, from a place on -/
theorem ob_src {w : World} {g t : Nat} {cur cs : List Value} {o : Nat} (h : Ob w g t cur) (hc : ∀ j v, cs[j]? = some v → cur[o + j]? = some v) : ∀ j v, cs[j]? = some v → w.cell? ((⟨g, o, none⟩ : Addr).add j) = some v := by
  intro j v hv
  rw [add_off, h.cell]
  exact hc j v hv
theorem over_no {w : World} {g h o o' la ca lb cb t t' : Nat} {cur cur' : List Value} (hne : g ≠ h) (hg : Ob w g t cur) (hh : Ob w h t' cur') (hc : cur'.length ≠ 0) :
    (callFunc 41 #[.slice (some ⟨g, o, none⟩) la ca, .slice (some ⟨h, o', none⟩) lb cb]).run Try.prog w = .ok (.value (.bool false)) w := by
  have hz : ∀ w, (Go.sizeOf 29).run Try.prog w = .ok 2 w := fun w => by kernel_rfl
  rw [run_callFunc_extern (P := Try.prog) (f := 41) Try.func41 (by kernel_rfl) (by kernel_rfl) (by kernel_rfl) (e := Extern.SlicesOverlaps.overlaps #[37, 37] #[4]) (by kernel_rfl),
    Lib.run_overlaps_apart w 37 4 29 Try.underlying37 2 hz ⟨g, o, none⟩ ⟨h, o', none⟩ la ca lb cb hne t t' cur.length cur'.length (by unfold World.shape?; rw [show w.heap[g]? = _ from hg]; simp) (by unfold World.shape?; rw [show w.heap[h]? = _ from hh]; simp) hc (hg.frozen _) (hg.frozen _)]
  rfl
theorem place2 {L A V B : List Value} {a b c : Nat} (ha : A.length = a) (hb : B.length = b) (hv : V.length = c) (hL : L.take (a + b) = A ++ B) (hl : a + c + b ≤ L.length) : (splice (splice L (a + c) B) a V).take (a + c + b) = A ++ (V ++ B) := by
  have hat : ∀ j, j < a + b → L[j]? = (A ++ B)[j]? := fun j hj => by rw [← hL, List.getElem?_take_of_lt hj]
  apply List.ext_getElem?
  intro j
  by_cases h : j < a + c + b
  · rw [List.getElem?_take_of_lt h, splice_at _ _ _ (by rw [length_splice _ _ _ (by omega)]; omega), splice_at _ _ _ (by omega)]
    by_cases h1 : j < a
    · rw [if_pos h1, if_pos (by omega), hat j (by omega), List.getElem?_append_left (by omega), List.getElem?_append_left (by omega)]
    · rw [if_neg h1, List.getElem?_append_right (by omega), ha]
      by_cases h2 : j < a + V.length
      · rw [if_pos h2, List.getElem?_append_left (by omega)]
      · rw [if_neg h2, if_neg (by omega), if_pos (by omega), List.getElem?_append_right (by omega)]
        congr 1
        omega
  · rw [List.getElem?_eq_none (by simp; omega), List.getElem?_eq_none (by simp; omega)]

set_option maxRecDepth 100000 in
set_option maxHeartbeats 4000000 in
theorem insert_nil {w w5 : World} {h m mc : Nat} {u : Value} (hm : 0 < m) (hm2 : m ≤ 16384) (q1 : AppRuns Try.prog w #[37, 37] 37 #[.slice none 0 0, .slice (some ⟨h, 0, none⟩) m mc])
    (q2 : appVal Try.prog w #[37, 37] 37 #[.slice none 0 0, .slice (some ⟨h, 0, none⟩) m mc] = u) (q3 : appWld Try.prog w #[37, 37] 37 #[.slice none 0 0, .slice (some ⟨h, 0, none⟩) m mc] = w5) :
    Calls Try.prog 40 #[.slice none 0 0, .int .i64 0, .slice (some ⟨h, 0, none⟩) m mc] w fun e w' => e = .returned u ∧ w' = w5 := by
  have hne : ((m : Int) == 0) = false := by simp; omega
  go_enter Try.func40, Try.ntmps40
  go_wp2
  go_ret
  exact ⟨rfl, rfl⟩
set_option maxRecDepth 100000 in
set_option maxHeartbeats 4000000 in
theorem insert_end {w w5 : World} {g n cap h m mc : Nat} {u : Value} (hm : 0 < m) (hm2 : m ≤ 16384) (_ : n ≤ cap) (_ : n ≤ 16384) (_ : cap ≤ 9223372036854775807) (q1 : AppRuns Try.prog w #[37, 37] 37 #[.slice (some ⟨g, 0, none⟩) n cap, .slice (some ⟨h, 0, none⟩) m mc])
    (q2 : appVal Try.prog w #[37, 37] 37 #[.slice (some ⟨g, 0, none⟩) n cap, .slice (some ⟨h, 0, none⟩) m mc] = u) (q3 : appWld Try.prog w #[37, 37] 37 #[.slice (some ⟨g, 0, none⟩) n cap, .slice (some ⟨h, 0, none⟩) m mc] = w5) :
    Calls Try.prog 40 #[.slice (some ⟨g, 0, none⟩) n cap, .int .i64 n, .slice (some ⟨h, 0, none⟩) m mc] w fun e w' => e = .returned u ∧ w' = w5 := by
  have hne : ((m : Int) == 0) = false := by simp; omega
  go_enter Try.func40, Try.ntmps40
  go_wp2 <;> (go_ret; exact ⟨rfl, rfl⟩)
set_option maxRecDepth 100000 in
set_option maxHeartbeats 4000000 in
theorem insert_grow {w w1 w2 w3 : World} {g n cap h m mc i J T k s2 c2 : Nat} {z1 z2 : Value} (hm : 0 < m) (hm2 : m ≤ 16384) (hi : i < n) (hn : n ≤ cap) (_ : n ≤ 16384) (_ : cap ≤ 9223372036854775807) (hg : cap < T) (hJT : J < T) (hT : T ≤ c2) (_ : T ≤ 32768) (_ : c2 ≤ 9223372036854775807)
    (eJ : IntKind.i64.wrap ((i : Int) + (m : Int)) = (J : Int)) (eT : IntKind.i64.wrap ((n : Int) + (m : Int)) = (T : Int)) (ek : IntKind.i64.wrap ((T : Int) - (i : Int)) = (k : Int))
    (q1 : AppRuns Try.prog w #[37, 3] 37 #[.slice (some ⟨g, 0, none⟩) i cap, .int .i64 k]) (q2 : appVal Try.prog w #[37, 3] 37 #[.slice (some ⟨g, 0, none⟩) i cap, .int .i64 k] = .slice (some ⟨s2, 0, none⟩) T c2) (q3 : appWld Try.prog w #[37, 3] 37 #[.slice (some ⟨g, 0, none⟩) i cap, .int .i64 k] = w1)
    (r1 : CpRuns Try.prog w1 #[37, 37] 3 #[.slice (some ⟨s2, i * 2, none⟩) (T - i) (c2 - i), .slice (some ⟨h, 0, none⟩) m mc]) (r2 : cpVal Try.prog w1 #[37, 37] 3 #[.slice (some ⟨s2, i * 2, none⟩) (T - i) (c2 - i), .slice (some ⟨h, 0, none⟩) m mc] = z1) (r3 : cpWld Try.prog w1 #[37, 37] 3 #[.slice (some ⟨s2, i * 2, none⟩) (T - i) (c2 - i), .slice (some ⟨h, 0, none⟩) m mc] = w2)
    (s1 : CpRuns Try.prog w2.drew #[37, 37] 3 #[.slice (some ⟨s2, J * 2, none⟩) (T - J) (c2 - J), .slice (some ⟨g, i * 2, none⟩) (n - i) (cap - i)]) (s2' : cpVal Try.prog w2.drew #[37, 37] 3 #[.slice (some ⟨s2, J * 2, none⟩) (T - J) (c2 - J), .slice (some ⟨g, i * 2, none⟩) (n - i) (cap - i)] = z2) (s3 : cpWld Try.prog w2.drew #[37, 37] 3 #[.slice (some ⟨s2, J * 2, none⟩) (T - J) (c2 - J), .slice (some ⟨g, i * 2, none⟩) (n - i) (cap - i)] = w3) :
    Calls Try.prog 40 #[.slice (some ⟨g, 0, none⟩) n cap, .int .i64 i, .slice (some ⟨h, 0, none⟩) m mc] w fun e w' => e = .returned (.slice (some ⟨s2, 0, none⟩) T c2) ∧ w' = w3 := by
  have hne : ((m : Int) == 0) = false := by simp; omega
  have hne2 : ((i : Int) == (n : Int)) = false := by simp; omega
  have ne1 : cap ≠ i := by omega
  have ne2 : c2 ≠ i := by omega
  have ne3 : c2 ≠ J := by omega
  go_enter Try.func40, Try.ntmps40
  go_wp2
  go_region
  go_wp2
  go_ret
  exact ⟨rfl, rfl⟩
set_option maxRecDepth 100000 in
set_option maxHeartbeats 4000000 in
theorem insert_room {w w2 w3 : World} {g n cap h m mc i J T : Nat} {z1 z2 : Value} (hm : 0 < m) (hm2 : m ≤ 16384) (hi : i < n) (hnT : n < T) (_ : n ≤ 16384) (_ : cap ≤ 9223372036854775807) (hg : T ≤ cap) (hJT : J < T) (hT2 : T ≤ 32768)
    (eJ : IntKind.i64.wrap ((i : Int) + (m : Int)) = (J : Int)) (eT : IntKind.i64.wrap ((n : Int) + (m : Int)) = (T : Int))
    (ov : (callFunc 41 #[.slice (some ⟨h, 0, none⟩) m mc, .slice (some ⟨g, J * 2, none⟩) (T - J) (cap - J)]).run Try.prog w = .ok (.value (.bool false)) w)
    (r1 : CpRuns Try.prog w.drew #[37, 37] 3 #[.slice (some ⟨g, J * 2, none⟩) (T - J) (cap - J), .slice (some ⟨g, i * 2, none⟩) (T - i) (cap - i)]) (r2 : cpVal Try.prog w.drew #[37, 37] 3 #[.slice (some ⟨g, J * 2, none⟩) (T - J) (cap - J), .slice (some ⟨g, i * 2, none⟩) (T - i) (cap - i)] = z1) (r3 : cpWld Try.prog w.drew #[37, 37] 3 #[.slice (some ⟨g, J * 2, none⟩) (T - J) (cap - J), .slice (some ⟨g, i * 2, none⟩) (T - i) (cap - i)] = w2)
    (s1 : CpRuns Try.prog w2 #[37, 37] 3 #[.slice (some ⟨g, i * 2, none⟩) (T - i) (cap - i), .slice (some ⟨h, 0, none⟩) m mc]) (s2' : cpVal Try.prog w2 #[37, 37] 3 #[.slice (some ⟨g, i * 2, none⟩) (T - i) (cap - i), .slice (some ⟨h, 0, none⟩) m mc] = z2) (s3 : cpWld Try.prog w2 #[37, 37] 3 #[.slice (some ⟨g, i * 2, none⟩) (T - i) (cap - i), .slice (some ⟨h, 0, none⟩) m mc] = w3) :
    Calls Try.prog 40 #[.slice (some ⟨g, 0, none⟩) n cap, .int .i64 i, .slice (some ⟨h, 0, none⟩) m mc] w fun e w' => e = .returned (.slice (some ⟨g, 0, none⟩) T cap) ∧ w' = w3 := by
  have hne : ((m : Int) == 0) = false := by simp; omega
  have hne2 : ((i : Int) == (n : Int)) = false := by simp; omega
  have ne1 : cap ≠ i := by omega
  have ne3 : cap ≠ J := by omega
  go_enter Try.func40, Try.ntmps40
  go_wp2
  go_region
  go_wp2
  go_ret
  exact ⟨rfl, rfl⟩

theorem span_size : (Try.prog.info? 29).map (·.size) = some 2 := by kernel_rfl
theorem wrap_nat {x : Int} {n : Nat} (h : x = n) (hn : n ≤ 9223372036854775807) : IntKind.i64.wrap x = (n : Int) := by rw [h, IntKind.wrap_i64]; omega
theorem row_src {R : List (Nat × Nat)} {cur : List Value} {n : Nat} (hn : n = R.length) (h : cur.take (n * 2) = rcells R) (j : Nat) : ∀ k u, (rcells (R.drop j))[k]? = some u → cur[j * 2 + k]? = some u := by
  intro k u hu
  have hk := (List.getElem?_eq_some_iff.1 hu).1
  rw [rcells_len, List.length_drop] at hk
  rw [← rcells_drop, List.getElem?_drop, ← h, List.getElem?_take_of_lt (by omega)] at hu
  exact hu
theorem row_pre {R : List (Nat × Nat)} {cur : List Value} {n : Nat} (hn : n = R.length) (h : cur.take (n * 2) = rcells R) {i : Nat} (hi : i ≤ n) : cur.take (i * 2) = rcells (R.take i) := by
  rw [← rcells_take, ← h, List.take_take, Nat.min_eq_left (by omega)]

theorem insert_any {O U : Nat → Prop} {w : World} {v vv : Value} {R V : List (Nat × Nat)} {i : Nat} (hr : Row O w 29 2 v R.length (rcells R)) (hv : Row U w 29 2 vv V.length (rcells V)) (hap : ∀ g, v.ownBlock = some g → vv.ownBlock ≠ some g)
    (hi : i ≤ R.length) (hV : 0 < V.length) (hVl : V.length ≤ 16384) (hRl : R.length ≤ 16384) :
    Calls Try.prog 40 #[v, .int .i64 i, vv] w fun e w' => ∃ u, e = .returned u ∧ Row (Gro O w w') w' 29 2 u (R.length + V.length) (rcells (R.take i ++ (V ++ R.drop i))) ∧ w.grownBy w' v.ownBlock := by
  obtain ⟨i0, hi0, hz0, hz1, hz2⟩ := info_parts info_span
  rcases row_ob hv with ⟨_, h0, _⟩ | ⟨h, vc, vcur, rfl, hUh, bV, hv1, hv2, hv3, hv4⟩
  · omega
  have hvsrc : ∀ j u, (rcells V)[j]? = some u → vcur[j]? = some u := fun j u hu => by
    have hj := (List.getElem?_eq_some_iff.1 hu).1
    rw [rcells_len] at hj
    rwa [← hv4, List.getElem?_take_of_lt hj] at hu
  have hnews : ∀ j u, (rcells V)[j]? = some u → w.cell? ((⟨h, 0, none⟩ : Addr).add j) = some u := ob_src bV (fun j u hu => by rw [Nat.zero_add]; exact hvsrc j u hu)
  have hlen : (rcells (R.take i ++ (V ++ R.drop i))).length = (R.length + V.length) * 2 := by
    rw [rcells_len]; simp; omega
  by_cases hin : i = R.length
  · subst hin
    obtain ⟨v5, w5, RR, r5, g5, _, ho5⟩ := run_append_own_at (P := Try.prog) w 0 37 37 29 i0 _ 2 16 Try.underlying37 hi0 hz0 hz1 hz2 rfl (by decide) v R.length (rcells R) hr.1 ⟨h, 0, none⟩ V.length vc (rcells V) (rcells_len V) hnews (rcells_one V) (by unfold maxLen; omega) (by omega) (Nat.zero_le _)
    obtain ⟨q1, q2, q3⟩ := app_runs RR
    have R5 : Row (Gro O w w5) w5 29 2 v5 (R.length + V.length) (rcells (R.take R.length ++ (V ++ R.drop R.length))) := by
      refine ⟨by rw [List.take_length, List.drop_length, List.append_nil, rcells_app]; exact r5, fun g hg => ?_⟩
      rcases ho5 with q | q
      · exact .inl (hr.2 g (q ▸ hg))
      · rw [q] at hg
        cases hg
        exact Gro.new (Nat.le_refl _) (r5.lt _ q).2
    rcases row_ob hr with ⟨rfl, h0, _⟩ | ⟨g, cap, cur, rfl, _, _, hr1, hr2, _, _⟩
    · rw [h0] at R5 ⊢
      exact (insert_nil hV hVl q1 q2 q3).mono (fun e w' ⟨h1, h2⟩ => by subst h2; exact ⟨v5, h1, R5, g5⟩)
    · exact (insert_end hV hVl hr1 hRl (by unfold maxLen at hr2; omega) q1 q2 q3).mono (fun e w' ⟨h1, h2⟩ => by subst h2; exact ⟨v5, h1, R5, g5⟩)
  · rcases row_ob hr with ⟨_, h0, _⟩ | ⟨g, cap, cur, rfl, hOg, bR, hr1, hr2, hr3, hr4⟩
    · omega
    have hgh : g ≠ h := fun e => hap g rfl (by rw [e]; rfl)
    have hcap : cap ≤ 9223372036854775807 := by unfold maxLen at hr2; omega
    have hsrcR := row_src rfl hr4 i
    have hpreR := row_pre rfl hr4 hi
    have hdl : (rcells (R.drop i)).length = (R.length - i) * 2 := by rw [rcells_len, List.length_drop]
    have htl : (rcells (R.take i)).length = i * 2 := by rw [rcells_len, List.length_take, Nat.min_eq_left hi]
    by_cases hroom : R.length + V.length ≤ cap
    · have bR1 : Ob w.drew g 29 cur := bR
      obtain ⟨w2, RA, o2, g2⟩ := run_copy_ob (P := Try.prog) (w := w.drew) (dT := 37) (sT := 37) (ty := 3) Try.underlying37 span_size g ((i + V.length) * 2) cur bR1 (some ⟨g, (i + V.length) * 2, none⟩) (some ⟨g, i * 2, none⟩) (R.length + V.length - (i + V.length)) (cap - (i + V.length)) (R.length + V.length - i) (cap - i) (rcells (R.drop i))
        (by rw [hdl]; congr 1; simp only [Nat.min_def]; split <;> omega) (fun _ => ⟨rfl, _, rfl, ob_src bR1 hsrcR⟩) (by decide) (by rw [hdl]; omega) (rcells_one _)
      have bV2 : Ob w2 h 29 vcur := Ob.kept (w := w.drew) bV g2 (fun e => hgh (Option.some.inj e))
      obtain ⟨w3, RB, o3, g3⟩ := run_copy_ob (P := Try.prog) (w := w2) (dT := 37) (sT := 37) (ty := 3) Try.underlying37 span_size g (i * 2) _ o2 (some ⟨g, i * 2, none⟩) (some ⟨h, 0, none⟩) (R.length + V.length - i) (cap - i) V.length vc (rcells V)
        (by rw [rcells_len]; congr 1; simp only [Nat.min_def]; split <;> omega) (fun _ => ⟨rfl, _, rfl, ob_src bV2 (fun j u hu => by rw [Nat.zero_add]; exact hvsrc j u hu)⟩) (by decide) (by rw [length_splice _ _ _ (by rw [hdl]; omega), rcells_len]; omega) (rcells_one _)
      obtain ⟨r1, r2, r3⟩ := cp_runs RA
      obtain ⟨s1, s2, s3⟩ := cp_runs RB
      have hfin : (splice (splice cur ((i + V.length) * 2) (rcells (R.drop i))) (i * 2) (rcells V)).take ((R.length + V.length) * 2) = rcells (R.take i ++ (V ++ R.drop i)) := by
        have := place2 (L := cur) (A := rcells (R.take i)) (V := rcells V) (B := rcells (R.drop i)) (a := i * 2) (b := (R.length - i) * 2) (c := V.length * 2) htl hdl (rcells_len V) (by rw [← rcells_app, List.take_append_drop, ← hr4]; congr 1; omega) (by omega)
        rw [rcells_app, rcells_app, ← this]
        congr 1
        · omega
        · congr 1
          congr 1
          omega
      have R3 : Row (Gro O w w3) w3 29 2 (.slice (some ⟨g, 0, none⟩) (R.length + V.length) cap) (R.length + V.length) (rcells (R.take i ++ (V ++ R.drop i))) :=
        ob_row (Gro.of g hOg) o3 hroom hr2 (by rw [length_splice _ _ _ (by rw [length_splice _ _ _ (by rw [hdl]; omega), rcells_len]; omega), length_splice _ _ _ (by rw [hdl]; omega)]; exact hr3) hfin
      have G3 : w.grownBy w3 (some g) := grew_trans (grew_trans (grew_below _ ((Below.refl _ w).drew)) g2) g3
      exact (insert_room hV hVl (by omega) (by omega) hRl hcap hroom (by omega) (by omega) (wrap_nat (n := i + V.length) (by omega) (by omega)) (wrap_nat (n := R.length + V.length) (by omega) (by omega)) (over_no (Ne.symm hgh) bV bR (by omega)) r1 r2 r3 s1 s2 s3).mono (fun e w' ⟨h1, h2⟩ => by subst h2; exact ⟨_, h1, R3, G3⟩)
    · obtain ⟨c2, w1, Z, RA, o1, hZ, hc1, hc2, b1, hz1'⟩ := run_append_zeros (P := Try.prog) (w := w) (t := 37) (tn := 3) (ty := 37) Try.underlying37 (by kernel_rfl) hi0 hz0 hz1 hz2 rfl (by decide) ⟨g, 0, none⟩ i cap (R.length + V.length - i) (rcells (R.take i)) htl
        (ob_src bR (fun j u hu => by
          have hj := (List.getElem?_eq_some_iff.1 hu).1
          rw [← hpreR, List.getElem?_take_of_lt (by omega)] at hu
          rw [Nat.zero_add]; exact hu)) (by omega) (by omega) (by unfold maxLen; omega) (by omega)
      have eT : i + (R.length + V.length - i) = R.length + V.length := by omega
      rw [eT] at RA hc1
      have bV1 : Ob w1 h 29 vcur := bV.old b1
      have bR1 : Ob w1 g 29 cur := bR.old b1
      have hgs : g ≠ w.heap.size := Nat.ne_of_lt bR.lt
      have hhs : h ≠ w.heap.size := Nat.ne_of_lt bV.lt
      have hzl : (rcells (R.take i) ++ Z).length = c2 * 2 := by rw [List.length_append]; omega
      obtain ⟨w2, RB, o2, g2⟩ := run_copy_ob (P := Try.prog) (w := w1) (dT := 37) (sT := 37) (ty := 3) Try.underlying37 span_size w.heap.size (i * 2) _ o1 (some ⟨w.heap.size, i * 2, none⟩) (some ⟨h, 0, none⟩) (R.length + V.length - i) (c2 - i) V.length vc (rcells V)
        (by rw [rcells_len]; congr 1; simp only [Nat.min_def]; split <;> omega) (fun _ => ⟨rfl, _, rfl, ob_src bV1 (fun j u hu => by rw [Nat.zero_add]; exact hvsrc j u hu)⟩) (by decide) (by rw [hzl, rcells_len]; omega) (rcells_one _)
      have bR2 : Ob w2.drew g 29 cur := Ob.kept (w := w1) (w' := w2) bR1 g2 (fun e => hgs (Option.some.inj e).symm)
      have hl2 : (splice (rcells (R.take i) ++ Z) (i * 2) (rcells V)).length = c2 * 2 := by rw [length_splice _ _ _ (by rw [hzl, rcells_len]; omega), hzl]
      obtain ⟨w3, RC, o3, g3⟩ := run_copy_ob (P := Try.prog) (w := w2.drew) (dT := 37) (sT := 37) (ty := 3) Try.underlying37 span_size w.heap.size ((i + V.length) * 2) _ o2 (some ⟨w.heap.size, (i + V.length) * 2, none⟩) (some ⟨g, i * 2, none⟩) (R.length + V.length - (i + V.length)) (c2 - (i + V.length)) (R.length - i) (cap - i) (rcells (R.drop i))
        (by rw [hdl]; congr 1; simp only [Nat.min_def]; split <;> omega) (fun _ => ⟨rfl, _, rfl, ob_src bR2 hsrcR⟩) (by decide) (by rw [hl2, hdl]; omega) (rcells_one _)
      obtain ⟨p1, p2, p3⟩ := app_runs RA
      obtain ⟨r1, r2, r3⟩ := cp_runs RB
      obtain ⟨s1, s2, s3⟩ := cp_runs RC
      have hfin : (splice (splice (rcells (R.take i) ++ Z) (i * 2) (rcells V)) ((i + V.length) * 2) (rcells (R.drop i))).take ((R.length + V.length) * 2) = rcells (R.take i ++ (V ++ R.drop i)) := by
        rw [rcells_app, rcells_app]
        apply List.ext_getElem?
        intro j
        have hvl := rcells_len V
        by_cases hj : j < (R.length + V.length) * 2
        · rw [List.getElem?_take_of_lt hj, splice_at _ _ _ (by rw [hl2, hdl]; omega), splice_at _ _ _ (by rw [hzl, rcells_len]; omega)]
          by_cases h1 : j < i * 2
          · rw [if_pos (by omega), if_pos h1, List.getElem?_append_left (by omega), List.getElem?_append_left (by omega)]
          · rw [List.getElem?_append_right (l₁ := rcells (R.take i)) (l₂ := rcells V ++ rcells (R.drop i)) (by omega), htl]
            by_cases h2 : j < (i + V.length) * 2
            · rw [if_pos h2, if_neg h1, if_pos (by omega), List.getElem?_append_left (by omega)]
            · rw [if_neg h2, if_pos (by omega), List.getElem?_append_right (by omega)]
              congr 1
              omega
        · rw [List.getElem?_eq_none (by simp; omega), List.getElem?_eq_none (by simp; omega)]
      have B2 : Below w.heap.size w w2 := b1.grown g2 b1.size (fun k hk => by cases hk; exact Nat.le_refl _)
      have B3 : Below w.heap.size w w3 := (B2.drew).grown g3 (by have := B2.size; simpa using this) (fun k hk => by cases hk; exact Nat.le_refl _)
      have R3 : Row (Gro O w w3) w3 29 2 (.slice (some ⟨w.heap.size, 0, none⟩) (R.length + V.length) c2) (R.length + V.length) (rcells (R.take i ++ (V ++ R.drop i))) :=
        ob_row (Gro.new (Nat.le_refl _) o3.lt) o3 hc1 hc2 (by rw [length_splice _ _ _ (by rw [hl2, hdl]; omega), hl2]) hfin
      exact (insert_grow hV hVl (by omega) hr1 hRl hcap (by omega) (by omega) hc1 (by omega) (by unfold maxLen at hc2; omega) (wrap_nat (n := i + V.length) (by omega) (by omega)) (wrap_nat (n := R.length + V.length) (by omega) (by omega)) (wrap_nat (n := R.length + V.length - i) (by omega) (by omega)) p1 p2 p3 r1 r2 r3 s1 s2 s3).mono (fun e w' ⟨h1, h2⟩ => by subst h2; exact ⟨_, h1, R3, grew_below _ B3⟩)
end Go.Proofs.Ytlomnpeelpmhiaa
