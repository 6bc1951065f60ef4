/- The document's PutState. Over the translation. -/
import Derived.Deep.RegionHeld3
import Derived.Test.YtgjhmpmjbedjoaaQSPu
import Derived.Test.YtgjhmpmjbedjoaaQCOf
namespace Go.Proofs.Ytgjhmpmjbedjoaa
open Go.RowKit Apo
/-- what the document's PutState answers, and its frame -/
def PdS (w : World) (s : Sv) (e : Ending) (w' : World) : Prop := ∃ v, e = .returned (.tuple #[v, .int .i64 (putS s).2]) ∧ RwB w.heap.size w' v (putS s).1 ∧ Below w.heap.size w w'
theorem putS_bad {s : Sv} (h : stateE s ≠ 0 ∨ (putC s.cl).2 ≠ 0) : putS s = ([], 150) := by unfold putS; rw [if_pos h]
theorem putS_ok {s : Sv} (h1 : stateE s = 0) (h2 : (putC s.cl).2 = 0) : putS s = (stB s, 0) := by
  unfold putS
  rw [if_neg]
  rintro (q | q)
  · exact q h1
  · exact q h2
theorem pdS_bad {w w' : World} {s : Sv} (h : stateE s ≠ 0 ∨ (putC s.cl).2 ≠ 0) (b : Below w.heap.size w w') : PdS w s (.returned (.tuple #[.slice none 0 0, .int .i64 150])) w' := by
  unfold PdS
  rw [putS_bad h]
  exact ⟨.slice none 0 0, rfl, row_nilU _ _, b⟩
theorem n4_at (s : Sv) {j : Nat} (h : j < 4) : ∃ z, (n4 s)[j]? = some z := ⟨(n4 s)[j]'(by simpa [n4] using h), List.getElem?_eq_getElem _⟩
set_option maxRecDepth 100000 in
set_option maxHeartbeats 32000000 in
theorem rput_state (x : SvA) (w : World) (h : SvR w x) (hlc : x.s.cl.length ≤ 1000000) :
    Calls Try.prog 9 #[.agg (cSv x).toArray] w (PdS w x.s) := by
  obtain ⟨s, ra, rc, ma, mc, ca, cc⟩ := x
  have HST := hide (fun W (b : Below w.heap.size w W) => rstate_any ⟨s, ra, rc, ma, mc, ca, cc⟩ W (h.below b) hlc)
  unfold cSv at HST ⊢
  simp only at hlc HST ⊢
  have HX := hide h
  have HPC := hide (fun W (b : Below w.heap.size w W) => rput_cls W ca cc s.cl (h.cr.below b) hlc h.cz)
  have hb1 : s.rf.length ≤ 9223372036854775807 := by have := h.rl; simp only at this; unfold maxLen at this; omega
  have hb2 : s.md.length ≤ 9223372036854775807 := by have := h.ml; simp only at this; unfold maxLen at this; omega
  obtain ⟨n1, hn1⟩ : ∃ n, n = s.rf.length := ⟨_, rfl⟩
  obtain ⟨n2, hn2⟩ : ∃ n, n = s.md.length := ⟨_, rfl⟩
  obtain ⟨n3, hn3⟩ : ∃ n, n = s.cl.length := ⟨_, rfl⟩
  rw [← hn1, ← hn2, ← hn3]
  rw [← hn1, ← hn2, ← hn3] at HST
  rw [← hn3] at HPC
  rw [← hn1] at hb1
  rw [← hn2] at hb2
  have HN1 := hide hn1
  have HN2 := hide hn2
  have bA : Below w.heap.size w (w.alloc (.cells #[.string s.hd, .int .u64 s.wk, .int .u64 s.nx, .int .u64 s.pd, .slice ra n1 rc, .slice ma n2 mc, .slice ca n3 cc] 27)) := (Below.refl _ w).alloc (Nat.le_refl _) _
  have HBA := hide bA
  have HK := hide (Ob.new w [.string s.hd, .int .u64 s.wk, .int .u64 s.nx, .int .u64 s.pd, .slice ra n1 rc, .slice ma n2 mc, .slice ca n3 cc] 27)
  obtain ⟨E, hE⟩ : ∃ E, E = stateE s := ⟨_, rfl⟩
  rw [← hE] at HST
  have HE := hide hE
  clear h hn1 hn2 hn3 bA hE
  go_enter Try.func9, Try.ntmps9
  go_wp2_with fail
  refine (HPC.out _ HBA.out).mono ?_
  rintro e w1 ⟨vc, rfl, oc, b1⟩
  obtain ⟨C, hC⟩ : ∃ C, C = putC s.cl := ⟨_, rfl⟩
  rw [← hC] at oc ⊢
  have HC := hide hC
  obtain ⟨va, vn, vcc, rfl⟩ := RwB.form oc
  have oc : RwB w.heap.size w1 (.slice va vn vcc) C.1 := Row.mono oc (fun i q => ⟨by have := q.1; simp at this; omega, q.2⟩)
  have HB1 := hide (HBA.out.trans (b1.mono HBA.out.size))
  have HK1 := hide (HK.out.old b1)
  have HOC := hide oc
  have x0 := HK1.out.cell 0
  have x1 := HK1.out.cell 1
  have x2 := HK1.out.cell 2
  have x3 := HK1.out.cell 3
  have x4 := HK1.out.cell 4
  have x5 := HK1.out.cell 5
  have x6 := HK1.out.cell 6
  simp only [List.getElem?_cons_zero, List.getElem?_cons_succ] at x0 x1 x2 x3 x4 x5 x6
  have HSC := hide (HST.out _ HB1.out)
  clear oc b1 hC HPC HST HBA HK
  go_wp2_with fail
  refine HSC.out.mono ?_
  rintro e w2 ⟨rfl, b2⟩
  have HB2 := hide (HB1.out.trans (b2.mono HB1.out.size))
  have HK2 := hide (HK1.out.old b2)
  have HOC2 := hide (RwB.old HOC.out b2)
  clear b2 x0 x1 x2 x3 x4 x5 x6 HSC HB1 HK1 HOC
  by_cases hE0 : E = 0
  rotate_left
  · have d1 : (E != 0) = true := by simpa using hE0
    have HF := hide (pdS_bad (s := s) (.inl (by rw [← HE.out]; exact hE0)) HB2.out)
    clear hE0
    go_wp2
    refine bodyPost_ret (by simp [results, Try.results9, go_sem]; rfl) rfl ?_
    exact HF.out
  by_cases hC0 : C.2 = 0
  rotate_left
  · have d1 : (E != 0) = false := by simpa using hE0
    have d2 : (C.2 != 0) = true := by simpa using hC0
    have HF := hide (pdS_bad (s := s) (.inr (by rw [← HC.out]; exact hC0)) HB2.out)
    clear hE0 hC0
    go_wp2
    refine bodyPost_ret (by simp [results, Try.results9, go_sem]; rfl) rfl ?_
    exact HF.out
  have d1 : (E != 0) = false := by simpa using hE0
  have d2 : (C.2 != 0) = false := by simpa using hC0
  have HOK : Hid (putS s = (stB s, 0)) := hide (putS_ok (by rw [← HE.out]; exact hE0) (by rw [← HC.out]; exact hC0))
  obtain ⟨hs1, hs2, hs3, hs4, _⟩ := stateE_small (s := s) (by rw [← HE.out]; exact hE0)
  have hcl : C.1.length ≤ 1000010 := by rw [HC.out]; exact putC_zero (by rw [← HC.out]; exact hC0)
  have HS4 := hide hs4
  have hn1 : n1 ≤ 40 := by have := HN1.out; omega
  have hn2 : n2 ≤ 200 := by have := HN2.out; omega
  obtain ⟨C1, C2⟩ := C
  simp only at hC0 d2 hcl HOC2 ⊢
  clear hs2 hs3 hs4 hE0 hC0
  obtain ⟨D, hD⟩ : ∃ D, D = w2.heap.size := ⟨_, rfl⟩
  have HD := hide hD
  have y0 := HK2.out.cell 0
  simp only [List.getElem?_cons_zero] at y0
  have HC3 := hide (text_o (O := fun i => D ≤ i ∧ i < w2.heap.size) (.slice none 0 0) [] s.hd w2 (row_nilU _ _) (by simp; omega))
  clear hD
  go_wp2_with fail
  refine HC3.out.mono ?_
  rintro e w3 ⟨v3, rfl, o3, f3⟩
  have hel := enc_len s.hd.size
  obtain ⟨T0, hT0⟩ : ∃ T0, T0 = enc s.hd.size ++ nums s.hd := ⟨_, rfl⟩
  have HT0 := hide hT0
  have hT0l : T0.length ≤ 40 := by rw [hT0, List.length_append, nums_length]; omega
  rw [List.nil_append, ← hT0] at o3
  have HBD3 : Hid (Below D w2 w3) := hide (by rw [HD.out]; exact f3.toBelow (fun i q => by rw [← HD.out]; exact q.1) (Nat.le_refl _))
  have s3 := f3.size
  have HO3 : Hid (Row (fun i => D ≤ i ∧ i < w3.heap.size) w3 5 1 v3 T0.length (T0.map (Value.int .u8))) := hide (o3.mono (fun i q => by
    rcases q with q | q
    · exact ⟨q.1, by omega⟩
    · exact ⟨by have := HD.out; omega, q.2⟩))
  obtain ⟨ta, tc, hv3, _⟩ := HO3.out.form
  subst hv3
  have HK3 : Hid (∀ W, Below D w2 W → Ob W w.heap.size 27 [.string s.hd, .int .u64 s.wk, .int .u64 s.nx, .int .u64 s.pd, .slice ra n1 rc, .slice ma n2 mc, .slice ca n3 cc]) := hide (fun W b => HK2.out.old (by rw [← HD.out]; exact b))
  have HW3 : Hid (∀ W, Below D w2 W → Below w.heap.size w W) := hide (fun W b => HB2.out.trans (b.mono (by rw [HD.out]; exact HB2.out.size)))
  have HOC3 : Hid (∀ W, Below D w2 W → RwB w.heap.size W (.slice va vn vcc) C1) := hide (fun W b => (RwB.old HOC2.out (by rw [← HD.out]; exact b)))
  have k3 := HK3.out _ HBD3.out
  have z1 := k3.cell 1
  have z2 := k3.cell 2
  have z3 := k3.cell 3
  have z4 := k3.cell 4
  simp only [List.getElem?_cons_zero, List.getElem?_cons_succ] at z1 z2 z3 z4
  have hwn : IntKind.u64.wrap (n1 : Int) = (n1 : Int) := by rw [IntKind.wrap_u64]; omega
  have hbz : ∀ z ∈ n4 s, u64B z := by
    have hz := HX.out.nz
    simp only at hz
    intro z hz2
    simp only [n4, List.mem_cons, List.not_mem_nil, or_false] at hz2
    rcases hz2 with rfl | rfl | rfl | rfl
    · exact hz.1
    · exact hz.2.1
    · exact hz.2.2
    · have := HN1.out
      exact ⟨by omega, by omega⟩
  have HBZ := hide hbz
  have e4 : (n4 s).map (Value.int .u64) = [.int .u64 s.wk, .int .u64 s.nx, .int .u64 s.pd, .int .u64 (n1 : Int)] := by unfold n4; rw [← HN1.out]; rfl
  have bN : Below w3.heap.size w3 (w3.alloc (.cells #[.int .u64 s.wk, .int .u64 s.nx, .int .u64 s.pd, .int .u64 (n1 : Int)] 22)) := (Below.refl _ _).alloc (Nat.le_refl _) _
  have HKN : Hid (Ob (w3.alloc (.cells #[.int .u64 s.wk, .int .u64 s.nx, .int .u64 s.pd, .int .u64 (n1 : Int)] 22)) w3.heap.size 22 ((n4 s).map (Value.int .u64))) := hide (by rw [e4]; exact Ob.new w3 _ _)
  have hDw : D ≤ w3.heap.size := HBD3.out.size |> fun h => by have := HD.out; omega
  have HBD4 := hide (HBD3.out.trans (bN.mono hDw))
  have HO4 : Hid (Row (fun i => D ≤ i ∧ i < (w3.alloc (.cells #[.int .u64 s.wk, .int .u64 s.nx, .int .u64 s.pd, .int .u64 (n1 : Int)] 22)).heap.size ∧ i ≠ w3.heap.size) (w3.alloc (.cells #[.int .u64 s.wk, .int .u64 s.nx, .int .u64 s.pd, .int .u64 (n1 : Int)] 22)) 5 1 (.slice ta T0.length tc) T0.length (T0.map (Value.int .u8))) := hide ((Row.onl (F := fun _ => False) HO3.out (Onl.ofBelow bN) (fun _ _ q => q)).mono (fun i q => ⟨q.1, by have := q.2; simp; omega, by have := q.2; omega⟩))
  obtain ⟨q4, hq4⟩ : ∃ q4, q4 = w3.heap.size := ⟨_, rfl⟩
  rw [← hq4] at HKN HO4
  have hDq : D ≤ q4 := by omega
  obtain ⟨tn, htn⟩ : ∃ tn, tn = T0.length := ⟨_, rfl⟩
  rw [← htn] at hT0l ⊢
  rw [← htn] at HO4
  have HTN := hide htn
  clear o3 f3 hT0 hel HC3 y0 k3 HK2 HB2 HOC2 bN hbz e4 HO3 htn
  go_wp2
  rw [← hq4]
  clear hq4 z1 z2 z3 z4
  go_loopw [6, 41] (fun v i wr => ∃ j : Nat, j ≤ 4 ∧ i = .int .i64 j ∧ (∃ a n c, v = .slice a n c) ∧ Hid (Row (fun i => D ≤ i ∧ i < wr.heap.size ∧ i ≠ q4) wr 5 1 v (T0 ++ ((n4 s).take j).flatMap (fun z => enc z.toNat)).length ((T0 ++ ((n4 s).take j).flatMap (fun z => enc z.toNat)).map (Value.int .u8))) ∧ Hid (Ob wr q4 22 ((n4 s).map (Value.int .u64))) ∧ Hid (Below D w2 wr)) (fun _ i _ => 4 - (intOf i).toNat)
  case atStart => exact ⟨0, by omega, rfl, ⟨_, _, _, rfl⟩, hide (by rw [List.take_zero, List.flatMap_nil, List.append_nil, ← HTN.out]; exact HO4.out), HKN, HBD4⟩
  case round =>
    clear HO4 HBD4 HKN HBD3 s3 hDw
    obtain ⟨j, hj, rfl, ⟨ta, tm, tc, rfl⟩, HO, HKN, HBD⟩ := hrel
    have hq4l := HKN.out.lt
    have hwD : D ≤ wr.heap.size := by omega
    have hcl4 : (T0 ++ ((n4 s).take j).flatMap (fun z => enc z.toNat)).length ≤ 100 := by
      have h1 : (((n4 s).take j).flatMap (fun z => enc z.toNat)).length ≤ 10 * ((n4 s).take j).length := flat_lenG (fun z _ => (enc_len z.toNat).2)
      have h2 : ((n4 s).take j).length ≤ j := List.length_take_le _ _
      have := HTN.out
      rw [List.length_append]
      omega
    by_cases hj4 : j < 4
    · obtain ⟨z, hz⟩ := n4_at s hj4
      have hzb := HBZ.out z (List.mem_of_getElem? hz)
      have c0 := HKN.out.cell j
      rw [List.getElem?_map, hz] at c0
      simp only [Option.map_some] at c0
      have HTE : Hid (T0 ++ ((n4 s).take (j + 1)).flatMap (fun z => enc z.toNat) = T0 ++ ((n4 s).take j).flatMap (fun z => enc z.toNat) ++ enc z.toNat) := hide (by rw [List.take_add_one, hz]; simp)
      have HC5 := hide (num_o (O := fun i => D ≤ i ∧ i < wr.heap.size ∧ i ≠ q4) _ (T0 ++ ((n4 s).take j).flatMap (fun z => enc z.toNat)) z wr HO.out (by omega) hzb.1 hzb.2)
      generalize T0 ++ ((n4 s).take j).flatMap (fun z => enc z.toNat) = cu at HTE HC5
      have dj : decide ((j : Int) < 4) = true := by simp; omega
      clear HO hz hcl4
      go_wp2_with fail
      refine HC5.out.mono ?_
      rintro en w5 ⟨v5, rfl, o5, f5⟩
      have z5 := f5.size
      have HB5 := hide (Below.onl HBD.out f5 (fun i q => q.1) (by have := HD.out; omega))
      have HK5 := hide (HKN.out.onl f5 (fun q => q.2.2 rfl))
      have HO5 : Hid (Row (fun i => D ≤ i ∧ i < w5.heap.size ∧ i ≠ q4) w5 5 1 v5 (T0 ++ ((n4 s).take (j + 1)).flatMap (fun z => enc z.toNat)).length ((T0 ++ ((n4 s).take (j + 1)).flatMap (fun z => enc z.toNat)).map (Value.int .u8))) := hide (by
        rw [HTE.out]
        exact o5.mono (fun i q => by
          rcases q with q | q
          · exact ⟨q.1, by omega, q.2.2⟩
          · exact ⟨by omega, q.2, by omega⟩))
      obtain ⟨va5, vc5, hv, _⟩ := HO5.out.form
      generalize (T0 ++ ((n4 s).take (j + 1)).flatMap (fun z => enc z.toNat)).length = vn5 at hv
      subst hv
      clear HC5 o5 f5 HBD HKN HTE c0
      go_wp2
      go_roundw
      case rel => exact ⟨j + 1, by omega, by simp, ⟨_, _, _, rfl⟩, HO5, HK5, HB5⟩
      case measure => simp [intOf]; omega
    · have dj : decide ((j : Int) < 4) = false := by simp; omega
      have ht4 : (n4 s).take j = n4 s := by rw [show j = 4 by omega]; rfl
      rw [ht4] at HO hcl4
      obtain ⟨T1, hT1⟩ : ∃ T1, T1 = T0 ++ (n4 s).flatMap (fun z => enc z.toNat) := ⟨_, rfl⟩
      rw [← hT1] at HO hcl4
      have HT1 := hide hT1
      have HO1 : Hid (Row (fun i => D ≤ i ∧ i < wr.heap.size) wr 5 1 (.slice ta tm tc) T1.length (T1.map (Value.int .u8))) := hide (HO.out.mono (fun i q => ⟨q.1, q.2.1⟩))
      have k4 := HK3.out _ HBD.out
      have a4 := k4.cell 4
      simp only [List.getElem?_cons_zero, List.getElem?_cons_succ] at a4
      clear HO HKN hT1 k4 ht4 hq4l hDq
      go_wp2
      clear a4
      go_loopw [6, 52] (fun v i wr => ∃ k : Nat, k ≤ n1 ∧ i = .int .i64 k ∧ (∃ a n c, v = .slice a n c) ∧ Hid (Row (fun i => D ≤ i ∧ i < wr.heap.size) wr 5 1 v (T1 ++ (s.rf.take k).flatMap rfB).length ((T1 ++ (s.rf.take k).flatMap rfB).map (Value.int .u8))) ∧ Hid (Below D w2 wr)) (fun _ i _ => n1 - (intOf i).toNat)
      case atStart => exact ⟨0, Nat.zero_le _, rfl, ⟨_, _, _, rfl⟩, hide (by rw [List.take_zero, List.flatMap_nil, List.append_nil]; exact HO1.out), HBD⟩
      case round =>
        clear HO1 HBD hwD
        obtain ⟨k, hk, rfl, ⟨ta, tm, tc, rfl⟩, HO, HBD⟩ := hrel
        have hDs := HBD.out.size
        have hcl5 : (T1 ++ (s.rf.take k).flatMap rfB).length ≤ 2600 := by
          have h1 : ((s.rf.take k).flatMap rfB).length ≤ 60 * (s.rf.take k).length := flat_lenG (fun r hr => rfB_len (HS4.out r (List.mem_of_mem_take hr)))
          have h2 : (s.rf.take k).length ≤ k := List.length_take_le _ _
          rw [List.length_append]
          omega
        by_cases hlt : k < n1
        · obtain ⟨r, hr⟩ : ∃ r, s.rf[k]? = some r := ⟨s.rf[k]'(by have := HN1.out; omega), List.getElem?_eq_getElem _⟩
          have hrm := List.mem_of_getElem? hr
          have hrn := HS4.out r hrm
          have hri := HX.out.ri r hrm
          obtain ⟨g, o, rfl, c0, c1, c2⟩ := rd_rf (HX.out.below (HW3.out _ HBD.out)).rr hr
          have HTE : Hid (T1 ++ (s.rf.take (k + 1)).flatMap rfB = T1 ++ (s.rf.take k).flatMap rfB ++ rfB r) := hide (by rw [List.take_add_one, hr]; simp)
          obtain ⟨W1, hW1⟩ : ∃ W1, W1 = wr.alloc (.cells #[.string r.n, .bool r.t, .int .u64 r.i] 57) := ⟨_, rfl⟩
          have bb1 : Below wr.heap.size wr W1.drew := by rw [hW1]; exact ((Below.refl _ wr).alloc (Nat.le_refl _) _).drew
          have kr : Ob W1.drew wr.heap.size 57 [.string r.n, .bool r.t, .int .u64 r.i] := by rw [hW1]; exact (Ob.new wr [.string r.n, .bool r.t, .int .u64 r.i] _).old ((Below.refl _ _).drew)
          have sz1 : W1.drew.heap.size = wr.heap.size + 1 := by rw [hW1]; simp
          have hwD : D ≤ wr.heap.size := by have := HD.out; omega
          obtain ⟨cu, hcu⟩ : ∃ cu, cu = T1 ++ (s.rf.take k).flatMap rfB := ⟨_, rfl⟩
          rw [← hcu] at HO hcl5 HTE
          have HC5 := hide (tfn (O := fun i => D ≤ i ∧ i < wr.heap.size) (.slice ta tm tc) cu r W1.drew wr.heap.size (Row.onl (F := fun _ => False) HO.out (Onl.ofBelow bb1) (fun _ _ q => q)) (by omega) (by omega) hri kr (fun q => by omega))
          have HBD5 := hide (HBD.out.trans (bb1.mono hwD))
          have x0 := kr.cell 0
          have x1 := kr.cell 1
          have x2 := kr.cell 2
          simp only [List.getElem?_cons_zero, List.getElem?_cons_succ] at x0 x1 x2
          rw [hW1] at HC5 x0 x1 x2
          have HSZ := hide sz1
          clear hr hrm hcu bb1 kr sz1 HO
          go_wp2
          go_region_held3 (fun W' => W'.cell? ⟨wr.heap.size, 0, none⟩ = some (.string r.n) ∧ W'.cell? ⟨wr.heap.size, 1, none⟩ = some (.bool r.t) ∧ W'.cell? ⟨wr.heap.size, 2, none⟩ = some (.int .u64 r.i)) (go_keep) (first
            | (go_at_call 27; (with_reducible refine HC5.out.mono ?_); rintro en w5 ⟨ga, gn, gc, rfl, ⟨z0, z1, z2⟩, HC6⟩)
            | (go_at_call 29; (with_reducible refine HC6.out.mono ?_); rintro en w6 ⟨ka, kn, kc, rfl, ⟨t0, t1, t2⟩, HC7⟩)
            | (go_at_call 28; (with_reducible refine HC7.out.mono ?_); rintro en w7 ⟨la, ln, lc, rfl, ⟨u0, u1, u2⟩, HO7⟩))
          obtain ⟨o7, f7⟩ := HO7.out
          rw [← hW1] at o7 f7
          have z7 := f7.size
          have HB7 := hide (Below.onl HBD5.out f7 (fun i q => q.1) (by have := HD.out; omega))
          have HO8 : Hid (Row (fun i => D ≤ i ∧ i < w7.heap.size) w7 5 1 (.slice la ln lc) (T1 ++ (s.rf.take (k + 1)).flatMap rfB).length ((T1 ++ (s.rf.take (k + 1)).flatMap rfB).map (Value.int .u8))) := hide (by
            rw [HTE.out]
            have sz := HSZ.out
            exact o7.mono (fun i q => by
              rcases q with q | q
              · exact ⟨q.1, by omega⟩
              · exact ⟨by omega, q.2⟩))
          clear HC5 HC6 HC7 HO7 o7 f7 HBD HTE c0 c1 c2 z0 z1 z2 t0 t1 t2 u0 u1 u2 x0 x1 x2 hW1 HSZ
          go_wp2
          go_roundw
          case rel => exact ⟨k + 1, by omega, by simp, ⟨_, _, _, rfl⟩, HO8, HB7⟩
          case measure => simp [intOf]; omega
        · obtain rfl : k = n1 := by omega
          have ht5 : s.rf.take k = s.rf := by rw [HN1.out, List.take_length]
          rw [ht5] at HO hcl5
          obtain ⟨T2, hT2⟩ : ∃ T2, T2 = T1 ++ s.rf.flatMap rfB := ⟨_, rfl⟩
          rw [← hT2] at HO hcl5
          have HT2 := hide hT2
          have k5 := HK3.out _ HBD.out
          have a5 := k5.cell 5
          simp only [List.getElem?_cons_zero, List.getElem?_cons_succ] at a5
          have hwn2 : IntKind.u64.wrap (n2 : Int) = (n2 : Int) := by rw [IntKind.wrap_u64]; omega
          have HC8 := hide (num_o (O := fun i => D ≤ i ∧ i < wr.heap.size) (.slice ta tm tc) T2 (n2 : Int) wr HO.out (by omega) (by omega) (by omega))
          clear HO k5 hT2 ht5
          go_wp2_with fail
          refine HC8.out.mono ?_
          rintro en w8 ⟨v8, rfl, o8, f8⟩
          have z8 := f8.size
          have HB8 := hide (Below.onl HBD.out f8 (fun i q => q.1) (by have := HD.out; omega))
          rw [Int.toNat_natCast] at o8
          obtain ⟨T3, hT3⟩ : ∃ T3, T3 = T2 ++ enc n2 := ⟨_, rfl⟩
          have hel2 := enc_len n2
          have hT3l : T3.length ≤ 2700 := by rw [hT3, List.length_append]; omega
          rw [← hT3] at o8
          have HT3 := hide hT3
          have hwD : D ≤ wr.heap.size := by have := HD.out; omega
          have HO8 : Hid (Row (fun i => D ≤ i ∧ i < w8.heap.size) w8 5 1 v8 T3.length (T3.map (Value.int .u8))) := hide (o8.mono (fun i q => by
            rcases q with q | q
            · exact ⟨q.1, by omega⟩
            · exact ⟨by omega, q.2⟩))
          obtain ⟨va8, vc8, hv, _⟩ := HO8.out.form
          obtain ⟨vn8, hvn8⟩ : ∃ vn8, vn8 = T3.length := ⟨_, rfl⟩
          rw [← hvn8] at hv
          subst hv
          have k8 := HK3.out _ HB8.out
          have b5 := k8.cell 5
          simp only [List.getElem?_cons_zero, List.getElem?_cons_succ] at b5
          clear HC8 o8 f8 hT3 hel2 k8 HBD a5 hvn8
          go_wp2
          clear b5
          go_loopw [6, 76] (fun v i wr => ∃ k : Nat, k ≤ n2 ∧ i = .int .i64 k ∧ (∃ a n c, v = .slice a n c) ∧ Hid (Row (fun i => D ≤ i ∧ i < wr.heap.size) wr 5 1 v (T3 ++ (s.md.take k).flatMap mdB).length ((T3 ++ (s.md.take k).flatMap mdB).map (Value.int .u8))) ∧ Hid (Below D w2 wr)) (fun _ i _ => n2 - (intOf i).toNat)
          case atStart => exact ⟨0, Nat.zero_le _, rfl, ⟨_, _, _, rfl⟩, hide (by rw [List.take_zero, List.flatMap_nil, List.append_nil]; exact HO8.out), HB8⟩
          case round =>
            clear HO8 HB8 hwD hDs z8
            obtain ⟨k2, hk2, rfl, ⟨ta, tm, tc, rfl⟩, HO, HBD⟩ := hrel
            have hDs := HBD.out.size
            have hcl6 : (T3 ++ (s.md.take k2).flatMap mdB).length ≤ 6800 := by
              have h1 : ((s.md.take k2).flatMap mdB).length ≤ 20 * (s.md.take k2).length := flat_lenG (fun m _ => mdB_len m)
              have h2 : (s.md.take k2).length ≤ k2 := List.length_take_le _ _
              rw [List.length_append]
              omega
            by_cases hlt2 : k2 < n2
            · obtain ⟨m, hm⟩ : ∃ m, s.md[k2]? = some m := ⟨s.md[k2]'(by have := HN2.out; omega), List.getElem?_eq_getElem _⟩
              have hmm := HX.out.mi m (List.mem_of_getElem? hm)
              obtain ⟨g, o, rfl, c0, c1⟩ := rd_mk (HX.out.below (HW3.out _ HBD.out)).mr hm
              have HTE : Hid (T3 ++ (s.md.take (k2 + 1)).flatMap mdB = T3 ++ (s.md.take k2).flatMap mdB ++ mdB m) := hide (by rw [List.take_add_one, hm]; simp)
              obtain ⟨W1, hW1⟩ : ∃ W1, W1 = wr.alloc (.cells #[.int .u64 m.id, .int .u64 m.ch] 60) := ⟨_, rfl⟩
              have bb1 : Below wr.heap.size wr W1.drew := by rw [hW1]; exact ((Below.refl _ wr).alloc (Nat.le_refl _) _).drew
              have kr : Ob W1.drew wr.heap.size 60 [.int .u64 m.id, .int .u64 m.ch] := by rw [hW1]; exact (Ob.new wr [.int .u64 m.id, .int .u64 m.ch] _).old ((Below.refl _ _).drew)
              have sz1 : W1.drew.heap.size = wr.heap.size + 1 := by rw [hW1]; simp
              have hwD : D ≤ wr.heap.size := by have := HD.out; omega
              obtain ⟨cu, hcu⟩ : ∃ cu, cu = T3 ++ (s.md.take k2).flatMap mdB := ⟨_, rfl⟩
              rw [← hcu] at HO hcl6 HTE
              have HC5 := hide (nn2 (O := fun i => D ≤ i ∧ i < wr.heap.size) (.slice ta tm tc) cu m W1.drew wr.heap.size (Row.onl (F := fun _ => False) HO.out (Onl.ofBelow bb1) (fun _ _ q => q)) (by omega) hmm kr (fun q => by omega))
              have HBD5 := hide (HBD.out.trans (bb1.mono hwD))
              have x0 := kr.cell 0
              have x1 := kr.cell 1
              simp only [List.getElem?_cons_zero, List.getElem?_cons_succ] at x0 x1
              rw [hW1] at HC5 x0 x1
              have HSZ := hide sz1
              clear hm hcu bb1 kr sz1 HO
              go_wp2
              go_region_held3 (fun W' => W'.cell? ⟨wr.heap.size, 0, none⟩ = some (.int .u64 m.id) ∧ W'.cell? ⟨wr.heap.size, 1, none⟩ = some (.int .u64 m.ch)) (go_keep) (first
                | (go_at_call 28; (with_reducible refine HC5.out.mono ?_); rintro en w5 ⟨ga, gn, gc, rfl, ⟨z0, z1⟩, HC6⟩)
                | (go_at_call 28; (with_reducible refine HC6.out.mono ?_); rintro en w7 ⟨la, ln, lc, rfl, ⟨u0, u1⟩, HO7⟩))
              obtain ⟨o7, f7⟩ := HO7.out
              rw [← hW1] at o7 f7
              have z7 := f7.size
              have HB7 := hide (Below.onl HBD5.out f7 (fun i q => q.1) (by have := HD.out; omega))
              have HO8 : Hid (Row (fun i => D ≤ i ∧ i < w7.heap.size) w7 5 1 (.slice la ln lc) (T3 ++ (s.md.take (k2 + 1)).flatMap mdB).length ((T3 ++ (s.md.take (k2 + 1)).flatMap mdB).map (Value.int .u8))) := hide (by
                rw [HTE.out]
                have sz := HSZ.out
                exact o7.mono (fun i q => by
                  rcases q with q | q
                  · exact ⟨q.1, by omega⟩
                  · exact ⟨by omega, q.2⟩))
              clear HC5 HC6 HO7 o7 f7 HBD HTE c0 c1 z0 z1 u0 u1 x0 x1 hW1 HSZ
              go_wp2
              go_roundw
              case rel => exact ⟨k2 + 1, by omega, by simp, ⟨_, _, _, rfl⟩, HO8, HB7⟩
              case measure => simp [intOf]; omega
            · obtain rfl : k2 = n2 := by omega
              have ht6 : s.md.take k2 = s.md := by rw [HN2.out, List.take_length]
              rw [ht6] at HO hcl6
              have HCV := hide (conv_own (HOC3.out _ HBD.out).1)
              have hcvt := HCV.out wr (Below.refl _ _)
              have hbC : InB C1 := by
                have := HC.out
                have h2 := putC_byte (l := s.cl) (by unfold top; omega)
                rw [← this] at h2
                exact h2
              have hns : nums (strOfNums C1) = C1 := nums_strOfNums hbC
              have hss : (strOfNums C1).size = C1.length := strOfNums_size _
              obtain ⟨SB, hSB⟩ : ∃ SB, SB = strOfNums C1 := ⟨_, rfl⟩
              rw [← hSB] at hns hss hcvt
              have HC9 := hide (text_o (O := fun i => D ≤ i ∧ i < wr.heap.size) (.slice ta tm tc) (T3 ++ s.md.flatMap mdB) SB wr HO.out (by omega))
              have HNS := hide hns
              have HSS := hide hss
              clear HO hbC hns hss hSB ht6 HCV
              go_wp2_with fail
              refine HC9.out.mono ?_
              rintro en w9 ⟨v9, rfl, o9, f9⟩
              have z9 := f9.size
              have hwD : D ≤ wr.heap.size := by have := HD.out; omega
              have hDw0 : w.heap.size ≤ D := by have := (HW3.out _ (Below.refl _ _)).size; have := HD.out; omega
              have HF : Hid (PdS w s (.returned (.tuple #[v9, .int .i64 0])) w9) := by
                refine hide ?_
                unfold PdS
                rw [HOK.out]
                have e : T3 ++ s.md.flatMap mdB ++ (enc SB.size ++ nums SB) = stB s := by
                  unfold stB
                  rw [HSS.out, HNS.out, HT3.out, HT2.out, HT1.out, HT0.out, ← HN2.out]
                  rw [show (putC s.cl).1 = C1 by rw [← HC.out]]
                rw [e] at o9
                refine ⟨_, rfl, o9.mono (fun i q => ?_), HW3.out _ (Below.onl HBD.out f9 (fun i q => q.1) (by have := HD.out; omega))⟩
                rcases q with q | q
                · exact ⟨by omega, by omega⟩
                · exact ⟨by omega, q.2⟩
              clear HC9 o9 f9 HBD hcvt
              go_wp2
              refine bodyPost_ret (by simp [results, Try.results9, go_sem]; rfl) rfl ?_
              exact HF.out
end Go.Proofs.Ytgjhmpmjbedjoaa
