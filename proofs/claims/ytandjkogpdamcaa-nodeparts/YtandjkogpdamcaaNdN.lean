/- The document's Node, over the translation. -/
import Derived.Test.YtandjkogpdamcaaNdR
import Derived.Test.YtandjkogpdamcaaApp
import Derived.BigRegion
namespace Go.Proofs.Ytandjkogpdamcaa
open Go.RowKit Apo
attribute [local go_sem ↓] Apo.app_exec
set_option maxRecDepth 100000 in
theorem info_str : (Try.prog.info? 9).map (fun i => (i.zero, i.size, i.bytes)) = some (some (.string ByteArray.empty), 1, 16) := by kernel_rfl
def strs (l : List ByteArray) : List Value := l.map Value.string
set_option maxRecDepth 100000 in
theorem strs_one (l : List ByteArray) : ∀ v ∈ strs l, v.oneCell' = true := by
  intro v hv
  obtain ⟨s, _, rfl⟩ := List.mem_map.1 hv
  rfl
set_option maxRecDepth 100000 in
/-- append(keys, s) -/
theorem app_str {W : World} {B : Nat} {va : Option Addr} {n vc : Nat} {l : List ByteArray} (h : W.ownsRow B 9 1 (.slice va n vc) n (strs l)) (hB : B ≤ W.heap.size) (hn : n ≤ 1099511627776) (s : ByteArray) :
    ∃ va' vc' w', (Builtin.append_ #[78, 78] 78 #[.slice va n vc, .slice (some ⟨W.heap.size, 0, none⟩) 1 1]).run Try.prog (W.alloc (.cells #[.string s] 9)) = .ok (.slice va' (n + 1) vc') w' ∧ w'.ownsRow B 9 1 (.slice va' (n + 1) vc') (n + 1) (strs (l ++ [s])) ∧ (∀ B', B' ≤ B → Below B' W w') := by
  obtain ⟨i0, hi, hz0, hz1, hz2⟩ := info_parts info_str
  have hl : l.length = n := by have := h.1; simpa [strs] using this
  have h' := h.alloc (.cells #[.string s] 9)
  obtain ⟨v5, w5, RR, r5, g5, _, ho5⟩ := run_append_own_at (P := Try.prog) (W.alloc (.cells #[.string s] 9)) B 78 78 9 i0 _ 1 16 Try.underlying78 hi hz0 hz1 hz2 rfl (by decide) (.slice va n vc) n (strs l) h' ⟨W.heap.size, 0, none⟩ 1 1 (strs [s]) rfl
    (cell_one_new W (.string s) 9) (strs_one _) (by unfold maxLen; omega) (by omega) (by simp; omega)
  obtain ⟨va', vc', hv⟩ := own_len r5
  subst hv
  refine ⟨va', vc', w5, RR, ?_, fun B' hB' => ?_⟩
  · rw [show strs (l ++ [s]) = strs l ++ strs [s] by simp [strs]]
    exact r5
  · exact ((Below.refl B' W).alloc (by omega) _).grown g5 (by simp; omega) (fun j hj => Nat.le_trans hB' (h.lt j hj).1)
set_option maxRecDepth 100000 in
theorem own_str {W : World} {B : Nat} {va : Option Addr} {n vc : Nat} {l : List ByteArray} (h : W.ownsRow B 9 1 (.slice va n vc) n (strs l)) {k : Nat} {s : ByteArray} (hk : l[k]? = some s) : ∃ g, va = some ⟨g, 0, none⟩ ∧ W.cell? ⟨g, k, none⟩ = some (.string s) ∧ n ≤ vc := by
  have hl : l.length = n := by have := h.1; simpa [strs] using this
  have hkn : k < n := by have := (List.getElem?_eq_some_iff.1 hk).1; omega
  obtain ⟨g, cap, hv, _, h3, h4, h5⟩ := own_shape h (by omega)
  injection hv with e1 e2 e3
  refine ⟨g, e1, ?_, by omega⟩
  rw [h5 k hkn]
  simp [strs, hk]
set_option maxRecDepth 100000 in
set_option maxHeartbeats 8000000 in
theorem rnode_any (w : World) (x : NdA) (hx : OkN w x) (he : x.n.es.length ≤ 1000000) (hk : x.n.ks.length ≤ 1000000) :
    Calls Try.prog 14 #[.agg x.cells.toArray] w fun e w' => e = .returned (.int .i64 (nodeE x.n)) ∧ Below w.heap.size w w' := by
  obtain ⟨⟨lv, es, ks⟩, ea, ec, ka, kc⟩ := x
  simp only [NdA.cells] at *
  obtain ⟨W0, hW0⟩ : ∃ W0, W0 = w.alloc (.cells #[.int .i64 lv, .slice ea es.length ec, .slice ka ks.length kc] 25) := ⟨_, rfl⟩
  have kb : Ob W0 w.heap.size 25 [.int .i64 lv, .slice ea es.length ec, .slice ka ks.length kc] := by rw [hW0]; exact Ob.new w [.int .i64 lv, .slice ea es.length ec, .slice ka ks.length kc] 25
  have b0 : Below w.heap.size w W0 := by rw [hW0]; exact (Below.refl _ w).alloc (Nat.le_refl _) _
  have s0 : W0.heap.size = w.heap.size + 1 := by rw [hW0]; simp
  have x0 := hx.below b0
  obtain ⟨ne, hne⟩ : ∃ ne, ne = es.length := ⟨_, rfl⟩
  obtain ⟨nk, hnk⟩ : ∃ nk, nk = ks.length := ⟨_, rfl⟩
  have HE := hide x0.es
  have HK := hide x0.ks
  have hec : ne ≤ ec := by rw [hne]; exact x0.el
  have hkc : nk ≤ kc := by rw [hnk]; exact x0.kl
  have heb : ec ≤ 9223372036854775807 := by have := x0.eb; unfold maxLen at this; simp only at this; omega
  have hkb : kc ≤ 9223372036854775807 := by have := x0.kb; unfold maxLen at this; simp only at this; omega
  have HSZ := hide x0.sz
  have HKZ := hide x0.kz
  have hlv := x0.lv
  simp only at hlv he hk HE HK HSZ HKZ
  rw [← hne] at kb he ⊢
  rw [← hnk] at kb hk ⊢
  rw [← hne, ← hnk] at hW0
  have HNE := hide hne
  have HNK := hide hnk
  have HKB := hide kb
  have HB0 := hide b0
  have HW0 := hide hW0
  have bx : ∀ W, Below W0.heap.size W0 W → Ob W w.heap.size 25 [.int .i64 lv, .slice ea ne ec, .slice ka nk kc] := fun W b => kb.old b
  have HBX := hide bx
  clear hx x0 hne hnk kb b0 bx
  go_enter Try.func14, Try.ntmps14
  go_wp2
  rw [← hW0]
  go_loopw [3, 19] (fun vs i wr => ∃ (k : Nat) (va : Option Addr) (vc : Nat), k ≤ ne ∧ i = .int .i64 k ∧ vs = .slice va k vc ∧ Hid (wr.ownsRow W0.heap.size 9 1 (.slice va k vc) k (strs ((es.map En.k).take k))) ∧ Hid (∀ e ∈ es.take k, enE e = 0) ∧ Hid (Below W0.heap.size W0 wr)) (fun _ i _ => ne - (intOf i).toNat)
  case atStart => exact ⟨0, none, 0, Nat.zero_le _, rfl, rfl, hide (World.ownsRow_nil _ _ _ _), hide (by simp), hide (Below.refl _ _)⟩
  case round =>
    obtain ⟨k, va, vc, hk1, rfl, rfl, HO, HF, HB⟩ := hrel
    have kx := HBX.out wr HB.out
    have c0 := kx.cell 0
    have c1 := kx.cell 1
    have c2 := kx.cell 2
    simp only [List.getElem?_cons_zero, List.getElem?_cons_succ] at c0 c1 c2
    have hs1 := HB.out.size
    clear kx
    by_cases hkn : k < ne
    · obtain ⟨e, hek⟩ : ∃ e, es[k]? = some e := ⟨es[k]'(by have := HNE.out; omega), List.getElem?_eq_getElem _⟩
      obtain ⟨g, o, rfl, q1, q2⟩ := HE.out k e hek
      have q1' := (HB.out.cell (p := ⟨g, o + k * 2, none⟩) (World.block_lt_of_cell? _ _ q1)).trans q1
      have q2' := (HB.out.cell (p := ⟨g, o + k * 2 + 1, none⟩) (World.block_lt_of_cell? _ _ q2)).trans q2
      obtain ⟨ek, ev⟩ := e
      simp only at q1' q2'
      have hsz := HSZ.out _ (List.mem_of_getElem? hek)
      simp only at hsz
      unfold maxLen at hsz
      have htk : (es.map En.k).take (k + 1) = (es.map En.k).take k ++ [ek] := by rw [List.take_add_one]; simp [hek]
      have hte : es.take (k + 1) = es.take k ++ [⟨ek, ev⟩] := by rw [List.take_add_one, hek]; rfl
      obtain ⟨W1, hW1⟩ : ∃ W1, W1 = wr.alloc (.cells #[.string ek, .string ev] 55) := ⟨_, rfl⟩
      have C1 := rkey_any ek W1 (by omega)
      have C2 := rval_any ev W1 (by omega)
      have b1 : Below W0.heap.size W0 W1 := by rw [hW1]; exact HB.out.alloc hs1 _
      have s1 : W1.heap.size = wr.heap.size + 1 := by rw [hW1]; simp
      have o1 := HO.out.alloc (.cells #[.string ek, .string ev] 55)
      rw [← hW1] at o1
      have kb1 : Ob W1 wr.heap.size 55 [.string ek, .string ev] := by rw [hW1]; exact Ob.new wr [.string ek, .string ev] 55
      have y0 := kb1.cell 0
      have y1 := kb1.cell 1
      simp only [List.getElem?_cons_zero, List.getElem?_cons_succ] at y0 y1
      obtain ⟨va', vc', w3, RA, oA, bA⟩ := app_str o1 (by omega) (by omega) ek
      obtain ⟨s1', s2', s3'⟩ := app_runs RA
      rw [s1] at s1' s2' s3'
      have HOA := hide oA
      have HBA := hide (b1.trans (bA _ (Nat.le_refl _)))
      have HC1 := hide C1
      have HC2 := hide C2
      have HEK := hide hek
      have HTK := hide htk
      have HTE := hide hte
      have HB1 := hide b1
      rw [hW1] at HC1 HC2 y0 y1 s1' s2' s3'
      clear C1 C2 hek htk hte o1 kb1 RA oA bA b1 q1 q2
      by_cases hke : keyE ek = 0
      · have hke2 : (keyE ek != 0) = false := by simpa using hke
        by_cases hve : valE ev = 0
        · have hve2 : (valE ev != 0) = false := by simpa using hve
          have HF2 : Hid (∀ e ∈ es.take (k + 1), enE e = 0) := by
            refine hide (fun e he => ?_)
            rw [HTE.out] at he
            rcases List.mem_append.1 he with q | q
            · exact HF.out e q
            · simp at q
              subst q
              unfold enE
              rw [if_neg (by simp [hke])]
              exact hve
          rw [← HTK.out] at HOA
          rw [hke] at HC1
          rw [hve] at HC2
          clear hke hve hke2 hve2
          go_wp2_with fail
          refine HC1.out.mono ?_
          rintro e wx ⟨rfl, rfl⟩
          go_wp2_with fail
          refine HC2.out.mono ?_
          rintro e wx ⟨rfl, rfl⟩
          go_wp2
          go_roundw
          case rel => exact ⟨k + 1, va', vc', by omega, by simp, rfl, HOA, HF2, HBA⟩
          case measure => simp [intOf]; omega
        · have hve2 : (valE ev != 0) = true := by simpa using hve
          have HF2 : Hid (nodeE ⟨lv, es, ks⟩ = valE ev) := by
            refine hide ?_
            have h0 : enE ⟨ek, ev⟩ = valE ev := by unfold enE; rw [if_neg (by simp [hke])]
            have h1 : firstE enE es = valE ev := by
              have := firstE_at (f := enE) HEK.out HF.out (by rw [h0]; exact hve)
              rw [this, h0]
            unfold nodeE
            rw [if_pos (by rw [h1]; exact hve), h1]
          rw [hke] at HC1
          clear hke hve hke2
          go_wp2_with fail
          refine HC1.out.mono ?_
          rintro e wx ⟨rfl, rfl⟩
          go_wp2_with fail
          refine HC2.out.mono ?_
          rintro e wx ⟨rfl, rfl⟩
          go_wp2
          go_ret
          rw [HF2.out]
          exact ⟨rfl, by rw [← hW1]; exact HB0.out.trans (HB1.out.mono (by omega))⟩
      · have hke2 : (keyE ek != 0) = true := by simpa using hke
        have HF2 : Hid (nodeE ⟨lv, es, ks⟩ = keyE ek) := by
          refine hide ?_
          have h1 : firstE enE es = keyE ek := by
            have := firstE_at (f := enE) HEK.out HF.out (by unfold enE; rw [if_pos hke]; exact hke)
            rw [this]
            unfold enE
            rw [if_pos hke]
          unfold nodeE
          rw [if_pos (by rw [h1]; exact hke), h1]
        clear hke
        go_wp2_with fail
        refine HC1.out.mono ?_
        rintro e wx ⟨rfl, rfl⟩
        go_wp2
        go_ret
        rw [HF2.out]
        exact ⟨rfl, by rw [← hW1]; exact HB0.out.trans (HB1.out.mono (by omega))⟩
    · obtain rfl : k = ne := by omega
      have HFE : Hid (∀ e ∈ es, enE e = 0) := by
        have q := HF.out
        rw [HNE.out, List.take_length] at q
        exact hide q
      have HO1 : Hid (wr.ownsRow W0.heap.size 9 1 (.slice va k vc) k (strs (es.map En.k))) := by
        have q := HO.out
        rw [List.take_of_length_le (by rw [List.length_map, HNE.out]; exact Nat.le_refl _)] at q
        exact hide q
      have HB1 := HB
      have HFE0 : Hid (firstE enE es = 0) := hide (firstE_none HFE.out)
      clear HO HF HB hkn hk1
      go_wp2
      go_loopw [3, 44] (fun vs i wr => ∃ (j n : Nat) (va : Option Addr) (vc : Nat), j ≤ nk ∧ i = .int .i64 j ∧ vs = .slice va n vc ∧ Hid (n = k + j) ∧ Hid (wr.ownsRow W0.heap.size 9 1 (.slice va n vc) n (strs (es.map En.k ++ (ks.map Ki.k).take j))) ∧ Hid (∀ e ∈ ks.take j, kiE e = 0) ∧ Hid (Below W0.heap.size W0 wr)) (fun _ i _ => nk - (intOf i).toNat)
      case atStart => exact ⟨0, k, va, vc, Nat.zero_le _, rfl, rfl, hide rfl, hide (by simpa using HO1.out), hide (by simp), HB1⟩
      case round =>
        obtain ⟨j, n, va, vc, hj1, rfl, rfl, HN, HO, HF, HB⟩ := hrel
        have kx := HBX.out wr HB.out
        have c0 := kx.cell 0
        have c1 := kx.cell 1
        have c2 := kx.cell 2
        simp only [List.getElem?_cons_zero, List.getElem?_cons_succ] at c0 c1 c2
        have hs1 := HB.out.size
        clear kx
        by_cases hjn : j < nk
        · obtain ⟨e, hek⟩ : ∃ e, ks[j]? = some e := ⟨ks[j]'(by have := HNK.out; omega), List.getElem?_eq_getElem _⟩
          obtain ⟨g, o, rfl, q1, q2⟩ := HK.out j e hek
          have q1' := (HB.out.cell (p := ⟨g, o + j * 2, none⟩) (World.block_lt_of_cell? _ _ q1)).trans q1
          have q2' := (HB.out.cell (p := ⟨g, o + j * 2 + 1, none⟩) (World.block_lt_of_cell? _ _ q2)).trans q2
          obtain ⟨ek, ei⟩ := e
          simp only at q1' q2'
          have hsz := HKZ.out _ (List.mem_of_getElem? hek)
          simp only at hsz
          unfold maxLen at hsz
          have hnn := HN.out
          have htk : es.map En.k ++ (ks.map Ki.k).take (j + 1) = (es.map En.k ++ (ks.map Ki.k).take j) ++ [ek] := by rw [List.take_add_one, List.append_assoc]; simp [hek]
          have hte : ks.take (j + 1) = ks.take j ++ [⟨ek, ei⟩] := by rw [List.take_add_one, hek]; rfl
          obtain ⟨W1, hW1⟩ : ∃ W1, W1 = wr.alloc (.cells #[.string ek, .int .u64 ei] 58) := ⟨_, rfl⟩
          have C1 := rkey_any ek W1 (by omega)
          have b1 : Below W0.heap.size W0 W1 := by rw [hW1]; exact HB.out.alloc hs1 _
          have s1 : W1.heap.size = wr.heap.size + 1 := by rw [hW1]; simp
          have o1 := HO.out.alloc (.cells #[.string ek, .int .u64 ei] 58)
          rw [← hW1] at o1
          have kb1 : Ob W1 wr.heap.size 58 [.string ek, .int .u64 ei] := by rw [hW1]; exact Ob.new wr [.string ek, .int .u64 ei] 58
          have y0 := kb1.cell 0
          simp only [List.getElem?_cons_zero] at y0
          obtain ⟨va', vc', w3, RA, oA, bA⟩ := app_str o1 (by omega) (by omega) ek
          obtain ⟨s1', s2', s3'⟩ := app_runs RA
          rw [s1] at s1' s2' s3'
          have HOA := hide oA
          have HBA := hide (b1.trans (bA _ (Nat.le_refl _)))
          have HC1 := hide C1
          have HEK := hide hek
          have HTK := hide htk
          have HTE := hide hte
          have HB2 := hide b1
          rw [hW1] at HC1 y0 s1' s2' s3'
          clear C1 hek htk hte o1 kb1 RA oA bA b1 q1 q2 hnn
          by_cases hke : keyE ek = 0
          · have HF2 : Hid (∀ e ∈ ks.take (j + 1), kiE e = 0) := by
              refine hide (fun e he => ?_)
              rw [HTE.out] at he
              rcases List.mem_append.1 he with q | q
              · exact HF.out e q
              · simp at q
                subst q
                exact hke
            rw [← HTK.out] at HOA
            rw [hke] at HC1
            clear hke
            go_wp2_with fail
            refine HC1.out.mono ?_
            rintro e wx ⟨rfl, rfl⟩
            go_wp2
            go_roundw
            case rel => exact ⟨j + 1, n + 1, va', vc', by omega, by simp, rfl, hide (by have := HN.out; omega), HOA, HF2, HBA⟩
            case measure => simp [intOf]; omega
          · have hke2 : (keyE ek != 0) = true := by simpa using hke
            have HF2 : Hid (nodeE ⟨lv, es, ks⟩ = keyE ek) := by
              refine hide ?_
              have h1 : firstE kiE ks = keyE ek := firstE_at (f := kiE) HEK.out HF.out hke
              unfold nodeE
              simp only
              rw [if_neg (by rw [HFE0.out]; simp), if_pos (by rw [h1]; exact hke), h1]
            clear hke
            go_wp2_with fail
            refine HC1.out.mono ?_
            rintro e wx ⟨rfl, rfl⟩
            go_wp2
            go_ret
            rw [HF2.out]
            exact ⟨rfl, by rw [← hW1]; exact HB0.out.trans (HB2.out.mono (by omega))⟩
        · obtain rfl : j = nk := by omega
          have HFK : Hid (∀ e ∈ ks, kiE e = 0) := by
            have q := HF.out
            rw [HNK.out, List.take_length] at q
            exact hide q
          have HO2 : Hid (wr.ownsRow W0.heap.size 9 1 (.slice va n vc) n (strs (es.map En.k ++ ks.map Ki.k))) := by
            have q := HO.out
            rw [List.take_of_length_le (l := ks.map Ki.k) (by rw [List.length_map, HNK.out]; exact Nat.le_refl _)] at q
            exact hide q
          have HFK0 : Hid (firstE kiE ks = 0) := hide (firstE_none HFK.out)
          have HBW := hide (HB0.out.trans (HB.out.mono (by omega)))
          have HNOT : Hid ((lv == 0 && decide (0 < k) && decide (j = 0)) = false → (decide (0 < lv) && decide (lv ≤ 20) && decide (0 < j) && decide (k = 0)) = false → nodeE ⟨lv, es, ks⟩ = 90) := by
            refine hide (fun h1 h2 => ?_)
            unfold nodeE
            simp only
            rw [if_neg (by rw [HFE0.out]; simp), if_neg (by rw [HFK0.out]; simp), if_pos]
            rw [Bool.or_eq_false_iff]
            refine ⟨?_, ?_⟩
            · unfold Nd.leaf
              simp only
              rw [← HNE.out, ← HNK.out]
              exact h1
            · unfold Nd.inner
              simp only
              rw [← HNE.out, ← HNK.out]
              exact h2
          clear HO HF hjn hj1
          have hcase : (lv = 0 ∧ 0 < k ∧ j = 0) ∨ (0 < lv ∧ lv ≤ 20 ∧ 0 < j ∧ k = 0) ∨ (lv = 0 ∧ k = 0) ∨ (lv = 0 ∧ 0 < k ∧ 0 < j) ∨ lv < 0 ∨ 20 < lv ∨ (0 < lv ∧ lv ≤ 20 ∧ j = 0) ∨ (0 < lv ∧ lv ≤ 20 ∧ 0 < j ∧ 0 < k) := by omega
          rcases hcase with ⟨h1, h2, h3⟩ | ⟨h1, h2, h3, h4⟩ | ⟨h1, h2⟩ | ⟨h1, h2, h3⟩ | h1 | h1 | ⟨h1, h2, h3⟩ | ⟨h1, h2, h3, h4⟩
          rotate_left 2
          · have d1 : (lv == 0) = true := by simpa using h1
            have d2 : decide ((0 : Int) < (k : Int)) = false := by simp; omega
            have d2n : decide (0 < k) = false := by simp; omega
            have d4 : decide ((0 : Int) < lv) = false := by simp; omega
            have HX := hide (HNOT.out (by simp [h2]) (by simp [h1]))
            clear h1 h2 HNOT
            go_wp2
            go_ret
            rw [HX.out]
            exact ⟨rfl, HBW.out⟩
          · have d1 : (lv == 0) = true := by simpa using h1
            have d2 : decide ((0 : Int) < (k : Int)) = true := by simp; omega
            have d2n : decide (0 < k) = true := by simp; omega
            have d3 : ((j : Int) == 0) = false := by simp; omega
            have d3n : (j == 0) = false := by simp; omega
            have d3m : decide (j = 0) = false := by simp; omega
            have d4 : decide ((0 : Int) < lv) = false := by simp; omega
            have HX := hide (HNOT.out (by rw [d3m]; simp) (by simp [h1]))
            clear h1 h2 h3 HNOT
            go_wp2
            go_ret
            rw [HX.out]
            exact ⟨rfl, HBW.out⟩
          · have d1 : (lv == 0) = false := by simp; omega
            have d4 : decide ((0 : Int) < lv) = false := by simp; omega
            have HX := hide (HNOT.out (by rw [d1]; rfl) (by rw [d4]; rfl))
            clear h1 HNOT
            go_wp2
            go_ret
            rw [HX.out]
            exact ⟨rfl, HBW.out⟩
          · have d1 : (lv == 0) = false := by simp; omega
            have d4 : decide ((0 : Int) < lv) = true := by simp; omega
            have d5 : decide (lv ≤ 20) = false := by simp; omega
            have HX := hide (HNOT.out (by rw [d1]; rfl) (by rw [d4, d5]; rfl))
            clear h1 HNOT
            go_wp2
            go_ret
            rw [HX.out]
            exact ⟨rfl, HBW.out⟩
          · have d1 : (lv == 0) = false := by simp; omega
            have d4 : decide ((0 : Int) < lv) = true := by simp; omega
            have d5 : decide (lv ≤ 20) = true := by simp; omega
            have d6 : decide ((0 : Int) < (j : Int)) = false := by simp; omega
            have d6n : decide (0 < j) = false := by simp; omega
            have HX := hide (HNOT.out (by rw [d1]; rfl) (by simp [h3]))
            clear h1 h2 h3 HNOT
            go_wp2
            go_ret
            rw [HX.out]
            exact ⟨rfl, HBW.out⟩
          · have d1 : (lv == 0) = false := by simp; omega
            have d4 : decide ((0 : Int) < lv) = true := by simp; omega
            have d5 : decide (lv ≤ 20) = true := by simp; omega
            have d6 : decide ((0 : Int) < (j : Int)) = true := by simp; omega
            have d6n : decide (0 < j) = true := by simp; omega
            have d7 : ((k : Int) == 0) = false := by simp; omega
            have d7n : (k == 0) = false := by simp; omega
            have d7m : decide (k = 0) = false := by simp; omega
            have HX := hide (HNOT.out (by rw [d1]; rfl) (by rw [d7m]; simp))
            clear h1 h2 h3 h4 HNOT
            go_wp2
            go_ret
            rw [HX.out]
            exact ⟨rfl, HBW.out⟩
          focus
            have d1 : (lv == 0) = true := by simpa using h1
            have d2 : decide ((0 : Int) < (k : Int)) = true := by simp; omega
            have d2n : decide (0 < k) = true := by simp; omega
            have d3 : ((j : Int) == 0) = true := by simp; omega
            have d3n : (j == 0) = true := by simp; omega
            have d3m : decide (j = 0) = true := by simp; omega
            have d4 : decide ((0 : Int) < lv) = false := by simp; omega
            have HSH : Hid (((⟨lv, es, ks⟩ : Nd).leaf || (⟨lv, es, ks⟩ : Nd).inner) = true) := by
              refine hide ?_
              unfold Nd.leaf
              simp only
              rw [← HNE.out, ← HNK.out]
              simp [h1, h2, h3]
            clear h1 h2 h3 HNOT
            go_wp2
          rotate_left 1
          focus
            have d1 : (lv == 0) = false := by simp; omega
            have d4 : decide ((0 : Int) < lv) = true := by simp; omega
            have d5 : decide (lv ≤ 20) = true := by simp; omega
            have d6 : decide ((0 : Int) < (j : Int)) = true := by simp; omega
            have d6n : decide (0 < j) = true := by simp; omega
            have d7 : ((k : Int) == 0) = true := by simp; omega
            have d7n : (k == 0) = true := by simp; omega
            have d7m : decide (k = 0) = true := by simp; omega
            have HSH : Hid (((⟨lv, es, ks⟩ : Nd).leaf || (⟨lv, es, ks⟩ : Nd).inner) = true) := by
              refine hide ?_
              unfold Nd.inner
              simp only
              rw [← HNE.out, ← HNK.out, d4, d5, d6n, d7m]
              simp
            clear h1 h2 h3 h4 HNOT
            go_wp2
          all_goals
            obtain ⟨W2, hW2⟩ : ∃ W2, W2 = wr := ⟨_, rfl⟩
            subst hW2
            have HLN : Hid (n = (es.map En.k ++ ks.map Ki.k).length) := hide (by rw [HN.out, List.length_append, List.length_map, List.length_map, HNE.out, HNK.out])
            obtain ⟨KS, hKS⟩ : ∃ KS, KS = es.map En.k ++ ks.map Ki.k := ⟨_, rfl⟩
            rw [← hKS] at HO2 HLN
            have HKS := hide hKS
            have hnb : n ≤ 2000000 := by have := HN.out; omega
            have HSS : Hid (∀ s ∈ KS, s.size ≤ 1099511627776) := by
              refine hide (fun s hs => ?_)
              rw [hKS] at hs
              rcases List.mem_append.1 hs with q | q
              · obtain ⟨e, he, rfl⟩ := List.mem_map.1 q
                have h1 := HFE.out e he
                by_cases z : e.k.size ≤ 40
                · omega
                · exfalso
                  have h3 : keyE e.k = 100 := by unfold keyE; rw [if_pos (Or.inr (by omega))]
                  unfold enE at h1
                  rw [if_pos (by rw [h3]; simp), h3] at h1
                  simp at h1
              · obtain ⟨e, he, rfl⟩ := List.mem_map.1 q
                have h1 := HFK.out e he
                by_cases z : e.k.size ≤ 40
                · omega
                · exfalso
                  have h3 : keyE e.k = 100 := by unfold keyE; rw [if_pos (Or.inr (by omega))]
                  unfold kiE at h1
                  rw [h3] at h1
                  simp at h1
            have HBAD : Hid (∀ t, t < n → badAt lv KS t = true → nodeE ⟨lv, es, ks⟩ = 90) := by
              refine hide (fun t ht hb => ?_)
              unfold nodeE
              simp only
              rw [if_neg (by rw [HFE0.out]; simp), if_neg (by rw [HFK0.out]; simp), if_neg (by rw [HSH.out]; simp), if_pos]
              exact ⟨t, by unfold Nd.keys; simp only; rw [← hKS, ← HLN.out]; exact ht, by unfold Nd.keys; simp only; rw [← hKS]; exact hb⟩
            clear hKS
            go_loopw [103] (fun v W => ∃ i : Nat, i ≤ n ∧ v = .int .i64 i ∧ Hid (∀ t, t < i → badAt lv KS t = false) ∧ Hid (Below W2.heap.size W2 W)) (fun v _ => n - (intOf v).toNat)
            case atStart => exact ⟨0, Nat.zero_le _, rfl, hide (by intro t ht; omega), hide (Below.refl _ _)⟩
            case round =>
              obtain ⟨i, hi, rfl, HBD, HBB⟩ := hrel
              by_cases hin : i < n
              · obtain ⟨s2, hs2⟩ : ∃ s, KS[i]? = some s := ⟨KS[i]'(by have := HLN.out; omega), List.getElem?_eq_getElem _⟩
                obtain ⟨g, rfl, q2, hvc⟩ := own_str HO2.out hs2
                have q2' := (HBB.out.cell (p := ⟨g, i, none⟩) (World.block_lt_of_cell? _ _ q2)).trans q2
                have c0' := (HBB.out.cell (p := ⟨w.heap.size, 0, none⟩) (World.block_lt_of_cell? _ _ c0)).trans c0
                by_cases hi0 : i = 0
                · have HI0 := hide hi0
                  have ddn : decide (0 < i) = false := by simp; omega
                  have dd : decide ((0 : Int) < (i : Int)) = false := by simp; omega
                  by_cases hl1 : i + 1 < n
                  · have dl : decide ((i : Int) + 1 < (n : Int)) = true := by simp; omega
                    have dln : decide (i + 1 < n) = true := by simp; omega
                    have dlw : decide (IntKind.i64.wrap ((i : Int) + 1) < (n : Int)) = true := by rw [IntKind.wrap_i64]; simp; omega
                    have CE := rendsN_any lv s2 wr.drew (by have := HSS.out s2 (List.mem_of_getElem? hs2); omega)
                    have HCE := hide CE
                    have HS2 := hide hs2
                    clear CE hs2 hi0
                    cases hb : endsN lv s2
                    all_goals
                      rw [hb] at HCE
                      have HHB := hide hb
                      clear hb
                      go_wp2
                      refine wp_region_held_drew (S := fun W' => W'.cell? ⟨w.heap.size, 0, none⟩ = some (.int .i64 lv) ∧ W'.cell? ⟨g, i, none⟩ = some (.string s2)) (by kernel_rfl) ?_ (fun hHeld => ?_)
                      · exact ⟨c0', q2'⟩
                      first
                        | (refine wpAnyH_take (i := 0) (v := ?_) rfl (by kernel_rfl) (by kernel_rfl) (by kernel_rfl) (fun _ _ _ h => h) (Or.inl ⟨by rfl, ?_⟩) (by assumption) ?_; rotate_left; (intro wx hSx; obtain ⟨e0, e1⟩ := hSx; go_simp; (try simp only [dlw]); first | done | with_reducible rfl))
                        | (refine wpAnyH_take (i := 0) (v := undef) rfl (by kernel_rfl) (by kernel_rfl) (by kernel_rfl) (fun _ _ _ h => h) (Or.inr ⟨by rfl, rfl⟩) (by assumption) ?_)
                      simp only [Act.put, List.getElem_toArray, List.getElem_cons_zero, List.setIfInBounds_toArray, List.set_cons_zero, List.set_cons_succ]
                      first
                        | (refine wpAnyH_take (i := 1) (v := ?_) rfl (by kernel_rfl) (by kernel_rfl) (by kernel_rfl) (fun _ _ _ h => h) (Or.inl ⟨by rfl, ?_⟩) (by assumption) ?_; rotate_left; (intro wx hSx; obtain ⟨e0, e1⟩ := hSx; go_simp; (try simp only [dlw]); first | done | with_reducible rfl))
                        | (refine wpAnyH_take (i := 1) (v := undef) rfl (by kernel_rfl) (by kernel_rfl) (by kernel_rfl) (fun _ _ _ h => h) (Or.inr ⟨by rfl, rfl⟩) (by assumption) ?_)
                      simp only [Act.put, List.getElem_toArray, List.getElem_cons_succ, List.getElem_cons_zero, List.setIfInBounds_toArray, List.set_cons_zero, List.set_cons_succ]
                      first
                        | (refine wpAnyH_take (i := 2) (v := ?_) rfl (by kernel_rfl) (by kernel_rfl) (by kernel_rfl) (fun _ _ _ h => h) (Or.inl ⟨by rfl, ?_⟩) (by assumption) ?_; rotate_left; (intro wx hSx; obtain ⟨e0, e1⟩ := hSx; go_simp; (try simp only [dlw]); first | done | with_reducible rfl))
                        | (refine wpAnyH_take (i := 2) (v := undef) rfl (by kernel_rfl) (by kernel_rfl) (by kernel_rfl) (fun _ _ _ h => h) (Or.inr ⟨by rfl, rfl⟩) (by assumption) ?_)
                      simp only [Act.put, List.getElem_toArray, List.getElem_cons_succ, List.getElem_cons_zero, List.setIfInBounds_toArray, List.set_cons_zero, List.set_cons_succ]
                      first
                        | (refine wpAnyH_take (i := 3) (v := ?_) rfl (by kernel_rfl) (by kernel_rfl) (by kernel_rfl) (fun _ _ _ h => h) (Or.inl ⟨by rfl, ?_⟩) (by assumption) ?_; rotate_left; (intro wx hSx; obtain ⟨e0, e1⟩ := hSx; go_simp; (try simp only [dlw]); first | done | with_reducible rfl))
                        | (refine wpAnyH_take (i := 3) (v := undef) rfl (by kernel_rfl) (by kernel_rfl) (by kernel_rfl) (fun _ _ _ h => h) (Or.inr ⟨by rfl, rfl⟩) (by assumption) ?_)
                      simp only [Act.put, List.getElem_toArray, List.getElem_cons_succ, List.getElem_cons_zero, List.setIfInBounds_toArray, List.set_cons_zero, List.set_cons_succ]
                      first
                        | (refine wpAnyH_take (i := 4) (v := ?_) rfl (by kernel_rfl) (by kernel_rfl) (by kernel_rfl) (fun _ _ _ h => h) (Or.inl ⟨by rfl, ?_⟩) (by assumption) ?_; rotate_left; (intro wx hSx; obtain ⟨e0, e1⟩ := hSx; go_simp; (try simp only [dlw]); first | done | with_reducible rfl))
                        | (refine wpAnyH_take (i := 4) (v := undef) rfl (by kernel_rfl) (by kernel_rfl) (by kernel_rfl) (fun _ _ _ h => h) (Or.inr ⟨by rfl, rfl⟩) (by assumption) ?_)
                      simp only [Act.put, List.getElem_toArray, List.getElem_cons_succ, List.getElem_cons_zero, List.setIfInBounds_toArray, List.set_cons_zero, List.set_cons_succ]
                      first
                        | (refine wpAnyH_take (i := 5) (v := ?_) rfl (by kernel_rfl) (by kernel_rfl) (by kernel_rfl) (fun _ _ _ h => h) (Or.inl ⟨by rfl, ?_⟩) (by assumption) ?_; rotate_left; (intro wx hSx; obtain ⟨e0, e1⟩ := hSx; go_simp; (try simp only [dlw]); first | done | with_reducible rfl))
                        | (refine wpAnyH_take (i := 5) (v := undef) rfl (by kernel_rfl) (by kernel_rfl) (by kernel_rfl) (fun _ _ _ h => h) (Or.inr ⟨by rfl, rfl⟩) (by assumption) ?_)
                      simp only [Act.put, List.getElem_toArray, List.getElem_cons_succ, List.getElem_cons_zero, List.setIfInBounds_toArray, List.set_cons_zero, List.set_cons_succ]
                      first
                        | (refine wpAnyH_take (i := 6) (v := ?_) rfl (by kernel_rfl) (by kernel_rfl) (by kernel_rfl) (fun _ _ _ h => h) (Or.inl ⟨by rfl, ?_⟩) (by assumption) ?_; rotate_left; (intro wx hSx; obtain ⟨e0, e1⟩ := hSx; go_simp; (try simp only [dlw]); first | done | with_reducible rfl))
                        | (refine wpAnyH_take (i := 6) (v := undef) rfl (by kernel_rfl) (by kernel_rfl) (by kernel_rfl) (fun _ _ _ h => h) (Or.inr ⟨by rfl, rfl⟩) (by assumption) ?_)
                      simp only [Act.put, List.getElem_toArray, List.getElem_cons_succ, List.getElem_cons_zero, List.setIfInBounds_toArray, List.set_cons_zero, List.set_cons_succ]
                      first
                        | (refine wpAnyH_take (i := 7) (v := ?_) rfl (by kernel_rfl) (by kernel_rfl) (by kernel_rfl) (fun _ _ _ h => h) (Or.inl ⟨by rfl, ?_⟩) (by assumption) ?_; rotate_left; (intro wx hSx; obtain ⟨e0, e1⟩ := hSx; go_simp; (try simp only [dlw]); first | done | with_reducible rfl))
                        | (refine wpAnyH_take (i := 7) (v := undef) rfl (by kernel_rfl) (by kernel_rfl) (by kernel_rfl) (fun _ _ _ h => h) (Or.inr ⟨by rfl, rfl⟩) (by assumption) ?_)
                      simp only [Act.put, List.getElem_toArray, List.getElem_cons_succ, List.getElem_cons_zero, List.setIfInBounds_toArray, List.set_cons_zero, List.set_cons_succ]
                      first
                        | (refine wpAnyH_take (i := 8) (v := ?_) rfl (by kernel_rfl) (by kernel_rfl) (by kernel_rfl) (fun _ _ _ h => h) (Or.inl ⟨by rfl, ?_⟩) (by assumption) ?_; rotate_left; (intro wx hSx; obtain ⟨e0, e1⟩ := hSx; go_simp; (try simp only [dlw]); first | done | with_reducible rfl))
                        | (refine wpAnyH_take (i := 8) (v := undef) rfl (by kernel_rfl) (by kernel_rfl) (by kernel_rfl) (fun _ _ _ h => h) (Or.inr ⟨by rfl, rfl⟩) (by assumption) ?_)
                      simp only [Act.put, List.getElem_toArray, List.getElem_cons_succ, List.getElem_cons_zero, List.setIfInBounds_toArray, List.set_cons_zero, List.set_cons_succ]
                      first
                        | (refine wpAnyH_take (i := 9) (v := ?_) rfl (by kernel_rfl) (by kernel_rfl) (by kernel_rfl) (fun _ _ _ h => h) (Or.inl ⟨by rfl, ?_⟩) (by assumption) ?_; rotate_left; (intro wx hSx; obtain ⟨e0, e1⟩ := hSx; go_simp; (try simp only [dlw]); first | done | with_reducible rfl))
                        | (refine wpAnyH_take (i := 9) (v := undef) rfl (by kernel_rfl) (by kernel_rfl) (by kernel_rfl) (fun _ _ _ h => h) (Or.inr ⟨by rfl, rfl⟩) (by assumption) ?_)
                      simp only [Act.put, List.getElem_toArray, List.getElem_cons_succ, List.getElem_cons_zero, List.setIfInBounds_toArray, List.set_cons_zero, List.set_cons_succ]
                      first
                        | (refine wpAnyH_take (i := 10) (v := ?_) rfl (by kernel_rfl) (by kernel_rfl) (by kernel_rfl) (fun _ _ _ h => h) (Or.inl ⟨by rfl, ?_⟩) (by assumption) ?_; rotate_left; (intro wx hSx; obtain ⟨e0, e1⟩ := hSx; go_simp; (try simp only [dlw]); first | done | with_reducible rfl))
                        | (refine wpAnyH_take (i := 10) (v := undef) rfl (by kernel_rfl) (by kernel_rfl) (by kernel_rfl) (fun _ _ _ h => h) (Or.inr ⟨by rfl, rfl⟩) (by assumption) ?_)
                      simp only [Act.put, List.getElem_toArray, List.getElem_cons_succ, List.getElem_cons_zero, List.setIfInBounds_toArray, List.set_cons_zero, List.set_cons_succ]
                      first
                        | (refine wpAnyH_take (i := 11) (v := ?_) rfl (by kernel_rfl) (by kernel_rfl) (by kernel_rfl) (fun _ _ _ h => h) (Or.inl ⟨by rfl, ?_⟩) (by assumption) ?_; rotate_left; (intro wx hSx; obtain ⟨e0, e1⟩ := hSx; go_simp; (try simp only [dlw]); first | done | with_reducible rfl))
                        | (refine wpAnyH_take (i := 11) (v := undef) rfl (by kernel_rfl) (by kernel_rfl) (by kernel_rfl) (fun _ _ _ h => h) (Or.inr ⟨by rfl, rfl⟩) (by assumption) ?_)
                      simp only [Act.put, List.getElem_toArray, List.getElem_cons_succ, List.getElem_cons_zero, List.setIfInBounds_toArray, List.set_cons_zero, List.set_cons_succ]
                      first
                        | (refine wpAnyH_take (i := 12) (v := ?_) rfl (by kernel_rfl) (by kernel_rfl) (by kernel_rfl) (fun _ _ _ h => h) (Or.inl ⟨by rfl, ?_⟩) (by assumption) ?_; rotate_left; (intro wx hSx; obtain ⟨e0, e1⟩ := hSx; go_simp; (try simp only [dlw]); first | done | with_reducible rfl))
                        | (refine wpAnyH_take (i := 12) (v := undef) rfl (by kernel_rfl) (by kernel_rfl) (by kernel_rfl) (fun _ _ _ h => h) (Or.inr ⟨by rfl, rfl⟩) (by assumption) ?_)
                      simp only [Act.put, List.getElem_toArray, List.getElem_cons_succ, List.getElem_cons_zero, List.setIfInBounds_toArray, List.set_cons_zero, List.set_cons_succ]
                      first
                        | (refine wpAnyH_take (i := 13) (v := ?_) rfl (by kernel_rfl) (by kernel_rfl) (by kernel_rfl) (fun _ _ _ h => h) (Or.inl ⟨by rfl, ?_⟩) (by assumption) ?_; rotate_left; (intro wx hSx; obtain ⟨e0, e1⟩ := hSx; go_simp; (try simp only [dlw]); first | done | with_reducible rfl))
                        | (refine wpAnyH_take (i := 13) (v := undef) rfl (by kernel_rfl) (by kernel_rfl) (by kernel_rfl) (fun _ _ _ h => h) (Or.inr ⟨by rfl, rfl⟩) (by assumption) ?_)
                      simp only [Act.put, List.getElem_toArray, List.getElem_cons_succ, List.getElem_cons_zero, List.setIfInBounds_toArray, List.set_cons_zero, List.set_cons_succ]
                      first
                        | (refine wpAnyH_take (i := 14) (v := ?_) rfl (by kernel_rfl) (by kernel_rfl) (by kernel_rfl) (fun _ _ _ h => h) (Or.inl ⟨by rfl, ?_⟩) (by assumption) ?_; rotate_left; (intro wx hSx; obtain ⟨e0, e1⟩ := hSx; go_simp; (try simp only [dlw]); first | done | with_reducible rfl))
                        | (refine wpAnyH_take (i := 14) (v := undef) rfl (by kernel_rfl) (by kernel_rfl) (by kernel_rfl) (fun _ _ _ h => h) (Or.inr ⟨by rfl, rfl⟩) (by assumption) ?_)
                      simp only [Act.put, List.getElem_toArray, List.getElem_cons_succ, List.getElem_cons_zero, List.setIfInBounds_toArray, List.set_cons_zero, List.set_cons_succ]
                      first
                        | (refine wpAnyH_take (i := 15) (v := ?_) rfl (by kernel_rfl) (by kernel_rfl) (by kernel_rfl) (fun _ _ _ h => h) (Or.inl ⟨by rfl, ?_⟩) (by assumption) ?_; rotate_left; (intro wx hSx; obtain ⟨e0, e1⟩ := hSx; go_simp; (try simp only [dlw]); first | done | with_reducible rfl))
                        | (refine wpAnyH_take (i := 15) (v := undef) rfl (by kernel_rfl) (by kernel_rfl) (by kernel_rfl) (fun _ _ _ h => h) (Or.inr ⟨by rfl, rfl⟩) (by assumption) ?_)
                      simp only [Act.put, List.getElem_toArray, List.getElem_cons_succ, List.getElem_cons_zero, List.setIfInBounds_toArray, List.set_cons_zero, List.set_cons_succ]
                      first
                        | (refine wpAnyH_take (i := 16) (v := ?_) rfl (by kernel_rfl) (by kernel_rfl) (by kernel_rfl) (fun _ _ _ h => h) (Or.inl ⟨by rfl, ?_⟩) (by assumption) ?_; rotate_left; (intro wx hSx; obtain ⟨e0, e1⟩ := hSx; go_simp; (try simp only [dlw]); first | done | with_reducible rfl))
                        | (refine wpAnyH_take (i := 16) (v := undef) rfl (by kernel_rfl) (by kernel_rfl) (by kernel_rfl) (fun _ _ _ h => h) (Or.inr ⟨by rfl, rfl⟩) (by assumption) ?_)
                      simp only [Act.put, List.getElem_toArray, List.getElem_cons_succ, List.getElem_cons_zero, List.setIfInBounds_toArray, List.set_cons_zero, List.set_cons_succ]
                      first
                        | (refine wpAnyH_take (i := 17) (v := ?_) rfl (by kernel_rfl) (by kernel_rfl) (by kernel_rfl) (fun _ _ _ h => h) (Or.inl ⟨by rfl, ?_⟩) (by assumption) ?_; rotate_left; (intro wx hSx; obtain ⟨e0, e1⟩ := hSx; go_simp; (try simp only [dlw]); first | done | with_reducible rfl))
                        | (refine wpAnyH_take (i := 17) (v := undef) rfl (by kernel_rfl) (by kernel_rfl) (by kernel_rfl) (fun _ _ _ h => h) (Or.inr ⟨by rfl, rfl⟩) (by assumption) ?_)
                      simp only [Act.put, List.getElem_toArray, List.getElem_cons_succ, List.getElem_cons_zero, List.setIfInBounds_toArray, List.set_cons_zero, List.set_cons_succ]
                      first
                        | (refine wpAnyH_take (i := 18) (v := ?_) rfl (by kernel_rfl) (by kernel_rfl) (by kernel_rfl) (fun _ _ _ h => h) (Or.inl ⟨by rfl, ?_⟩) (by assumption) ?_; rotate_left; (intro wx hSx; obtain ⟨e0, e1⟩ := hSx; go_simp; (try simp only [dlw]); first | done | with_reducible rfl))
                        | (refine wpAnyH_take (i := 18) (v := undef) rfl (by kernel_rfl) (by kernel_rfl) (by kernel_rfl) (fun _ _ _ h => h) (Or.inr ⟨by rfl, rfl⟩) (by assumption) ?_)
                      simp only [Act.put, List.getElem_toArray, List.getElem_cons_succ, List.getElem_cons_zero, List.setIfInBounds_toArray, List.set_cons_zero, List.set_cons_succ]
                      first
                        | (refine wpAnyH_take (i := 19) (v := ?_) rfl (by kernel_rfl) (by kernel_rfl) (by kernel_rfl) (fun _ _ _ h => h) (Or.inl ⟨by rfl, ?_⟩) (by assumption) ?_; rotate_left; (intro wx hSx; obtain ⟨e0, e1⟩ := hSx; go_simp; (try simp only [dlw]); first | done | with_reducible rfl))
                        | (refine wpAnyH_take (i := 19) (v := undef) rfl (by kernel_rfl) (by kernel_rfl) (by kernel_rfl) (fun _ _ _ h => h) (Or.inr ⟨by rfl, rfl⟩) (by assumption) ?_)
                      simp only [Act.put, List.getElem_toArray, List.getElem_cons_succ, List.getElem_cons_zero, List.setIfInBounds_toArray, List.set_cons_zero, List.set_cons_succ]
                      first
                        | (refine wpAnyH_take (i := 20) (v := ?_) rfl (by kernel_rfl) (by kernel_rfl) (by kernel_rfl) (fun _ _ _ h => h) (Or.inl ⟨by rfl, ?_⟩) (by assumption) ?_; rotate_left; (intro wx hSx; obtain ⟨e0, e1⟩ := hSx; go_simp; (try simp only [dlw]); first | done | with_reducible rfl))
                        | (refine wpAnyH_take (i := 20) (v := undef) rfl (by kernel_rfl) (by kernel_rfl) (by kernel_rfl) (fun _ _ _ h => h) (Or.inr ⟨by rfl, rfl⟩) (by assumption) ?_)
                      simp only [Act.put, List.getElem_toArray, List.getElem_cons_succ, List.getElem_cons_zero, List.setIfInBounds_toArray, List.set_cons_zero, List.set_cons_succ]
                      first
                        | (refine wpAnyH_take (i := 21) (v := ?_) rfl (by kernel_rfl) (by kernel_rfl) (by kernel_rfl) (fun _ _ _ h => h) (Or.inl ⟨by rfl, ?_⟩) (by assumption) ?_; rotate_left; (intro wx hSx; obtain ⟨e0, e1⟩ := hSx; go_simp; (try simp only [dlw]); first | done | with_reducible rfl))
                        | (refine wpAnyH_take (i := 21) (v := undef) rfl (by kernel_rfl) (by kernel_rfl) (by kernel_rfl) (fun _ _ _ h => h) (Or.inr ⟨by rfl, rfl⟩) (by assumption) ?_)
                      simp only [Act.put, List.getElem_toArray, List.getElem_cons_succ, List.getElem_cons_zero, List.setIfInBounds_toArray, List.set_cons_zero, List.set_cons_succ]
                      first
                        | (refine wpAnyH_take (i := 22) (v := ?_) rfl (by kernel_rfl) (by kernel_rfl) (by kernel_rfl) (fun _ _ _ h => h) (Or.inl ⟨by rfl, ?_⟩) (by assumption) ?_; rotate_left; (intro wx hSx; obtain ⟨e0, e1⟩ := hSx; go_simp; (try simp only [dlw]); first | done | with_reducible rfl))
                        | (refine wpAnyH_take (i := 22) (v := undef) rfl (by kernel_rfl) (by kernel_rfl) (by kernel_rfl) (fun _ _ _ h => h) (Or.inr ⟨by rfl, rfl⟩) (by assumption) ?_)
                      simp only [Act.put, List.getElem_toArray, List.getElem_cons_succ, List.getElem_cons_zero, List.setIfInBounds_toArray, List.set_cons_zero, List.set_cons_succ]
                      first
                        | (refine wpAnyH_take (i := 23) (v := ?_) rfl (by kernel_rfl) (by kernel_rfl) (by kernel_rfl) (fun _ _ _ h => h) (Or.inl ⟨by rfl, ?_⟩) (by assumption) ?_; rotate_left; (intro wx hSx; obtain ⟨e0, e1⟩ := hSx; go_simp; (try simp only [dlw]); first | done | with_reducible rfl))
                        | (refine wpAnyH_take (i := 23) (v := undef) rfl (by kernel_rfl) (by kernel_rfl) (by kernel_rfl) (fun _ _ _ h => h) (Or.inr ⟨by rfl, rfl⟩) (by assumption) ?_)
                      simp only [Act.put, List.getElem_toArray, List.getElem_cons_succ, List.getElem_cons_zero, List.setIfInBounds_toArray, List.set_cons_zero, List.set_cons_succ]
                      first
                        | (refine wpAnyH_take (i := 24) (v := ?_) rfl (by kernel_rfl) (by kernel_rfl) (by kernel_rfl) (fun _ _ _ h => h) (Or.inl ⟨by rfl, ?_⟩) (by assumption) ?_; rotate_left; (intro wx hSx; obtain ⟨e0, e1⟩ := hSx; go_simp; (try simp only [dlw]); first | done | with_reducible rfl))
                        | (refine wpAnyH_take (i := 24) (v := undef) rfl (by kernel_rfl) (by kernel_rfl) (by kernel_rfl) (fun _ _ _ h => h) (Or.inr ⟨by rfl, rfl⟩) (by assumption) ?_)
                      simp only [Act.put, List.getElem_toArray, List.getElem_cons_succ, List.getElem_cons_zero, List.setIfInBounds_toArray, List.set_cons_zero, List.set_cons_succ]
                      first
                        | (refine wpAnyH_take (i := 25) (v := ?_) rfl (by kernel_rfl) (by kernel_rfl) (by kernel_rfl) (fun _ _ _ h => h) (Or.inl ⟨by rfl, ?_⟩) (by assumption) ?_; rotate_left; (intro wx hSx; obtain ⟨e0, e1⟩ := hSx; go_simp; (try simp only [dlw]); first | done | with_reducible rfl))
                        | (refine wpAnyH_take (i := 25) (v := undef) rfl (by kernel_rfl) (by kernel_rfl) (by kernel_rfl) (fun _ _ _ h => h) (Or.inr ⟨by rfl, rfl⟩) (by assumption) ?_)
                      simp only [Act.put, List.getElem_toArray, List.getElem_cons_succ, List.getElem_cons_zero, List.setIfInBounds_toArray, List.set_cons_zero, List.set_cons_succ]
                      first
                        | (refine wpAnyH_take (i := 26) (v := ?_) rfl (by kernel_rfl) (by kernel_rfl) (by kernel_rfl) (fun _ _ _ h => h) (Or.inl ⟨by rfl, ?_⟩) (by assumption) ?_; rotate_left; (intro wx hSx; obtain ⟨e0, e1⟩ := hSx; go_simp; (try simp only [dlw]); first | done | with_reducible rfl))
                        | (refine wpAnyH_take (i := 26) (v := undef) rfl (by kernel_rfl) (by kernel_rfl) (by kernel_rfl) (fun _ _ _ h => h) (Or.inr ⟨by rfl, rfl⟩) (by assumption) ?_)
                      simp only [Act.put, List.getElem_toArray, List.getElem_cons_succ, List.getElem_cons_zero, List.setIfInBounds_toArray, List.set_cons_zero, List.set_cons_succ]
                      refine wpAnyH_ready (rs := [27]) (by kernel_rfl) (by simp) ?_
                      refine AllReadyH.cons rfl (fun K hK => ?_) AllReadyH.nil
                      go_simp
                      go_at_call 28
                      refine HCE.out.mono ?_
                      rintro en w9 ⟨rfl, b9⟩
                      have HB9 := hide (HBB.out.drew.trans (b9.mono HBB.out.size))
                      have z0 := (b9.cell (p := ⟨w.heap.size, 0, none⟩) (World.block_lt_of_cell? _ _ c0')).trans c0'
                      have z1 := (b9.cell (p := ⟨g, i, none⟩) (World.block_lt_of_cell? _ _ q2')).trans q2'
                      have HHH := hide (And.intro z0 z1)
                      clear b9
                      go_wp2_with fail
                      refine hK.out _ _ ?_ (fun hHeld => ?_)
                      · exact HHH.out
                      clear hK K
                      first
                        | (refine wpAnyH_take (i := 28) (v := ?_) rfl (by kernel_rfl) (by kernel_rfl) (by kernel_rfl) (fun _ _ _ h => h) (Or.inl ⟨by rfl, ?_⟩) (by assumption) ?_; rotate_left; (intro wx hSx; obtain ⟨e0, e1⟩ := hSx; go_simp; (try simp only [dlw]); first | done | with_reducible rfl))
                        | (refine wpAnyH_take (i := 28) (v := undef) rfl (by kernel_rfl) (by kernel_rfl) (by kernel_rfl) (fun _ _ _ h => h) (Or.inr ⟨by rfl, rfl⟩) (by assumption) ?_)
                      simp only [Act.put, List.getElem_toArray, List.getElem_cons_succ, List.getElem_cons_zero, List.setIfInBounds_toArray, List.set_cons_zero, List.set_cons_succ]
                      first
                        | (refine wpAnyH_take (i := 29) (v := ?_) rfl (by kernel_rfl) (by kernel_rfl) (by kernel_rfl) (fun _ _ _ h => h) (Or.inl ⟨by rfl, ?_⟩) (by assumption) ?_; rotate_left; (intro wx hSx; obtain ⟨e0, e1⟩ := hSx; go_simp; (try simp only [dlw]); first | done | with_reducible rfl))
                        | (refine wpAnyH_take (i := 29) (v := undef) rfl (by kernel_rfl) (by kernel_rfl) (by kernel_rfl) (fun _ _ _ h => h) (Or.inr ⟨by rfl, rfl⟩) (by assumption) ?_)
                      simp only [Act.put, List.getElem_toArray, List.getElem_cons_succ, List.getElem_cons_zero, List.setIfInBounds_toArray, List.set_cons_zero, List.set_cons_succ]
                      refine wpAnyH_done (by kernel_rfl) ?_ _
                    · clear HHH hHeld
                      go_wp2
                      go_roundw
                      case rel => exact ⟨i + 1, by omega, by simp, hide (fun t ht => by
                        have ht0 : t = 0 := by have := HI0.out; omega
                        have hti : i = 0 := HI0.out
                        subst ht0
                        unfold badAt
                        have h2 : KS.getD 0 ByteArray.empty = s2 := by rw [List.getD_eq_getElem?_getD, ← HI0.out, HS2.out]; rfl
                        rw [h2, HHB.out]
                        simp), HB9⟩
                      case measure => simp [intOf]; omega
                    · clear HHH hHeld
                      have HX := hide (HBAD.out i hin (by
                        rw [HI0.out]
                        unfold badAt
                        have h2 : KS.getD 0 ByteArray.empty = s2 := by rw [List.getD_eq_getElem?_getD, ← HI0.out, HS2.out]; rfl
                        rw [h2, HHB.out, ← HLN.out]
                        have : decide (0 + 1 < n) = true := by have := HI0.out; simp; omega
                        rw [this]
                        simp))
                      go_wp2
                      go_ret
                      rw [HX.out]
                      exact ⟨rfl, HBW.out.trans (HB9.out.mono HBW.out.size)⟩
                  · have dl : decide ((i : Int) + 1 < (n : Int)) = false := by simp; omega
                    have dln : decide (i + 1 < n) = false := by simp; omega
                    have HBx : Hid (∀ t, t < i + 1 → badAt lv KS t = false) := by
                      refine hide (fun t ht => ?_)
                      obtain rfl : t = 0 := by omega
                      unfold badAt
                      rw [← HLN.out]
                      have : decide (0 + 1 < n) = false := by simp; omega
                      rw [this]
                      simp
                    clear hi0
                    go_wp2
                    go_quiet (fail)
                    go_wp2
                    go_roundw
                    case rel => exact ⟨i + 1, by omega, by simp, HBx, hide (below_drewN HBB.out _)⟩
                    case measure => simp [intOf]; omega
                · obtain ⟨s1, hs1'⟩ : ∃ s, KS[i - 1]? = some s := ⟨KS[i - 1]'(by have := HLN.out; omega), List.getElem?_eq_getElem _⟩
                  obtain ⟨g', hgg, q1, _⟩ := own_str HO2.out hs1'
                  obtain rfl : g = g' := by injection hgg with e; injection e
                  have q1' := (HBB.out.cell (p := ⟨g, i - 1, none⟩) (World.block_lt_of_cell? _ _ q1)).trans q1
                  have HS1 := hide hs1'
                  have HS2 := hide hs2
                  have dd : decide ((0 : Int) < (i : Int)) = true := by simp; omega
                  have ddn : decide (0 < i) = true := by simp; omega
                  have hwi : IntKind.i64.wrap ((i : Int) - 1) = ((i - 1 : Nat) : Int) := by rw [IntKind.wrap_i64]; omega
                  obtain ⟨i1, hi1⟩ : ∃ i1, i1 = i - 1 := ⟨_, rfl⟩
                  rw [← hi1] at q1' hwi
                  have HI1 := hide hi1
                  have hsub : (i : Int) - 1 = (i1 : Int) := by omega
                  have hg1 : KS.getD (i - 1) ByteArray.empty = s1 := by rw [List.getD_eq_getElem?_getD, HS1.out]; rfl
                  have hg2 : KS.getD i ByteArray.empty = s2 := by rw [List.getD_eq_getElem?_getD, HS2.out]; rfl
                  have HG := hide (And.intro hg1 hg2)
                  have hi1n : i1 < n := by omega
                  clear q1 q2 hs1' hs2 hg1 hg2 hgg hi1
                  cases hb1 : sLt s1 s2
                  · have hbl : Op.bytesLess s1.toList s2.toList = false := hb1
                    have HX := hide (HBAD.out i hin (by
                      unfold badAt
                      rw [HG.out.1, HG.out.2, hb1]
                      simp
                      left; omega))
                    clear hi0
                    go_wp2
                    go_quiet (fail)
                    go_wp2
                    go_ret
                    rw [HX.out]
                    exact ⟨rfl, HBW.out.trans ((below_drewN HBB.out _).mono HBW.out.size)⟩
                  · have hbl : Op.bytesLess s1.toList s2.toList = true := hb1
                    by_cases hl1 : i + 1 < n
                    · have dl : decide ((i : Int) + 1 < (n : Int)) = true := by simp; omega
                      have dln : decide (i + 1 < n) = true := by simp; omega
                      have CE := rendsN_any lv s2 wr.drew (by have := HSS.out s2 (List.mem_of_getElem? HS2.out); omega)
                      have HCE := hide CE
                      have hw3 : IntKind.i64.wrap (i1 : Int) = (i1 : Int) := by rw [IntKind.wrap_i64]; omega
                      have hw4 : IntKind.i64.wrap ((i : Int) + 1) = (i : Int) + 1 := by rw [IntKind.wrap_i64]; omega
                      have hb5 : (0 : Int) ≤ (i1 : Int) := by omega
                      have hb6 : (i1 : Int) < (n : Int) := by omega
                      have hb7 : (0 : Int) ≤ (i : Int) := by omega
                      have hb8 : (i : Int) < (n : Int) := by omega
                      clear CE hi0
                      cases hb : endsN lv s2
                      all_goals
                        rw [hb] at HCE
                        have HHB := hide hb
                        clear hb
                        go_wp2
                        go_region_held3 (fun W' => W'.cell? ⟨w.heap.size, 0, none⟩ = some (.int .i64 lv) ∧ W'.cell? ⟨g, i1, none⟩ = some (.string s1) ∧ W'.cell? ⟨g, i, none⟩ = some (.string s2)) (go_keep) (first
                          | (go_at_call 28; refine HCE.out.mono ?_; rintro en w9 ⟨rfl, b9⟩; have HB9 := hide (HBB.out.drew.trans (b9.mono HBB.out.size)); have z0 := (b9.cell (p := ⟨w.heap.size, 0, none⟩) (World.block_lt_of_cell? _ _ c0')).trans c0'; have z1 := (b9.cell (p := ⟨g, i1, none⟩) (World.block_lt_of_cell? _ _ q1')).trans q1'; have z2 := (b9.cell (p := ⟨g, i, none⟩) (World.block_lt_of_cell? _ _ q2')).trans q2'; clear b9))
                      · go_wp2
                        go_roundw
                        case rel => exact ⟨i + 1, by omega, by simp, hide (fun t ht => by
                          by_cases htt : t < i
                          · exact HBD.out t htt
                          · obtain rfl : t = i := by omega
                            unfold badAt
                            rw [HG.out.1, HG.out.2, hb1, HHB.out]
                            simp), HB9⟩
                        case measure => simp [intOf]; omega
                      · have HX := hide (HBAD.out i hin (by
                          unfold badAt
                          rw [HG.out.1, HG.out.2, hb1, HHB.out, ← HLN.out, dln]
                          simp))
                        go_wp2
                        go_ret
                        rw [HX.out]
                        exact ⟨rfl, HBW.out.trans (HB9.out.mono HBW.out.size)⟩
                    · have dl : decide ((i : Int) + 1 < (n : Int)) = false := by simp; omega
                      have dln : decide (i + 1 < n) = false := by simp; omega
                      clear hi0
                      go_wp2
                      go_quiet (fail)
                      go_wp2
                      go_roundw
                      case rel => exact ⟨i + 1, by omega, by simp, hide (fun t ht => by
                        by_cases htt : t < i
                        · exact HBD.out t htt
                        · obtain rfl : t = i := by omega
                          unfold badAt
                          rw [HG.out.1, HG.out.2, hb1, ← HLN.out, dln]
                          simp), hide (below_drewN HBB.out _)⟩
                      case measure => simp [intOf]; omega
              · obtain rfl : i = n := by omega
                have HGOOD : Hid (nodeE ⟨lv, es, ks⟩ = if ∃ k ∈ ks, k.i = 0 then 90 else 0) := by
                  refine hide ?_
                  unfold nodeE
                  simp only
                  rw [if_neg (by rw [HFE0.out]; simp), if_neg (by rw [HFK0.out]; simp), if_neg (by rw [HSH.out]; simp), if_neg]
                  rintro ⟨t, h1, h2⟩
                  unfold Nd.keys at h1 h2
                  simp only at h1 h2
                  rw [← HKS.out] at h1 h2
                  rw [HBD.out t (by have := HLN.out; omega)] at h2
                  cases h2
                have c2' := (HBB.out.cell (p := ⟨w.heap.size, 2, none⟩) (World.block_lt_of_cell? _ _ c2)).trans c2
                obtain ⟨W3, hW3⟩ : ∃ W3, W3 = wr := ⟨_, rfl⟩
                subst hW3
                clear hi hin
                go_wp2
                go_loopw [140] (fun v W => ∃ t : Nat, t ≤ j ∧ v = .int .i64 t ∧ Hid (∀ e ∈ ks.take t, e.i ≠ 0) ∧ Hid (Below W3.heap.size W3 W)) (fun v _ => j - (intOf v).toNat)
                case atStart => exact ⟨0, Nat.zero_le _, rfl, hide (by simp), hide (Below.refl _ _)⟩
                case round =>
                  obtain ⟨t, ht, rfl, HT, HBT⟩ := hrel
                  by_cases htj : t < j
                  · obtain ⟨e, hek⟩ : ∃ e, ks[t]? = some e := ⟨ks[t]'(by have := HNK.out; omega), List.getElem?_eq_getElem _⟩
                    obtain ⟨g, o, rfl, q1, q2⟩ := HK.out t e hek
                    have HB7 := hide (HB.out.trans ((HBB.out.mono HB.out.size).trans (HBT.out.mono (Nat.le_trans HB.out.size HBB.out.size))))
                    have q1' := (HB7.out.cell (p := ⟨g, o + t * 2, none⟩) (World.block_lt_of_cell? _ _ q1)).trans q1
                    have q2' := (HB7.out.cell (p := ⟨g, o + t * 2 + 1, none⟩) (World.block_lt_of_cell? _ _ q2)).trans q2
                    obtain ⟨ek, ei⟩ := e
                    simp only at q1' q2'
                    have hte : ks.take (t + 1) = ks.take t ++ [⟨ek, ei⟩] := by rw [List.take_add_one, hek]; rfl
                    have HTE := hide hte
                    have HEK := hide hek
                    have HBA := hide (HBT.out.alloc HBT.out.size (.cells #[.string ek, .int .u64 ei] 58))
                    clear hte hek q1 q2
                    by_cases hz : ei = 0
                    · have hz1 : ((ei : Int) == 0) = true := by simp; omega
                      have hz2 : (ei == 0) = true := by simp; omega
                      have HX : Hid (nodeE ⟨lv, es, ks⟩ = 90) := hide (by rw [HGOOD.out, if_pos ⟨_, List.mem_of_getElem? HEK.out, hz⟩])
                      clear hz
                      go_wp2
                      go_ret
                      rw [HX.out]
                      exact ⟨rfl, HBW.out.trans ((HBB.out.trans (HBA.out.mono HBB.out.size)).mono HBW.out.size)⟩
                    · have hz1 : ((ei : Int) == 0) = false := by simp; omega
                      have hz2 : (ei == 0) = false := by simp; omega
                      have HT2 : Hid (∀ e ∈ ks.take (t + 1), e.i ≠ 0) := by
                        refine hide (fun e he => ?_)
                        rw [HTE.out] at he
                        rcases List.mem_append.1 he with q | q
                        · exact HT.out e q
                        · simp at q
                          subst q
                          exact hz
                      clear hz
                      go_wp2
                      go_roundw
                      case rel => exact ⟨t + 1, by omega, by simp, HT2, HBA⟩
                      case measure => simp [intOf]; omega
                  · obtain rfl : t = j := by omega
                    have HX : Hid (nodeE ⟨lv, es, ks⟩ = 0) := by
                      refine hide ?_
                      rw [HGOOD.out, if_neg]
                      rintro ⟨e, he, hz⟩
                      have q := HT.out
                      rw [HNK.out, List.take_length] at q
                      exact q e he hz
                    go_wp2
                    go_ret
                    rw [HX.out]
                    exact ⟨rfl, HBW.out.trans ((HBB.out.trans (HBT.out.mono HBB.out.size)).mono HBW.out.size)⟩
end Go.Proofs.Ytandjkogpdamcaa
