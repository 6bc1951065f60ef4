/- The document's Keys, over the translation: its walk. -/
import Derived.Test.YtoneedobhopkkaaDKe
namespace Go.Proofs.Ytoneedobhopkkaa
open Go.RowKit Apo
attribute [local go_sem ↓] app_exec
set_option maxRecDepth 100000 in
set_option maxHeartbeats 8000000 in
theorem rkeys_any (w : World) (a : Option Addr) (c : Nat) (ms : List (Option Addr × Nat × List En)) (h : RdM w a ms) (hl : ms.length ≤ 1000) (hn : ((ms.flatMap (fun m => m.2.2)).length ≤ 1000000)) :
    Calls Try.prog 23 #[.slice a ms.length c] w (DKeP (fun ks => KsS ks ((ms.flatMap (fun m => m.2.2)).map En.k)) w) := by
  obtain ⟨n, hnn⟩ : ∃ n, n = ms.length := ⟨_, rfl⟩
  have HN := hide hnn
  have HR := hide h
  have HT := hide hn
  rw [← hnn] at hl ⊢
  clear h hnn hn
  go_enter Try.func23, Try.ntmps23
  go_wp2
  go_loopw [3, 11] (fun v i wr => ∃ (j : Nat) (ks : List ByteArray) (va : Option Addr) (vc nk : Nat), j ≤ n ∧ i = .int .i64 j ∧ v = .slice va nk vc ∧ Hid (nk = ks.length) ∧ Hid (KeJ w ks (((ms.take j).flatMap (fun m => m.2.2)).map En.k) va vc wr)) (fun _ i _ => n - (intOf i).toNat)
  case atStart => exact ⟨0, [], none, 0, 0, Nat.zero_le _, rfl, rfl, hide rfl, hide ⟨Row.nil _ _ _ _, Below.refl _ _, by simpa using KsS.nil, fun _ => ⟨rfl, rfl⟩⟩⟩
  case round =>
    obtain ⟨j, ks, va, vc, nk, hj, rfl, rfl, HNK, HJ⟩ := hrel
    by_cases hjn : j < n
    · obtain ⟨⟨ma, mc, l⟩, hm⟩ : ∃ m, ms[j]? = some m := ⟨ms[j]'(by have := HN.out; omega), List.getElem?_eq_getElem _⟩
      obtain ⟨⟨g, o, rfl, q1⟩, q2⟩ := (HR.out.below HJ.out.2.1) j _ hm
      simp only at q1 q2
      obtain ⟨ln, hln⟩ : ∃ ln, ln = l.length := ⟨_, rfl⟩
      rw [← hln] at q1
      have hto : ((ms.take j).flatMap (fun m => m.2.2)).length + l.length ≤ (ms.flatMap (fun m => m.2.2)).length := by
        have h1 : ms = ms.take j ++ (⟨ma, mc, l⟩ :: ms.drop (j + 1)) := by
          have := List.take_append_drop j ms
          rw [List.drop_eq_getElem_cons (by have := HN.out; omega)] at this
          have hmm := (List.getElem?_eq_some_iff.1 hm).2
          rw [hmm] at this
          exact this.symm
        conv => rhs; rw [h1]
        simp
      have htake : (ms.take (j + 1)).flatMap (fun m => m.2.2) = (ms.take j).flatMap (fun m => m.2.2) ++ l := by
        rw [List.take_add_one, hm, List.flatMap_append]
        simp
      have hlm : ln ≤ 1000000 := by have := HT.out; omega
      have HLN := hide hln
      have HTO := hide hto
      have HTK := hide htake
      have HQ2 := hide q2
      have HJ0 := HJ
      obtain ⟨w0, hw0⟩ : ∃ w0, w0 = wr := ⟨_, rfl⟩
      clear hm hln hto htake q2
      go_wp2
      rw [← hw0]
      rw [← hw0] at HJ HJ0 HQ2
      clear q1 hw0
      go_loopw [3, 17] (fun v i wr => ∃ (k : Nat) (ks : List ByteArray) (va : Option Addr) (vc nk : Nat), k ≤ ln ∧ i = .int .i64 k ∧ v = .slice va nk vc ∧ Hid (nk = ks.length) ∧ Hid (KeJ w ks ((((ms.take j).flatMap (fun m => m.2.2)) ++ l.take k).map En.k) va vc wr) ∧ Hid (RdEn wr ma l)) (fun _ i _ => ln - (intOf i).toNat)
      case atStart => exact ⟨0, ks, va, vc, nk, Nat.zero_le _, rfl, rfl, HNK, hide (by simpa using HJ.out), HQ2⟩
      case round =>
        clear HNK HJ HJ0 HQ2
        obtain ⟨k, ks, va, vc, nk, hk, rfl, rfl, HNK, HJ, HRE⟩ := hrel
        obtain ⟨wl, rfl⟩ : ∃ wl, wl = wr := ⟨_, rfl⟩
        by_cases hkn : k < ln
        · obtain ⟨⟨ek, ev⟩, hx⟩ : ∃ x, l[k]? = some x := ⟨l[k]'(by have := HLN.out; omega), List.getElem?_eq_getElem _⟩
          obtain ⟨gm, om, rfl, p1, p2⟩ := HRE.out k _ hx
          simp only at p1 p2
          obtain ⟨W1, hW1⟩ : ∃ W1, W1 = wl.alloc (.cells #[.string ek, .string ev] 47) := ⟨_, rfl⟩
          have b1 : Below wl.heap.size wl W1 := by rw [hW1]; exact (Below.refl _ wl).alloc (Nat.le_refl _) _
          have kb : Ob W1 wl.heap.size 47 [.string ek, .string ev] := by rw [hW1]; exact Ob.new wl [.string ek, .string ev] 47
          have HKB := hide kb
          have HB1 := hide b1
          have hkl : nk ≤ 1000000 := by
            have h1 := HJ.out.2.2.1.len
            have h2 := HNK.out
            have h3 := HTO.out
            have h4 := HT.out
            have h5 := HLN.out
            simp only [List.length_map, List.length_append, List.length_take] at h1
            omega
          have HS2 : Hid ((((ms.take j).flatMap (fun m => m.2.2)) ++ l.take (k + 1)).map En.k = (((ms.take j).flatMap (fun m => m.2.2)) ++ l.take k).map En.k ++ [ek]) := hide (by rw [List.take_add_one, hx]; simp)
          have hrow1 := HJ.out.1.onl (F := fun _ => False) (Onl.ofBelow b1) (fun _ _ q => q)
          have HRW := hide hrow1
          clear hx b1 kb hrow1
          go_wp2
          rw [← hW1]
          clear hW1 p1 p2
          go_loopw [8] (fun v wq => ∃ i : Nat, i ≤ nk ∧ v = .int .i64 i ∧ Hid (∀ t y, t < i → ks[t]? = some y → sLt y ek = true) ∧ Hid (Below W1.heap.size W1 wq)) (fun v _ => nk - (intOf v).toNat)
          case atStart => exact ⟨0, Nat.zero_le _, rfl, hide (fun t y ht => absurd ht (by omega)), hide (Below.refl _ _)⟩
          case round =>
            obtain ⟨i, hi, rfl, HI, HBq⟩ := hrel
            have kbq := HKB.out.old HBq.out
            have e0 := kbq.cell 0
            simp only [List.getElem?_cons_zero] at e0
            have rowq := HRW.out.onl (F := fun _ => False) (Onl.ofBelow HBq.out) (fun _ _ q => q)
            by_cases hin : i < nk
            · obtain ⟨y, hy⟩ : ∃ y, ks[i]? = some y := ⟨ks[i]'(by have := HNK.out; omega), List.getElem?_eq_getElem _⟩
              obtain ⟨a', cp', hv', rd', _, _, _, ho'⟩ := rd_gcells cTx_len rowq
              injection hv' with hv1 hv2 hv3
              subst hv1 hv3
              obtain ⟨g', o', rfl, c0⟩ := rd'.tx hy
              obtain ⟨g2, hg2, hgw⟩ := ho' _ rfl
              obtain ⟨rfl, rfl⟩ : g' = g2 ∧ o' = 0 := by cases hg2; exact ⟨rfl, rfl⟩
              simp only [Nat.zero_add] at c0
              have hd : decide ((i : Int) < (nk : Int)) = true := decide_eq_true (by omega)
              have hdn : decide (i < nk) = true := decide_eq_true hin
              cases hb : sLt y ek
              · have hb' : Op.bytesLess y.toList ek.toList = false := hb
                by_cases hyk : y = ek
                · have hd2 : (y.toList == ek.toList) = true := by rw [hyk]; simp
                  have HF : Hid (∀ W, Below W1.heap.size W1 W → KeJ w ks ((((ms.take j).flatMap (fun m => m.2.2)) ++ l.take (k + 1)).map En.k) (some ⟨g', 0, none⟩) vc W) := hide (fun W hW => by
                    have hb2 := HB1.out.trans (hW.mono HB1.out.size)
                    have hJ := HJ.out
                    rw [HS2.out]
                    exact ⟨hJ.1.onl (F := fun _ => False) (Onl.ofBelow hb2) (fun _ _ q => q), hJ.2.1.trans (hb2.mono hJ.2.1.size), hJ.2.2.1.skip (by rw [← hyk]; exact List.mem_of_getElem? hy), hJ.2.2.2⟩)
                  have HRF : Hid (∀ W, Below W1.heap.size W1 W → RdEn W (some ⟨gm, om, none⟩) l) := hide (fun W hW => HRE.out.below (HB1.out.trans (hW.mono HB1.out.size)))
                  clear hb hy HI rowq kbq hv2 ho' hgw hg2 rd' hyk
                  go_wp2
                  go_quiet (fail)
                  go_wp2
                  obtain ⟨W2, hW2⟩ : ∃ W2, W2 = wr.drewN nq := ⟨_, rfl⟩
                  have b2 : Below W1.heap.size W1 W2 := by rw [hW2]; exact below_drewN HBq.out _
                  have c0' : W2.cell? ⟨g', i, none⟩ = some (.string y) := by rw [hW2]; exact c0
                  have e0' : W2.cell? ⟨wl.heap.size, 0, none⟩ = some (.string ek) := by rw [hW2]; exact e0
                  rw [← hW2]
                  have HB2 := hide b2
                  clear hW2 b2 c0 e0
                  go_quiet (fail)
                  go_wp2
                  go_roundw
                  case rel => exact ⟨k + 1, ks, some ⟨g', 0, none⟩, vc, nk, by omega, by simp, rfl, HNK, hide (HF.out _ (below_drewN HB2.out _)), hide (HRF.out _ (below_drewN HB2.out _))⟩
                  case measure => simp [intOf]; omega
                · have hd2 : (y.toList == ek.toList) = false := by
                    cases q : (y.toList == ek.toList) with
                    | false => rfl
                    | true => exact absurd (bytes_of_list (by simpa using q)) hyk
                  clear hb rowq kbq hv2 ho' hgw hg2 rd'
                  go_wp2
                  go_quiet (fail)
                  go_wp2
                  obtain ⟨W2, hW2⟩ : ∃ W2, W2 = wr.drewN nq := ⟨_, rfl⟩
                  have b2 : Below W1.heap.size W1 W2 := by rw [hW2]; exact below_drewN HBq.out _
                  have c0' : W2.cell? ⟨g', i, none⟩ = some (.string y) := by rw [hW2]; exact c0
                  have e0' : W2.cell? ⟨wl.heap.size, 0, none⟩ = some (.string ek) := by rw [hW2]; exact e0
                  rw [← hW2]
                  have HB2 := hide b2
                  clear hW2 b2 c0 e0
                  go_quiet (fail)
                  go_wp2
                  obtain ⟨W3, hW3⟩ : ∃ W3, W3 = W2.drewN nq := ⟨_, rfl⟩
                  have b3 : Below W1.heap.size W1 W3 := by rw [hW3]; exact below_drewN HB2.out _
                  have e0 : W3.cell? ⟨wl.heap.size, 0, none⟩ = some (.string ek) := by rw [hW3]; exact e0'
                  rw [← hW3]
                  clear hW3 e0' c0' HB2
                  have row3 := HRW.out.onl (F := fun _ => False) (Onl.ofBelow b3) (fun _ _ q => q)
                  obtain ⟨a1, c1, n1, w1, a2, c2, w2, R1, R2, r2, bb2⟩ := ins_mid (i := i) row3 ek (by have := HNK.out; omega) (by have := HNK.out; omega)
                  have hiv : nk ≤ vc ∧ vc ≤ maxLen := by
                    obtain ⟨_, _, hv, h1, h2, _⟩ := row3.form
                    injection hv with _ _ h3
                    subst h3
                    have := HNK.out
                    omega
                  have hnv := hiv.1
                  have hvm : vc ≤ 9223372036854775807 := by have := hiv.2; unfold maxLen at this; omega
                  have hie : ¬ vc = i := by omega
                  obtain ⟨n2, hn2⟩ : ∃ n2, n2 = (ks.take i ++ ek :: ks.drop i).length := ⟨_, rfl⟩
                  have hbb : Below wl.heap.size wl w2 := (HB1.out.trans (b3.mono HB1.out.size)).trans (bb2.mono (by have := HB1.out.size; have := b3.size; omega))
                  have HF : Hid (KeJ w (ks.take i ++ ek :: ks.drop i) ((((ms.take j).flatMap (fun m => m.2.2)) ++ l.take (k + 1)).map En.k) a2 c2 w2) := by
                    have hJ := HJ.out
                    refine hide ⟨r2.mono (fun g hg => by have := hJ.2.1.size; have := HB1.out.size; have := b3.size; omega), hJ.2.1.trans (hbb.mono hJ.2.1.size), ?_, fun q => by simp at q⟩
                    rw [HS2.out]
                    refine hJ.2.2.1.put (by have := HNK.out; omega) HI.out (fun z hz => ?_)
                    rw [hy] at hz
                    cases hz
                    cases q : sLt ek y with
                    | true => rfl
                    | false => exact absurd (sLt_conn hb' q) hyk
                  have HRF : Hid (RdEn w2 (some ⟨gm, om, none⟩) l) := hide (HRE.out.below hbb)
                  have HN2 := hide hn2
                  rw [← hn2] at R2
                  rw [← HNK.out] at R1
                  obtain ⟨z1, z2, z3⟩ := app_runs R1
                  obtain ⟨z4, z5, z6⟩ := app_runs R2
                  clear R1 R2 r2 bb2 hbb hn2 row3 hiv hy HI b3 hyk
                  go_region
                  go_wp2
                  go_roundw
                  case rel => exact ⟨k + 1, ks.take i ++ ek :: ks.drop i, a2, c2, n2, by omega, by simp, rfl, HN2, HF, HRF⟩
                  case measure => simp [intOf]; omega
              · have hb' : Op.bytesLess y.toList ek.toList = true := hb
                have HI2 : Hid (∀ t y, t < i + 1 → ks[t]? = some y → sLt y ek = true) := hide (fun t z ht hz => by
                  by_cases q : t < i
                  · exact HI.out t z q hz
                  · obtain rfl : t = i := by omega
                    rw [hy] at hz
                    cases hz
                    exact hb)
                clear hb hy HI rowq kbq hv2 ho' hgw hg2 rd'
                go_wp2
                go_quiet (fail)
                go_wp2
                go_roundw
                case rel => exact ⟨i + 1, by omega, by simp, HI2, hide (below_drewN HBq.out _)⟩
                case measure => simp [intOf]; omega
            · obtain rfl : i = nk := by omega
              have hd : decide ((i : Int) < (i : Int)) = false := decide_eq_false (by omega)
              have hdn : decide (i < i) = false := decide_eq_false (by omega)
              clear rowq kbq
              go_wp2
              go_quiet (fail)
              go_wp2
              obtain ⟨W2, hW2⟩ : ∃ W2, W2 = wr.drewN nq := ⟨_, rfl⟩
              have b2 : Below W1.heap.size W1 W2 := by rw [hW2]; exact below_drewN HBq.out _
              have e0' : W2.cell? ⟨wl.heap.size, 0, none⟩ = some (.string ek) := by rw [hW2]; exact e0
              rw [← hW2]
              have HB2 := hide b2
              clear hW2 b2 e0
              go_quiet (fail)
              go_wp2
              obtain ⟨W3, hW3⟩ : ∃ W3, W3 = W2.drewN nq := ⟨_, rfl⟩
              have b3 : Below W1.heap.size W1 W3 := by rw [hW3]; exact below_drewN HB2.out _
              have e0 : W3.cell? ⟨wl.heap.size, 0, none⟩ = some (.string ek) := by rw [hW3]; exact e0'
              rw [← hW3]
              clear hW3 e0' HB2
              have row3 := HRW.out.onl (F := fun _ => False) (Onl.ofBelow b3) (fun _ _ q => q)
              by_cases hks : ks = []
              · obtain ⟨rfl, rfl⟩ := HJ.out.2.2.2 hks
                obtain rfl : i = 0 := by rw [HNK.out, hks]; rfl
                obtain ⟨a2, c2, w2, R1, R2, r2, bb2⟩ := ins_first W3 ek
                have hbb : Below wl.heap.size wl w2 := (HB1.out.trans (b3.mono HB1.out.size)).trans (bb2.mono (by have := HB1.out.size; have := b3.size; omega))
                have HF : Hid (KeJ w [ek] ((((ms.take j).flatMap (fun m => m.2.2)) ++ l.take (k + 1)).map En.k) a2 c2 w2) := by
                  have hJ := HJ.out
                  refine hide ⟨r2.mono (fun g hg => by have := hJ.2.1.size; have := HB1.out.size; have := b3.size; omega), hJ.2.1.trans (hbb.mono hJ.2.1.size), ?_, fun q => by simp at q⟩
                  rw [HS2.out]
                  have := hJ.2.2.1.put (i := 0) (key := ek) (by omega) (fun t y ht => absurd ht (by omega)) (fun z hz => by rw [hks] at hz; simp at hz)
                  rw [hks] at this
                  simpa using this
                have HRF : Hid (RdEn w2 (some ⟨gm, om, none⟩) l) := hide (HRE.out.below hbb)
                obtain ⟨z1, z2, z3⟩ := app_runs R1
                obtain ⟨z4, z5, z6⟩ := app_runs R2
                clear R1 R2 r2 bb2 hbb row3 HI b3 hks
                go_region
                go_wp2
                go_roundw
                case rel => exact ⟨k + 1, [ek], a2, c2, 1, by omega, by simp, rfl, hide rfl, HF, HRF⟩
                case measure => simp [intOf]; omega
              · have hpos : 0 < ks.length := List.length_pos_iff.2 hks
                obtain ⟨g', cp, hvv, _, _, hiv1, hiv2, _, _⟩ := row3.shape hpos
                injection hvv with e1 e2 e3
                subst e1 e3
                have hnv : i ≤ vc := by have := HNK.out; omega
                have hvm : vc ≤ 9223372036854775807 := by have := hiv2; unfold maxLen at this; omega
                obtain ⟨n2, hn2⟩ : ∃ n2, n2 = (ks ++ [ek]).length := ⟨_, rfl⟩
                have tail : ∀ (x : Option Addr), ∃ a2 c2 w2, (Builtin.append_ #[44, 44] 44 #[.slice (some ⟨W3.heap.size, 0, none⟩) 1 1, .slice x 0 (vc - i)]).run Try.prog (W3.alloc (.cells #[.string ek] 9)).drew = .ok (.slice (some ⟨W3.heap.size, 0, none⟩) 1 1) (W3.alloc (.cells #[.string ek] 9)).drew ∧
                    (Builtin.append_ #[44, 44] 44 #[.slice (some ⟨g', 0, none⟩) i i, .slice (some ⟨W3.heap.size, 0, none⟩) 1 1]).run Try.prog (W3.alloc (.cells #[.string ek] 9)).drew = .ok (.slice a2 n2 c2) w2 ∧ Hid (KeJ w (ks ++ [ek]) ((((ms.take j).flatMap (fun m => m.2.2)) ++ l.take (k + 1)).map En.k) a2 c2 w2) ∧ Hid (RdEn w2 (some ⟨gm, om, none⟩) l) := by
                  intro x
                  obtain ⟨a2, c2, w2, R1, R2, r2, bb2⟩ := ins_end row3 ek (by have := HNK.out; omega) x (vc - i)
                  have hbb : Below wl.heap.size wl w2 := (HB1.out.trans (b3.mono HB1.out.size)).trans (bb2.mono (by have := HB1.out.size; have := b3.size; omega))
                  rw [← HNK.out, ← hn2] at R2
                  refine ⟨a2, c2, w2, R1, R2, ?_, hide (HRE.out.below hbb)⟩
                  have hJ := HJ.out
                  refine hide ⟨r2.mono (fun g hg => by have := hJ.2.1.size; have := HB1.out.size; have := b3.size; omega), hJ.2.1.trans (hbb.mono hJ.2.1.size), ?_, fun q => by simp at q⟩
                  rw [HS2.out]
                  have := hJ.2.2.1.put (i := ks.length) (key := ek) (Nat.le_refl _) (fun t y ht hy => HI.out t y (by have := HNK.out; omega) hy) (fun z hz => by simp at hz)
                  simpa using this
                have HN2 := hide hn2
                clear hn2 row3 b3 hks e2 hiv1 hpos HI
                by_cases hie : vc = i
                · subst hie
                  obtain ⟨a2, c2, w2, R1, R2, HF, HRF⟩ := tail (some ⟨g', 0, none⟩)
                  rw [Nat.sub_self] at R1
                  obtain ⟨z1, z2, z3⟩ := app_runs R1
                  obtain ⟨z4, z5, z6⟩ := app_runs R2
                  clear R1 R2 tail
                  go_region
                  go_wp2
                  go_roundw
                  case rel => exact ⟨k + 1, ks ++ [ek], a2, c2, n2, by omega, by simp, rfl, HN2, HF, HRF⟩
                  case measure => simp [intOf]; omega
                · obtain ⟨a2, c2, w2, R1, R2, HF, HRF⟩ := tail (some ⟨g', i, none⟩)
                  obtain ⟨z1, z2, z3⟩ := app_runs R1
                  obtain ⟨z4, z5, z6⟩ := app_runs R2
                  clear R1 R2 tail
                  go_region
                  go_wp2
                  go_roundw
                  case rel => exact ⟨k + 1, ks ++ [ek], a2, c2, n2, by omega, by simp, rfl, HN2, HF, HRF⟩
                  case measure => simp [intOf]; omega
        · have HF : Hid (KeJ w ks (((ms.take (j + 1)).flatMap (fun m => m.2.2)).map En.k) va vc wl) := by
            have := HJ.out
            rw [show l.take k = l from List.take_of_length_le (by have := HLN.out; omega), ← HTK.out] at this
            exact hide this
          clear HJ
          go_wp2
          go_roundw
          case rel => exact ⟨j + 1, ks, va, vc, nk, by omega, by simp, rfl, HNK, HF⟩
          case measure => simp [intOf]; omega
    · have HF : Hid (DKeP (fun ks => KsS ks ((ms.flatMap (fun m => m.2.2)).map En.k)) w (.returned (.slice va nk vc)) wr) := by
        have := HJ.out
        rw [List.take_of_length_le (by have := HN.out; omega)] at this
        exact hide ⟨ks, va, vc, by rw [HNK.out], this.2.2.1, this.1, this.2.1⟩
      clear HJ
      go_wp2
      go_ret
      exact HF.out
end Go.Proofs.Ytoneedobhopkkaa
