/- The program's Put of layer 9, over the translation. -/
import Derived.Test.YtandjkogpdamcaaNeQ
import Derived.Test.YtandjkogpdamcaaWrO
import Derived.Test.YtandjkogpdamcaaCln
namespace Go.Proofs.Ytandjkogpdamcaa
open Go.RowKit Apo
set_option maxRecDepth 100000 in
set_option maxHeartbeats 8000000 in
theorem put_node (w : World) (x : NdA) (hx : OkN w x) (he : x.n.es.length ≤ 1000000) (hk : x.n.ks.length ≤ 1000000) :
    Calls Try.prog 9 #[.agg x.cells.toArray] w (PnP w x.n) := by
  have hxx := hx
  obtain ⟨⟨lv, es, ks⟩, ea, ec, ka, kc⟩ := x
  simp only [NdA.cells] at hx he hk ⊢
  obtain ⟨ne, hne⟩ : ∃ ne, ne = es.length := ⟨_, rfl⟩
  obtain ⟨nk, hnk⟩ : ∃ nk, nk = ks.length := ⟨_, rfl⟩
  obtain ⟨W0, hW0⟩ : ∃ W0, W0 = w.alloc (.cells #[.int .i64 lv, .slice ea ne ec, .slice ka nk kc] 25) := ⟨_, rfl⟩
  have kb : Ob W0 w.heap.size 25 [.int .i64 lv, .slice ea ne ec, .slice ka nk kc] := by rw [hW0]; exact Ob.new w [.int .i64 lv, .slice ea ne ec, .slice ka nk kc] 25
  have b0 : Below w.heap.size w W0 := by rw [hW0]; exact (Below.refl _ w).alloc (Nat.le_refl _) _
  have s0 : W0.heap.size = w.heap.size + 1 := by rw [hW0]; simp
  have x0 := hx.below b0
  have CN := right_any W0 _ (hxx.below b0) he hk
  simp only [NdA.cells] at CN
  rw [← hne] at CN he ⊢
  rw [← hnk] at CN hk ⊢
  have HE := hide x0.es
  have HK := hide x0.ks
  have HKZ := hide x0.kz
  have hlv := x0.lv
  simp only at hlv HE HK HKZ
  have HNE := hide hne
  have HNK := hide hnk
  have HB0 := hide b0
  have HCN := hide CN
  have HBX := hide (fun (W : World) (b : Below W0.heap.size W0 W) => kb.old b)
  obtain ⟨NE, hNE⟩ : ∃ NE, NE = nodeE ⟨lv, es, ks⟩ := ⟨_, rfl⟩
  rw [← hNE] at HCN
  have HNEE := hide hNE
  rw [hW0] at HCN
  clear hx hxx x0 hne hnk kb b0 CN hNE
  by_cases hz : NE = 0
  · obtain ⟨g1, g2, g3, g4, g5, g6⟩ := nodeE_ok (n := ⟨lv, es, ks⟩) (by rw [← HNEE.out]; exact hz)
    simp only at g1 g2 g3 g4
    have HG1 := hide g1
    have HG2 := hide g2
    subst hz
    clear g1 g2 g5 g6
    have hwl : IntKind.u64.wrap lv = lv := by rw [IntKind.wrap_u64]; omega
    have hws : IntKind.i64.wrap ((ne : Int) + (nk : Int)) = (ne : Int) + (nk : Int) := by rw [IntKind.wrap_i64]; omega
    have hwt : IntKind.u64.wrap ((ne : Int) + (nk : Int)) = (ne : Int) + (nk : Int) := by rw [IntKind.wrap_u64]; omega
    go_enter Try.func9, Try.ntmps9
    go_wp2_with fail
    refine HCN.out.mono ?_
    rintro e w1 ⟨rfl, b1⟩
    rw [← hW0] at b1
    have HB1 := hide b1
    have s1 := b1.size
    have bw : Below w1.heap.size w1 (w1.alloc (.cells #[.slice none 0 0] 61)) := (Below.refl _ _).alloc (Nat.le_refl _) _
    have kx := HBX.out _ (b1.trans (bw.mono s1))
    have y0 := kx.cell 0
    have y1 := kx.cell 1
    have y2 := kx.cell 2
    simp only [List.getElem?_cons_zero, List.getElem?_cons_succ] at y0 y1 y2
    have HC2 := hide (wnum_two_o w1.heap.size [] lv ((ne : Int) + (nk : Int)) _ (w1.heap.size + 1) (by simp) (Wro.new w1) (by omega) (by omega) (by omega) (by omega) (by simp))
    clear b1 kx HCN
    go_wp2_with fail
    refine HC2.out.mono ?_
    rintro e w3 ⟨rfl, o3, f3⟩
    have hel := enc_len lv.toNat
    have hel2 := enc_len (ne + nk)
    have etn : ((ne : Int) + (nk : Int)).toNat = ne + nk := by omega
    rw [etn, List.nil_append] at o3
    obtain ⟨P0, hP0⟩ : ∃ P0, P0 = enc lv.toNat ++ enc (ne + nk) := ⟨_, rfl⟩
    rw [← hP0] at o3
    have hP0l : P0.length ≤ 40 := by rw [hP0, List.length_append]; omega
    have B3 : Below W0.heap.size W0 w3 := Below.onl (HB1.out.trans (bw.mono s1)) f3 (fun i q => by omega) (Nat.le_refl _)
    have HB3 := hide B3
    have z3 := f3.size
    simp only [World.size_alloc] at z3
    have kx := HBX.out w3 B3
    have t1 := kx.cell 1
    have t2 := kx.cell 2
    simp only [List.getElem?_cons_zero, List.getElem?_cons_succ] at t1 t2
    obtain ⟨p, hp⟩ : ∃ p, p = w1.heap.size := ⟨_, rfl⟩
    rw [← hp] at o3
    have HO3 := hide (o3.mono (O' := fun i => W0.heap.size ≤ i ∧ i < w3.heap.size) (fun i q => by
      rcases q with q | q
      · exact ⟨by omega, by omega⟩
      · have q1 := q.1; have q2 := q.2; simp only [World.size_alloc] at q1; exact ⟨by omega, by omega⟩))
    have HP0 := hide hP0
    rw [← hp]
    clear o3 f3 kx hP0 hel hel2 bw B3 HC2 y0 y1 y2 hp
    go_wp2
    go_loopw [35] (fun i wr => ∃ k : Nat, k ≤ ne ∧ i = .int .i64 k ∧ Hid (Wro (fun i => W0.heap.size ≤ i ∧ i < wr.heap.size) wr p (P0 ++ (es.take k).flatMap enB)) ∧ Hid (Below W0.heap.size W0 wr)) (fun i _ => ne - (intOf i).toNat)
    case atStart => exact ⟨0, Nat.zero_le _, rfl, hide (by simpa using HO3.out), HB3⟩
    case round =>
      obtain ⟨k, hk1, rfl, HO, HB⟩ := hrel
      have hs1 := HB.out.size
      have hnl : (P0 ++ (es.take k).flatMap enB).length ≤ 400000000 := by
        have h1 : ((es.take k).flatMap enB).length ≤ 300 * (es.take k).length := flat_len (fun e he => enB_len (HG1.out e (List.mem_of_mem_take he)).1.2 (HG1.out e (List.mem_of_mem_take he)).2)
        have h2 : (es.take k).length ≤ ne := by rw [List.length_take, HNE.out]; omega
        rw [List.length_append]
        have h4 : 300 * (es.take k).length ≤ 300 * ne := Nat.mul_le_mul_left _ h2
        omega
      by_cases hkn : k < ne
      · obtain ⟨e, hek⟩ : ∃ e, es[k]? = some e := ⟨es[k]'(by have := HNE.out; omega), List.getElem?_eq_getElem _⟩
        obtain ⟨g, o, rfl, q1, q2⟩ := HE.out k e hek
        have q1' := (HB.out.cell (p := ⟨g, o + k * 2, none⟩) (World.block_lt_of_cell? _ _ q1)).trans q1
        have q2' := (HB.out.cell (p := ⟨g, o + k * 2 + 1, none⟩) (World.block_lt_of_cell? _ _ q2)).trans q2
        have hsz := HG1.out e (List.mem_of_getElem? hek)
        obtain ⟨ek, ev⟩ := e
        simp only at q1' q2' hsz
        have hte : (es.take (k + 1)).flatMap enB = (es.take k).flatMap enB ++ enB ⟨ek, ev⟩ := by rw [List.take_add_one, hek]; simp
        obtain ⟨W1, hW1⟩ : ∃ W1, W1 = wr.alloc (.cells #[.string ek, .string ev] 55) := ⟨_, rfl⟩
        have b1 : Below W0.heap.size W0 W1 := by rw [hW1]; exact HB.out.alloc hs1 _
        have bb1 : Below wr.heap.size wr W1 := by rw [hW1]; exact (Below.refl _ wr).alloc (Nat.le_refl _) _
        have sz1 : W1.heap.size = wr.heap.size + 1 := by rw [hW1]; simp
        have kb1 : Ob W1 wr.heap.size 55 [.string ek, .string ev] := by rw [hW1]; exact Ob.new wr [.string ek, .string ev] 55
        have yy0 := kb1.cell 0
        simp only [List.getElem?_cons_zero] at yy0
        obtain ⟨cu, hcu⟩ : ∃ cu, cu = P0 ++ (es.take k).flatMap enB := ⟨_, rfl⟩
        rw [← hcu] at HO hnl
        have HC5 := hide (wtext_o p cu ek W1 (HO.out.old bb1) (by omega))
        have HTE : Hid (P0 ++ (es.take (k + 1)).flatMap enB = cu ++ (enc ek.size ++ nums ek) ++ (enc ev.size ++ nums ev)) := hide (by rw [hte, hcu]; simp [enB])
        have HBW1 := hide b1
        have HKB := hide kb1
        have HSZ1 := hide sz1
        have HW1 := hide hW1
        rw [hW1] at HC5 yy0
        clear hte hcu q1 q2 hek b1 bb1 kb1 HO
        go_wp2_with fail
        refine HC5.out.mono ?_
        rintro en w2 ⟨rfl, o2, f2⟩
        rw [← hW1] at o2 f2
        have kb2 := HKB.out.onl f2 (fun q => by omega)
        have yy1 := kb2.cell 1
        simp only [List.getElem?_cons_zero, List.getElem?_cons_succ] at yy1
        have z2 := f2.size
        have hT : (cu ++ (enc ek.size ++ nums ek)).length ≤ 400010000 := by
          have := enc_len ek.size
          simp only [List.length_append, nums_length]
          omega
        have HC6 := hide (wtext_o p (cu ++ (enc ek.size ++ nums ek)) ev w2 o2 (by omega))
        have HB2 := hide (Below.onl HBW1.out f2 (fun i q => by omega) (Nat.le_refl _))
        clear HC5 o2 f2 kb2
        go_wp2_with fail
        refine HC6.out.mono ?_
        rintro en w4 ⟨rfl, o4, f4⟩
        have z4 := f4.size
        have HB4 := hide (Below.onl HB2.out f4 (fun i q => by
          rcases q with q | q
          · omega
          · have := HBW1.out.size; omega) (Nat.le_refl _))
        have HO4 : Hid (Wro (fun i => W0.heap.size ≤ i ∧ i < w4.heap.size) w4 p (P0 ++ (es.take (k + 1)).flatMap enB)) := by
          refine hide ?_
          rw [HTE.out]
          refine o4.mono (fun i q => ?_)
          have := HBW1.out.size
          rcases q with (q | q) | q
          · exact ⟨by omega, by omega⟩
          · exact ⟨by omega, by omega⟩
          · exact ⟨by omega, by omega⟩
        clear HC6 o4 f4 HB2 HBW1 HKB HTE hW1 HW1 HSZ1
        go_wp2
        go_roundw
        case rel => exact ⟨k + 1, by omega, by simp, HO4, HB4⟩
        case measure => simp [intOf]; omega
      · obtain rfl : k = ne := by omega
        have HO1 : Hid (Wro (fun i => W0.heap.size ≤ i ∧ i < wr.heap.size) wr p (P0 ++ es.flatMap enB ++ (ks.take 0).flatMap kiB)) := by
          refine hide ?_
          have q := HO.out
          rw [HNE.out, List.take_length] at q
          simpa using q
        obtain ⟨P1, hP1⟩ : ∃ P1, P1 = P0 ++ es.flatMap enB := ⟨_, rfl⟩
        have hP1l : P1.length ≤ 400000000 := by
          have q := hnl
          rw [HNE.out, List.take_length, ← hP1] at q
          exact q
        rw [← hP1] at HO1
        have HP1 := hide hP1
        have HBW := HB
        have kx := HBX.out wr HB.out
        have e2 := kx.cell 2
        simp only [List.getElem?_cons_zero, List.getElem?_cons_succ] at e2
        clear kx HO hP1 hnl
        go_wp2
        go_loopw [51] (fun i wr => ∃ j : Nat, j ≤ nk ∧ i = .int .i64 j ∧ Hid (Wro (fun i => W0.heap.size ≤ i ∧ i < wr.heap.size) wr p (P1 ++ (ks.take j).flatMap kiB)) ∧ Hid (Below W0.heap.size W0 wr)) (fun i _ => nk - (intOf i).toNat)
        case atStart => exact ⟨0, Nat.zero_le _, rfl, HO1, HBW⟩
        case round =>
          clear HB HBW HO1
          obtain ⟨j, hj1, rfl, HO, HB⟩ := hrel
          have hs2 := HB.out.size
          have hnl : (P1 ++ (ks.take j).flatMap kiB).length ≤ 800000000 := by
            have h1 : ((ks.take j).flatMap kiB).length ≤ 300 * (ks.take j).length := flat_len (fun e he => kiB_len (HG2.out e (List.mem_of_mem_take he)).1.2)
            have h2 : (ks.take j).length ≤ nk := by rw [List.length_take, HNK.out]; omega
            rw [List.length_append]
            have h4 : 300 * (ks.take j).length ≤ 300 * nk := Nat.mul_le_mul_left _ h2
            omega
          by_cases hjn : j < nk
          · obtain ⟨e, hek⟩ : ∃ e, ks[j]? = some e := ⟨ks[j]'(by have := HNK.out; omega), List.getElem?_eq_getElem _⟩
            obtain ⟨g, o, rfl, q1, q2⟩ := HK.out j e hek
            have q1' := (HB.out.cell (p := ⟨g, o + j * 2, none⟩) (World.block_lt_of_cell? _ _ q1)).trans q1
            have q2' := (HB.out.cell (p := ⟨g, o + j * 2 + 1, none⟩) (World.block_lt_of_cell? _ _ q2)).trans q2
            have hsz := HG2.out e (List.mem_of_getElem? hek)
            have hid := HKZ.out e (List.mem_of_getElem? hek)
            obtain ⟨ek, ei⟩ := e
            simp only at q1' q2' hsz hid
            have hte : (ks.take (j + 1)).flatMap kiB = (ks.take j).flatMap kiB ++ kiB ⟨ek, ei⟩ := by rw [List.take_add_one, hek]; simp
            obtain ⟨W1, hW1⟩ : ∃ W1, W1 = wr.alloc (.cells #[.string ek, .int .u64 ei] 58) := ⟨_, rfl⟩
            have b1 : Below W0.heap.size W0 W1 := by rw [hW1]; exact HB.out.alloc hs2 _
            have bb1 : Below wr.heap.size wr W1 := by rw [hW1]; exact (Below.refl _ wr).alloc (Nat.le_refl _) _
            have sz1 : W1.heap.size = wr.heap.size + 1 := by rw [hW1]; simp
            have kb1 : Ob W1 wr.heap.size 58 [.string ek, .int .u64 ei] := by rw [hW1]; exact Ob.new wr [.string ek, .int .u64 ei] 58
            have yy0 := kb1.cell 0
            simp only [List.getElem?_cons_zero] at yy0
            obtain ⟨cu, hcu⟩ : ∃ cu, cu = P1 ++ (ks.take j).flatMap kiB := ⟨_, rfl⟩
            rw [← hcu] at HO hnl
            have HC5 := hide (wtext_o p cu ek W1 (HO.out.old bb1) (by omega))
            have HTE : Hid (P1 ++ (ks.take (j + 1)).flatMap kiB = cu ++ (enc ek.size ++ nums ek) ++ enc ei) := hide (by rw [hte, hcu]; simp [kiB])
            have HBW1 := hide b1
            have HKB := hide kb1
            have HSZ1 := hide sz1
            rw [hW1] at HC5 yy0
            clear hte hcu q1 q2 hek b1 bb1 kb1 HO
            go_wp2_with fail
            refine HC5.out.mono ?_
            rintro en w2 ⟨rfl, o2, f2⟩
            rw [← hW1] at o2 f2
            have kb2 := HKB.out.onl f2 (fun q => by omega)
            have yy1 := kb2.cell 1
            simp only [List.getElem?_cons_zero, List.getElem?_cons_succ] at yy1
            have z2 := f2.size
            have hT : (cu ++ (enc ek.size ++ nums ek)).length ≤ 900010000 := by
              have := enc_len ek.size
              simp only [List.length_append, nums_length]
              omega
            have HC6 := hide (wnum_one_o p (cu ++ (enc ek.size ++ nums ek)) (ei : Int) w2 _ rfl o2 (by omega) (by omega) (by omega))
            have HB2 := hide (Below.onl HBW1.out f2 (fun i q => by omega) (Nat.le_refl _))
            clear HC5 o2 f2 kb2
            go_wp2_with fail
            refine HC6.out.mono ?_
            rintro en w4 ⟨rfl, o4, f4⟩
            have z4 := f4.size
            have HB4 := hide (Below.onl HB2.out f4 (fun i q => by
              rcases q with q | q
              · omega
              · have := HBW1.out.size; omega) (Nat.le_refl _))
            have HO4 : Hid (Wro (fun i => W0.heap.size ≤ i ∧ i < w4.heap.size) w4 p (P1 ++ (ks.take (j + 1)).flatMap kiB)) := by
              refine hide ?_
              rw [HTE.out]
              simp only [Int.toNat_natCast] at o4
              refine o4.mono (fun i q => ?_)
              have := HBW1.out.size
              rcases q with (q | q) | q
              · exact ⟨by omega, by omega⟩
              · exact ⟨by omega, by omega⟩
              · exact ⟨by omega, by omega⟩
            clear HC6 o4 f4 HB2 HBW1 HKB HTE hW1 HSZ1
            go_wp2
            go_roundw
            case rel => exact ⟨j + 1, by omega, by simp, HO4, HB4⟩
            case measure => simp [intOf]; omega
          · obtain rfl : j = nk := by omega
            have HND : Hid (P1 ++ (ks.take j).flatMap kiB = ndB ⟨lv, es, ks⟩) := by
              refine hide ?_
              rw [HNK.out, List.take_length, HP1.out, HP0.out]
              unfold ndB
              simp only
              rw [HNE.out, HNK.out]
            obtain ⟨BB, hBB⟩ : ∃ BB, BB = ndB ⟨lv, es, ks⟩ := ⟨_, rfl⟩
            rw [HND.out, ← hBB] at HO hnl
            obtain ⟨_, v, hob, hrow⟩ := HO.out
            have HC7 := hide (wbytes_o p v BB wr hob hrow.1 (by omega))
            have HBB := hide hBB
            have HB00 := HB0
            clear hob hrow HO hBB HND
            go_wp2_with fail
            refine HC7.out.mono ?_
            rintro en w5 ⟨v5, rfl, o5, b5⟩
            obtain ⟨a5, c5, hv5, _, _⟩ := own_form o5
            subst hv5
            have HO5 := hide (own_lower o5 (show w.heap.size ≤ wr.heap.size by omega))
            have HB5 := hide (HB00.out.trans ((HB.out.trans (b5.mono hs2)).mono (show w.heap.size ≤ W0.heap.size by omega)))
            obtain ⟨nb, hnb⟩ : ∃ nb, nb = BB.length := ⟨_, rfl⟩
            rw [← hnb] at HO5 hnl ⊢
            have HNB := hide hnb
            clear HC7 o5 b5 hnb
            by_cases hlong : 131072 < nb
            · have d1 : decide ((131072 : Int) < (nb : Int)) = true := by simp; omega
              have d2 : decide (131072 < nb) = true := by simp; omega
              have HX : Hid (putE ⟨lv, es, ks⟩ = ([], 2)) := hide (by
                unfold putE
                rw [if_neg (by rw [← HNEE.out]; simp), if_pos (by rw [← HBB.out, ← HNB.out]; exact hlong)])
              clear hlong
              have HF : Hid (PnP w ⟨lv, es, ks⟩ (.returned (.tuple #[.slice none 0 0, .int .i64 2])) w5) := by
                refine hide ?_
                unfold PnP
                rw [HX.out]
                exact ⟨.slice none 0 0, rfl, World.ownsRow_nil _ _ _ _, HB5.out⟩
              go_wp2
              refine bodyPost_ret (by simp [results, Try.results9, go_sem]; rfl) rfl ?_
              exact HF.out
            · have d1 : decide ((131072 : Int) < (nb : Int)) = false := by simp; omega
              have d2 : decide (131072 < nb) = false := by simp; omega
              have HX : Hid (putE ⟨lv, es, ks⟩ = (BB, 0)) := hide (by
                unfold putE
                rw [if_neg (by rw [← HNEE.out]; simp), if_neg (by rw [← HBB.out, ← HNB.out]; exact hlong), ← HBB.out])
              clear hlong
              have HF : Hid (PnP w ⟨lv, es, ks⟩ (.returned (.tuple #[.slice a5 nb c5, .int .i64 0])) w5) := by
                refine hide ?_
                unfold PnP
                rw [HX.out]
                exact ⟨.slice a5 nb c5, rfl, by simp only; rw [← HNB.out]; exact HO5.out, HB5.out⟩
              go_wp2
              refine bodyPost_ret (by simp [results, Try.results9, go_sem]; rfl) rfl ?_
              exact HF.out
  · have hz2 : (NE != 0) = true := by simpa using hz
    have HX : Hid (putE ⟨lv, es, ks⟩ = ([], NE)) := hide (by
      unfold putE
      rw [if_pos (by rw [← HNEE.out]; exact hz), ← HNEE.out])
    clear hz
    go_enter Try.func9, Try.ntmps9
    go_wp2_with fail
    refine HCN.out.mono ?_
    rintro e w1 ⟨rfl, b1⟩
    rw [← hW0] at b1
    have HB1 := hide (HB0.out.trans (b1.mono (show w.heap.size ≤ W0.heap.size by omega)))
    clear b1
    have HF : Hid (PnP w ⟨lv, es, ks⟩ (.returned (.tuple #[.slice none 0 0, .int .i64 NE])) w1) := by
      refine hide ?_
      unfold PnP
      rw [HX.out]
      exact ⟨.slice none 0 0, rfl, World.ownsRow_nil _ _ _ _, HB1.out⟩
    go_wp2
    refine bodyPost_ret (by simp [results, Try.results9, go_sem]; rfl) rfl ?_
    exact HF.out
end Go.Proofs.Ytandjkogpdamcaa
