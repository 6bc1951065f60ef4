/- NodeSplits' walk, over the translation. -/
import Derived.Test.YtandjkogpdamcaaNeA
import Derived.Test.YtandjkogpdamcaaNdL
import Derived.Test.YtandjkogpdamcaaNdS
import Derived.Test.YtandjkogpdamcaaNdI
namespace Go.Proofs.Ytandjkogpdamcaa
open Go.RowKit Apo
theorem RowsE.rd {lo : Nat} {w : World} {v : Value} {rows : List (List En)} {vs : List Value} (h : RowsE lo w v rows vs) : ∃ ra rc, v = .slice ra rows.length rc ∧ RdRowsE w ra rows ∧ rows.length ≤ rc ∧ rc ≤ maxLen := by
  obtain ⟨a1, c1, hv1, hcc, hcm, _⟩ := h.row.form
  rw [h.len] at hv1 hcc
  refine ⟨a1, c1, hv1, fun i r hr => ?_, hcc, hcm⟩
  have hi := (List.getElem?_eq_some_iff.1 hr).1
  have hvl := h.len
  obtain ⟨g, cap, hv2, _, _, _, _, hc, _⟩ := h.row.shape (by omega)
  rw [hv1] at hv2
  injection hv2 with e1 e2 e3
  obtain ⟨u, hu⟩ : ∃ u, vs[i]? = some u := ⟨vs[i]'(by omega), List.getElem?_eq_getElem _⟩
  obtain ⟨G, o, h1, h2, h3, h4, _⟩ := h.fin i u r hu hr
  refine ⟨g, 0, some ⟨G, o, none⟩, r.length, e1, ?_, h2, Nat.le_refl _, h4, by simp⟩
  rw [Nat.zero_add, hc i (by omega), hu, h1]
theorem RdRowsE.below {w w' : World} {a : Option Addr} {rows : List (List En)} (h : RdRowsE w a rows) (b : Below w.heap.size w w') : RdRowsE w' a rows := fun i r hr => by
  obtain ⟨g, o, ra, rc, h1, h2, h3, h4⟩ := h i r hr
  exact ⟨g, o, ra, rc, h1, (b.cell (p := ⟨g, o + i, none⟩) (World.block_lt_of_cell? _ _ h2)).trans h2, h3.below b, h4⟩
theorem RowsJ.rd {lo : Nat} {w : World} {v : Value} {rows : List (List Ki)} {vs : List Value} (h : RowsJ lo w v rows vs) : ∃ ra rc, v = .slice ra rows.length rc ∧ RdRowsK w ra rows ∧ rows.length ≤ rc ∧ rc ≤ maxLen := by
  obtain ⟨a1, c1, hv1, hcc, hcm, _⟩ := h.row.form
  rw [h.len] at hv1 hcc
  refine ⟨a1, c1, hv1, fun i r hr => ?_, hcc, hcm⟩
  have hi := (List.getElem?_eq_some_iff.1 hr).1
  have hvl := h.len
  obtain ⟨g, cap, hv2, _, _, _, _, hc, _⟩ := h.row.shape (by omega)
  rw [hv1] at hv2
  injection hv2 with e1 e2 e3
  obtain ⟨u, hu⟩ : ∃ u, vs[i]? = some u := ⟨vs[i]'(by omega), List.getElem?_eq_getElem _⟩
  obtain ⟨G, o, h1, h2, h3, h4, _⟩ := h.fin i u r hu hr
  refine ⟨g, 0, some ⟨G, o, none⟩, r.length, e1, ?_, h2, Nat.le_refl _, h4, by simp⟩
  rw [Nat.zero_add, hc i (by omega), hu, h1]
theorem RdRowsK.below {w w' : World} {a : Option Addr} {rows : List (List Ki)} (h : RdRowsK w a rows) (b : Below w.heap.size w w') : RdRowsK w' a rows := fun i r hr => by
  obtain ⟨g, o, ra, rc, h1, h2, h3, h4⟩ := h i r hr
  exact ⟨g, o, ra, rc, h1, (b.cell (p := ⟨g, o + i, none⟩) (World.block_lt_of_cell? _ _ h2)).trans h2, h3.below b, h4⟩
theorem light_ok {l : List En} (h : lightB l = true) : l.length ≤ 60 ∧ ∀ e ∈ l, e.k.size ≤ 60 := by
  unfold lightB at h
  rw [Bool.and_eq_true, List.all_eq_true] at h
  refine ⟨by simpa using h.2, fun e he => ?_⟩
  have := h.1 e he
  unfold smallEn at this
  simp at this
  exact this.1
theorem smallk_ok {l : List Ki} (h : smallNd ⟨0, [], l⟩ = true) : l.length ≤ 60 ∧ ∀ e ∈ l, e.k.size ≤ 60 := by
  unfold smallNd at h
  rw [Bool.and_eq_true, Bool.and_eq_true, List.all_eq_true] at h
  refine ⟨by simpa using h.1.2, fun e he => ?_⟩
  have := h.1.1 e he
  unfold smallKi at this
  simpa using this
theorem splK_row {α : Type} {p : α → Bool} {l : List α} : ∀ k, (∀ r ∈ (splK p l k).1, r.length ≤ l.length) ∧ (splK p l k).2.length ≤ k ∧ (k ≤ l.length → (splK p l k).2.length ≤ l.length)
  | 0 => by simp [splK]
  | k + 1 => by
    obtain ⟨h1, h2, h3⟩ := splK_row (p := p) (l := l) k
    unfold splK
    split
    · next h => exact ⟨h1, by omega, fun q => h3 (by omega)⟩
    · next x h =>
      have hk := (List.getElem?_eq_some_iff.1 h).1
      split
      · refine ⟨fun r hr => ?_, by simp, by simp⟩
        rcases List.mem_append.1 hr with q | q
        · exact h1 r q
        · simp at q
          subst q
          simp
          omega
      · exact ⟨h1, by simp; omega, fun q => by simp; omega⟩
theorem split_row {α : Type} {p : α → Bool} {l : List α} {r : List α} (h : r ∈ splitN p l) : r.length ≤ l.length := (splK_row l.length).1 r h
set_option maxRecDepth 100000 in
set_option maxHeartbeats 4000000 in
theorem splits9 (w : World) (x : EsA) (hx : OkEs w x) (lv : Int) (z : KsA) (hz : OkKs w z) (s : ByteArray) (hs : s.size ≤ 9223372036854775807) :
    Calls Try.prog 5 #[.slice x.a x.l.length x.c, .int .i64 lv, .slice z.a z.l.length z.c, .string s] w fun e w' => e = .returned (.bool true) ∧ Below w.heap.size w w' := by
  obtain ⟨xa, xc, l⟩ := x
  obtain ⟨za, zc, m⟩ := z
  simp only at *
  have HCA := hide (awake9 w)
  have HX := hide hx
  have HZ := hide hz
  have HEL : Hid (l.length ≤ 9223372036854775807) := hide (by have h1 := hx.len; have h2 := hx.big; simp only at h1 h2; unfold maxLen at h2; omega)
  obtain ⟨nl, hnl⟩ : ∃ nl, nl = l.length := ⟨_, rfl⟩
  obtain ⟨nm, hnm⟩ : ∃ nm, nm = m.length := ⟨_, rfl⟩
  rw [← hnl, ← hnm]
  have HNL := hide hnl
  have HNM := hide hnm
  clear hx hz hnl hnm
  go_enter Try.func5, Try.ntmps5
  go_wp2_with fail
  refine HCA.out.mono ?_
  rintro e w1 ⟨rfl, b1⟩
  have HB1 := hide b1
  have x1 := HX.out.below b1
  have HC1 : Hid (Calls Try.prog 17 #[.slice xa nl xc] w1 fun e w' => e = .returned (.bool (lightB l)) ∧ Below w1.heap.size w1 w') := hide (by rw [HNL.out]; exact light_any w1 xa xc l x1.rd HEL.out x1.sz)
  clear HCA b1 x1
  go_wp2_with fail
  refine HC1.out.mono ?_
  rintro e w2 ⟨rfl, b2⟩
  have HB2 := hide (HB1.out.trans (b2.mono HB1.out.size))
  clear b2 HC1
  cases hli : lightB l
  · clear hli
    go_wp2
    go_ret
    exact ⟨rfl, HB2.out⟩
  · have hlo := light_ok hli
    have z2 := HZ.out.below HB2.out
    have hok : OkN w2 ⟨⟨0, [], m⟩, none, 0, za, zc⟩ := ⟨fun i e hi => by simp at hi, z2.rd, fun _ => rfl, z2.nil, by simp, z2.len, by simp [maxLen], z2.big, by simp, by simp, z2.sz⟩
    have HC2 : Hid (Calls Try.prog 8 #[.agg #[.int .i64 0, .slice none 0 0, .slice za nm zc]] w2 fun e w' => e = .returned (.bool (smallNd ⟨0, [], m⟩)) ∧ Below w2.heap.size w2 w') := hide (by rw [HNM.out]; exact small_any w2 _ hok)
    have HLO := hide hlo
    clear hli hlo z2 hok
    go_wp2_with fail
    refine HC2.out.mono ?_
    rintro e w3 ⟨rfl, b3⟩
    have HB3 := hide (HB2.out.trans (b3.mono HB2.out.size))
    clear b3 HC2
    cases hsm : smallNd ⟨0, [], m⟩
    · clear hsm
      go_wp2
      go_ret
      exact ⟨rfl, HB3.out⟩
    · have hso := smallk_ok hsm
      have HSO := hide hso
      clear hsm hso
      by_cases hbig : 300 < s.size
      · have d1 : decide ((300 : Int) < (s.size : Int)) = true := by simp; omega
        have d2 : decide (300 < s.size) = true := by simp; omega
        clear hbig
        go_wp2
        go_ret
        exact ⟨rfl, HB3.out⟩
      · have d1 : decide ((300 : Int) < (s.size : Int)) = false := by simp; omega
        have d2 : decide (300 < s.size) = false := by simp; omega
        clear hbig
        have x3 := HX.out.below HB3.out
        have hl1 : l.length ≤ 1000000 := by have := HLO.out.1; omega
        have hl2 : ∀ e ∈ l, e.k.size ≤ 1099511627776 := fun e he => by have := HLO.out.2 e he; omega
        have hm1 : m.length ≤ 1000000 := by have := HSO.out.1; omega
        have hm2 : ∀ e ∈ m, e.k.size ≤ 1099511627776 := fun e he => by have := HSO.out.2 e he; omega
        obtain ⟨AB, hAB⟩ : ∃ AB, AB = splitN (fun e : En => endsN 0 e.k) l := ⟨_, rfl⟩
        obtain ⟨CD, hCD⟩ : ∃ CD, CD = splitN (fun e : Ki => endsN lv e.k) m := ⟨_, rfl⟩
        have hABl : AB.length ≤ 60 := by rw [hAB]; have := split_len (fun e : En => endsN 0 e.k) l; have := HLO.out.1; omega
        have hCDl : CD.length ≤ 60 := by rw [hCD]; have := split_len (fun e : Ki => endsN lv e.k) m; have := HSO.out.1; omega
        have HC4 : Hid (Calls Try.prog 18 #[.slice xa nl xc] w3 (SpoE w3 AB)) := hide (by rw [HNL.out, hAB]; exact split_En xa xc l w3 x3.rd x3.nil hl1 hl2)
        have HC5 : Hid (∀ W, Below w3.heap.size w3 W → Calls Try.prog 19 #[.slice xa nl xc] W (SplEn W AB)) := hide (fun W bb => by rw [HNL.out, hAB]; exact rsplitEn_any W xa xc l (x3.rd.below bb) hl1 hl2)
        have z3 := HZ.out.below HB3.out
        have HC6 : Hid (∀ W, Below w3.heap.size w3 W → Calls Try.prog 20 #[.int .i64 lv, .slice za nm zc] W (SpoJ W CD)) := hide (fun W bb => by rw [HNM.out, hCD]; exact group_Ki lv za zc m W (z3.rd.below bb) z3.nil hm1 hm2)
        have HC7 : Hid (∀ W, Below w3.heap.size w3 W → Calls Try.prog 21 #[.int .i64 lv, .slice za nm zc] W (SplKi W CD)) := hide (fun W bb => by rw [HNM.out, hCD]; exact rgroupKi_any W lv za zc m (z3.rd.below bb) hm1 hm2)
        have HLENna : Hid (∀ r ∈ AB, r.length ≤ 1000000) := hide (by
          intro r hr
          rw [hAB] at hr
          exact Nat.le_trans (split_row hr) hl1)
        have HLENnc : Hid (∀ r ∈ CD, r.length ≤ 1000000) := hide (by
          intro r hr
          rw [hCD] at hr
          exact Nat.le_trans (split_row hr) hm1)
        clear x3 z3 hl1 hl2 hm1 hm2 hAB hCD HX HZ
        go_wp2_with fail
        refine HC4.out.mono ?_
        rintro e w4 ⟨v4, vs4, rfl, r4, b4⟩
        obtain ⟨ra, rc, hv4, rd4, hc4, hm4⟩ := r4.rd
        subst hv4
        have HR4 := hide rd4
        have HBB4 := hide b4
        have HC5' := hide (HC5.out w4 b4)
        clear HC4 r4 rd4 b4 HC5
        go_wp2_with fail
        refine HC5'.out.mono ?_
        rintro e w5 ⟨rb, rd, rfl, rd5, b5, hc5⟩
        have HR5 := hide rd5
        have HBB5 := hide (HBB4.out.trans (b5.mono HBB4.out.size))
        have HR4' := hide (RdRowsE.below HR4.out b5)
        have HC6' := hide (HC6.out w5 HBB5.out)
        clear HC5' rd5 b5 HC6 HR4
        go_wp2_with fail
        refine HC6'.out.mono ?_
        rintro e w6 ⟨v6, vs6, rfl, r6, b6⟩
        obtain ⟨sa', sc', hv6, rd6, hc6, hm6⟩ := r6.rd
        subst hv6
        have HR6 := hide rd6
        have HBB6 := hide (HBB5.out.trans (b6.mono HBB5.out.size))
        have HR4'' := hide (RdRowsE.below HR4'.out b6)
        have HR5'' := hide (RdRowsE.below HR5.out b6)
        have HC7' := hide (HC7.out w6 HBB6.out)
        clear HC6' r6 rd6 b6 HC7 HR4' HR5
        go_wp2_with fail
        refine HC7'.out.mono ?_
        rintro e w7 ⟨td, te, rfl, rd7, b7, hc7⟩
        have HRD := hide rd7
        have HRA := hide (RdRowsE.below HR4''.out b7)
        have HRB := hide (RdRowsE.below HR5''.out b7)
        have HRC := hide (RdRowsK.below HR6.out b7)
        have HBB7 := hide (HBB6.out.trans (b7.mono HBB6.out.size))
        have HB0 := hide (HB3.out.trans (HBB7.out.mono HB3.out.size))
        obtain ⟨WD, hWD⟩ : ∃ WD, WD = w7 := ⟨_, rfl⟩
        subst hWD
        have s0 := HB0.out.size
        obtain ⟨na, hna⟩ : ∃ na, na = AB.length := ⟨_, rfl⟩
        obtain ⟨nc, hnc⟩ : ∃ nc, nc = CD.length := ⟨_, rfl⟩
        rw [← hna] at hABl hc4 hc5 ⊢
        rw [← hnc] at hCDl hc6 hc7 ⊢
        have Hna := hide hna
        have Hnc := hide hnc
        have hm4' : rc ≤ 9223372036854775807 := by unfold maxLen at hm4; omega
        have hm6' : sc' ≤ 9223372036854775807 := by unfold maxLen at hm6; omega
        clear HC7' rd7 b7 HR4'' HR5'' HR6 hna hnc hm4 hm6
        go_wp2
        go_loopw [55] (fun i wr => ∃ k : Nat, k ≤ na ∧ i = .int .i64 k ∧ Hid (Below WD.heap.size WD wr)) (fun i _ => na - (intOf i).toNat)
        case atStart => exact ⟨0, Nat.zero_le _, rfl, hide (Below.refl _ _)⟩
        case round =>
          obtain ⟨k, hk, rfl, HB⟩ := hrel
          by_cases hkn : k < na
          · obtain ⟨r, hr⟩ : ∃ r, AB[k]? = some r := ⟨AB[k]'(by have := Hna.out; omega), List.getElem?_eq_getElem _⟩
            obtain ⟨g1, o1, sa, sc, rfl, q1, q2, _⟩ := HRA.out k r hr
            obtain ⟨g2, o2, ta, tc, rfl, p1, p2, _⟩ := HRB.out k r hr
            have q1' := (HB.out.cell (p := ⟨g1, o1 + k, none⟩) (World.block_lt_of_cell? _ _ q1)).trans q1
            have p1' := (HB.out.cell (p := ⟨g2, o2 + k, none⟩) (World.block_lt_of_cell? _ _ p1)).trans p1
            have hrl := HLENna.out r (List.mem_of_getElem? hr)
            have HCS : Hid (Calls Try.prog 22 #[.slice sa r.length sc, .slice ta r.length tc] wr.drew fun e w' => e = .returned (.bool true) ∧ Below wr.drew.heap.size wr.drew w') := hide ((sameEn_any sa sc r ta tc r wr.drew ((q2.below HB.out).below (Below.refl _ _).drew) ((p2.below HB.out).below (Below.refl _ _).drew) (by omega)).mono (fun e w' h => ⟨by rw [h.1]; simp, h.2⟩))
            obtain ⟨rl, hrl2⟩ : ∃ rl, rl = r.length := ⟨_, rfl⟩
            rw [← hrl2] at q1' p1' HCS
            have hb1 : (0 : Int) ≤ (k : Int) := by omega
            have hb2 : (k : Int) < (na : Int) := by omega
            have hs := HB.out.size
            clear q1 q2 p1 p2 hr hrl hrl2
            go_wp2
            go_region_held3 (fun W' => W'.cell? ⟨g1, o1 + k, none⟩ = some (.slice sa rl sc) ∧ W'.cell? ⟨g2, o2 + k, none⟩ = some (.slice ta rl tc)) (go_keep) (first
              | (go_at_call 22; (with_reducible refine HCS.out.mono ?_); rintro en w9 ⟨rfl, b9⟩; have HB9 := hide (HB.out.drew.trans (b9.mono hs)); have y1 := (b9.cell (p := ⟨g1, o1 + k, none⟩) (World.block_lt_of_cell? _ _ q1')).trans q1'; have y2 := (b9.cell (p := ⟨g2, o2 + k, none⟩) (World.block_lt_of_cell? _ _ p1')).trans p1'; clear b9))
            go_wp2
            go_roundw
            case rel => exact ⟨k + 1, by omega, by simp, HB9⟩
            case measure => simp [intOf]; omega
          · obtain rfl : k = na := by omega
            go_wp2
            go_loopw [71] (fun i wr => ∃ k : Nat, k ≤ nc ∧ i = .int .i64 k ∧ Hid (Below WD.heap.size WD wr)) (fun i _ => nc - (intOf i).toNat)
            case atStart => exact ⟨0, Nat.zero_le _, rfl, HB⟩
            case round =>
              obtain ⟨k, hk, rfl, HB⟩ := hrel
              by_cases hkn : k < nc
              · obtain ⟨r, hr⟩ : ∃ r, CD[k]? = some r := ⟨CD[k]'(by have := Hnc.out; omega), List.getElem?_eq_getElem _⟩
                obtain ⟨g1, o1, sa, sc, rfl, q1, q2, _⟩ := HRC.out k r hr
                obtain ⟨g2, o2, ta, tc, rfl, p1, p2, _⟩ := HRD.out k r hr
                have q1' := (HB.out.cell (p := ⟨g1, o1 + k, none⟩) (World.block_lt_of_cell? _ _ q1)).trans q1
                have p1' := (HB.out.cell (p := ⟨g2, o2 + k, none⟩) (World.block_lt_of_cell? _ _ p1)).trans p1
                have hrl := HLENnc.out r (List.mem_of_getElem? hr)
                have HCS : Hid (Calls Try.prog 23 #[.slice sa r.length sc, .slice ta r.length tc] wr.drew fun e w' => e = .returned (.bool true) ∧ Below wr.drew.heap.size wr.drew w') := hide ((sameKi_any sa sc r ta tc r wr.drew ((q2.below HB.out).below (Below.refl _ _).drew) ((p2.below HB.out).below (Below.refl _ _).drew) (by omega)).mono (fun e w' h => ⟨by rw [h.1]; simp, h.2⟩))
                obtain ⟨rl, hrl2⟩ : ∃ rl, rl = r.length := ⟨_, rfl⟩
                rw [← hrl2] at q1' p1' HCS
                have hb1 : (0 : Int) ≤ (k : Int) := by omega
                have hb2 : (k : Int) < (nc : Int) := by omega
                have hs := HB.out.size
                clear q1 q2 p1 p2 hr hrl hrl2
                go_wp2
                go_region_held3 (fun W' => W'.cell? ⟨g1, o1 + k, none⟩ = some (.slice sa rl sc) ∧ W'.cell? ⟨g2, o2 + k, none⟩ = some (.slice ta rl tc)) (go_keep) (first
                  | (go_at_call 23; (with_reducible refine HCS.out.mono ?_); rintro en w9 ⟨rfl, b9⟩; have HB9 := hide (HB.out.drew.trans (b9.mono hs)); have y1 := (b9.cell (p := ⟨g1, o1 + k, none⟩) (World.block_lt_of_cell? _ _ q1')).trans q1'; have y2 := (b9.cell (p := ⟨g2, o2 + k, none⟩) (World.block_lt_of_cell? _ _ p1')).trans p1'; clear b9))
                go_wp2
                go_roundw
                case rel => exact ⟨k + 1, by omega, by simp, HB9⟩
                case measure => simp [intOf]; omega
              · obtain rfl : k = nc := by omega
                have HK1 := hide (key_any s wr (by omega))
                have HK2 := hide (rkey_any s wr (by omega))
                have HV1 := hide (val_any s wr (by omega))
                have HV2 := hide (rval_any s wr (by omega))
                have HF := hide (HB0.out.trans (HB.out.mono s0))
                generalize keyE s = ke at *
                generalize valE s = ve at *
                go_wp2_with fail
                refine HK1.out.mono ?_
                rintro e w5 ⟨rfl, rfl⟩
                go_wp2_with fail
                refine HK2.out.mono ?_
                rintro e w5 ⟨rfl, rfl⟩
                go_wp2_with fail
                refine HV1.out.mono ?_
                rintro e w5 ⟨rfl, rfl⟩
                go_wp2_with fail
                refine HV2.out.mono ?_
                rintro e w5 ⟨rfl, rfl⟩
                go_wp2
                go_ret
                exact ⟨rfl, HF.out⟩
end Go.Proofs.Ytandjkogpdamcaa
