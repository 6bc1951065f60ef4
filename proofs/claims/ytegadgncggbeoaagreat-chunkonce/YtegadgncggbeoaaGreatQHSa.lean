/- newShelf and the Store's same, over the translation. -/
import Derived.Test.YtegadgncggbeoaaGreatQHSt
namespace Go.Proofs.YtegadgncggbeoaaGreat
open Go.RowKit Apo
set_option maxRecDepth 100000 in
theorem hnew_any (w : World) : Calls Tryz.prog 32 #[] w fun e w' => e = .returned (.agg #[.map (some (w.heap.size + 1)), .map (some (w.heap.size + 2))]) ∧ Mp Tryz.prog 31 w' (w.heap.size + 1) (fun _ => none) ∧ Mp Tryz.prog 31 w' (w.heap.size + 2) (fun _ => none) ∧ Below w.heap.size w w' := by
  have hmm := @run_makeMap Tryz.prog
  obtain ⟨V, hV⟩ : ∃ V, V = w.alloc (.cells #[.map (some (w.heap.size + 1)), .map (some (w.heap.size + 2))] 79) := ⟨_, rfl⟩
  have sz : V.heap.size = w.heap.size + 1 := by rw [hV]; simp
  have m1 := Mp.made V Tryz.prog 31
  have b1 : Below w.heap.size w V := by rw [hV]; exact (Below.refl _ w).alloc (Nat.le_refl _) _
  have m2 := Mp.made (V.alloc (.map #[] 0)) Tryz.prog 31
  have m1' := m1.below (((Below.refl _ (V.alloc (.map #[] 0))).alloc (Nat.le_refl _) (.map #[] 0)))
  have b2 : Below w.heap.size w ((V.alloc (.map #[] 0)).alloc (.map #[] 0)) := (b1.alloc (by omega) _).alloc (by simp; omega) _
  have e2 : (V.alloc (.map #[] 0)).heap.size = w.heap.size + 2 := by simp; omega
  rw [e2] at m2
  rw [sz] at m1'
  have HF := hide (And.intro m1' (And.intro m2 b2))
  clear m1 m2 m1' b1 b2 e2
  have kb : Ob ((V.alloc (.map #[] 0)).alloc (.map #[] 0)) w.heap.size 79 [.map (some (w.heap.size + 1)), .map (some (w.heap.size + 2))] := by rw [hV]; exact ((Ob.new w [.map (some (w.heap.size + 1)), .map (some (w.heap.size + 2))] 79).alloc _).alloc _
  have c0 := kb.cell 0
  have c1 := kb.cell 1
  simp only [List.getElem?_cons_zero, List.getElem?_cons_succ] at c0 c1
  rw [hV] at HF c0 c1
  clear kb sz hV
  go_enter Tryz.func32, Tryz.ntmps32
  go_wp2
  refine bodyPost_ret (by simp [results, Tryz.results32, go_sem]; rfl) rfl ?_
  exact ⟨rfl, HF.out⟩
end Go.Proofs.YtegadgncggbeoaaGreat
namespace Apo
open Go Go.RowKit
/-- what same tells of the chunks of a list -/
def SameL (S : Cs) (b : List Int) (l : List Nat) (id : Nat) (er : Int) : Prop :=
  (er = 0 ∧ id ∈ l ∧ ∃ c, S.ch id = some c ∧ c.size = b.length ∧ S.get c = (b, 0)) ∨
  (id = 0 ∧ (∀ i ∈ l, ∀ c, S.ch i = some c → c.size = b.length → S.get c ≠ (b, 0)) ∧ ((∀ i ∈ l, ∀ c, S.ch i = some c → c.size = b.length → (S.get c).2 = 0) → er = 0) ∧ (er ≠ 0 → ∃ i ∈ l, ∃ c, S.ch i = some c ∧ c.size = b.length ∧ (S.get c).2 = er))
/-- while it looks: none so far -/
def SameN (S : Cs) (b : List Int) (l : List Nat) (er : Int) : Prop :=
  (∀ i ∈ l, ∀ c, S.ch i = some c → c.size = b.length → S.get c ≠ (b, 0)) ∧ ((∀ i ∈ l, ∀ c, S.ch i = some c → c.size = b.length → (S.get c).2 = 0) → er = 0) ∧ (er ≠ 0 → ∃ i ∈ l, ∃ c, S.ch i = some c ∧ c.size = b.length ∧ (S.get c).2 = er)
theorem SameN.nil (S : Cs) (b : List Int) : SameN S b [] 0 := ⟨by simp, fun _ => rfl, fun h => absurd rfl h⟩
theorem SameN.skip {S : Cs} {b : List Int} {l : List Nat} {er : Int} (h : SameN S b l er) {i : Nat} {c : Ck} (hc : S.ch i = some c) (hs : c.size ≠ b.length) : SameN S b (l ++ [i]) er := by
  refine ⟨fun j hj c' hc' hs' => ?_, fun hall => h.2.1 (fun j hj => hall j (by simp [hj])), fun he => ?_⟩
  · rcases List.mem_append.1 hj with q | q
    · exact h.1 j q c' hc' hs'
    · simp at q; subst q; rw [hc] at hc'; cases hc'; exact absurd hs' hs
  · obtain ⟨j, hj, q⟩ := h.2.2 he
    exact ⟨j, by simp [hj], q⟩
theorem SameN.next {S : Cs} {b : List Int} {l : List Nat} {er : Int} (h : SameN S b l er) {i : Nat} {c : Ck} (hc : S.ch i = some c) (hs : c.size = b.length) (hg : S.get c ≠ (b, 0)) : SameN S b (l ++ [i]) (if er = 0 then (S.get c).2 else er) := by
  refine ⟨fun j hj c' hc' hs' => ?_, fun hall => ?_, fun he => ?_⟩
  · rcases List.mem_append.1 hj with q | q
    · exact h.1 j q c' hc' hs'
    · simp at q; subst q; rw [hc] at hc'; cases hc'; exact hg
  · rw [if_pos (h.2.1 (fun j hj => hall j (by simp [hj])))]
    exact hall i (by simp) c hc hs
  · by_cases q : er = 0
    · rw [if_pos q] at he ⊢
      exact ⟨i, by simp, c, hc, hs, rfl⟩
    · rw [if_neg q]
      obtain ⟨j, hj, z⟩ := h.2.2 q
      exact ⟨j, by simp [hj], z⟩
end Apo
namespace Go.Proofs.YtegadgncggbeoaaGreat
open Go.RowKit Apo
def SameP (S : Cs) (b : List Int) (l : List Nat) (w : World) (e : Ending) (w' : World) : Prop := ∃ (id : Nat) (er : Int), e = .returned (.tuple #[.int .u64 id, .int .i64 er]) ∧ SameL S b l id er ∧ Below w.heap.size w w'
theorem ck_lt {w : World} {b : Nat} {ch : Nat → Option Ck} (h : Mp Tryz.prog 31 w b (ckM ch)) {i : Nat} {c : Ck} (hc : ch i = some c) : i < 18446744073709551616 := by
  obtain ⟨D, _, m⟩ := h
  by_cases q : i < 18446744073709551616
  · exact q
  · have := m.big i (by omega)
    unfold ckM at this
    rw [hc] at this
    cases this
set_option maxRecDepth 100000 in
set_option maxHeartbeats 8000000 in
theorem hsame_any {L : Nat → Nat} {w : World} {s d pg bc bs bg sc : Nat} {sa : Option Addr} {S : Cs} {sm : Nat → List Nat} (h : CSd L w s d S pg bc bs bg sa sc sm) (hsub : ∀ k i, i ∈ sm k → S.ch i ≠ none) (hcc : S.st.C.length ≤ 1073741824)
    (ba : Option Addr) (bcap : Nat) (b : List Int) (hr : Rd .u8 w ba b) (hl : b.length ≤ 1099511627776) (hby : ∀ z ∈ b, 0 ≤ z ∧ z ≤ 255) (hlen : (sm (sumN b)).length ≤ 1099511627776) :
    Calls Tryz.prog 38 #[.pointer (some ⟨s, 0, none⟩), .slice ba b.length bcap] w (SameP S b (sm (sumN b)) w) := by
  obtain ⟨bv, ms, mr⟩ := h.sh.ms
  obtain ⟨K, hK⟩ : ∃ K, K = sumN b := ⟨_, rfl⟩
  have hKl : K < 18446744073709551616 := by rw [hK]; exact sumN_lt b
  have CS := hsum_any (w := w.drew) ba bcap b (hr.below ((Below.refl _ w).drew)) hl hby
  rw [← hK] at CS hlen ⊢
  have R2 := (ms.below ((Below.refl _ w).drew)).look hk64 Tryz.underlying77 zero_sl hKl
  obtain ⟨v, hv⟩ : ∃ v, v = (bkM sm bv K).getD (.slice none 0 0) := ⟨_, rfl⟩
  rw [← hv] at R2
  have rv : Row (fun g => L g = 12 + K) w 31 1 v (sm K).length (ucells (sm K)) := by
    rw [hv]
    unfold bkM
    by_cases q : sm K = []
    · rw [if_pos q, q]; exact Row.nil _ _ _ _
    · rw [if_neg q]; exact mr K q
  clear hv
  obtain ⟨va, vcap, hvf, hf1, hf2, hf3, hf4⟩ := rv.form
  obtain ⟨n0, hn0⟩ : ∃ n0, n0 = (sm K).length := ⟨_, rfl⟩
  have hcell : ∀ k, k < n0 → ∃ g id, va = some ⟨g, 0, none⟩ ∧ (sm K)[k]? = some id ∧ ∀ W, Below w.heap.size w W → W.cell? ⟨g, k, none⟩ = some (.int .u64 (id : Nat)) := fun k hk => by
    obtain ⟨g, cap, hv2, _, hg, _, _, hcs, _⟩ := rv.shape (by omega)
    rw [hvf] at hv2
    injection hv2 with e1 e2 e3
    refine ⟨g, (sm K)[k]'(by omega), e1, List.getElem?_eq_getElem (by omega), fun W bW => ?_⟩
    rw [bW.cell (p := ⟨g, k, none⟩) hg, hcs k (by omega)]
    simp [ucells, List.getElem?_eq_getElem (show k < (sm K).length by omega)]
  have hget : ∀ W, Below w.heap.size w W → ∀ c : Ck, Calls Tryz.prog 58 #[.pointer (some ⟨pg, 0, none⟩), .agg #[.int .i64 c.at'.a, .int .i64 c.at'.k], .int .i64 c.size] W fun e w' => ∃ v, e = .returned (.tuple #[v, .int .i64 (S.get c).2]) ∧ TldR w' W.heap.size v (S.get c).1 ∧ Below W.heap.size W w' := fun W bW c => cget_gen (h.px.below bW) hcc c.at' c.size
  have hbyt : ∀ c : Ck, ∀ z ∈ (S.get c).1, 0 ≤ z ∧ z ≤ 255 := fun c => cget_byt h.px.okS _ _
  have hlook : ∀ W, Below w.heap.size w W → ∀ i c, S.ch i = some c → (Instr.lookup 76 (.map (some bc)) (.int .u64 (i : Int)) false).run Tryz.prog W = .ok c.val W := fun W bW i c hi => by
    have := (h.sh.mc.below bW).look hk64 Tryz.underlying76 zero_ck (ck_lt h.sh.mc hi)
    rw [this]
    unfold ckM
    rw [hi]
    rfl
  have c0 := h.ob.cell 0
  have c1 := h.ob.cell 1
  have c2 := h.ob.cell 2
  simp only [stC, List.getElem?_cons_zero, List.getElem?_cons_succ] at c0 c1 c2
  have hslt := h.ob.lt
  have HC0 := hide (fun (W : World) (bW : Below w.heap.size w W) => (bW.cell (p := ⟨s, 0, none⟩) hslt).trans c0)
  have HC1 := hide (fun (W : World) (bW : Below w.heap.size w W) => (bW.cell (p := ⟨s, 1, none⟩) hslt).trans c1)
  have HCS := hide CS
  have HCELL := hide hcell
  have HGET := hide hget
  have HBYT := hide hbyt
  have HLOOK := hide hlook
  have HR := hide hr
  have HBY := hide hby
  have HSUB := hide hsub
  have HK := hide hK
  have HN := hide hn0
  rw [hvf, ← hn0] at R2
  rw [← hn0] at hlen hf1
  obtain ⟨nb, hnb⟩ : ∃ nb, nb = b.length := ⟨_, rfl⟩
  have HNB := hide hnb
  rw [← hnb] at HCS hl ⊢
  clear hnb
  clear h ms mr CS rv hcell hget hbyt hlook hr hby hsub hK hn0 hf4 hvf c0 c1
  go_enter Tryz.func38, Tryz.ntmps38
  go_wp2
  go_region_held3 (fun W' => W'.cell? ⟨s, 2, none⟩ = some (.map (some bs))) (go_keep) (first
    | (go_at_call 42; refine HCS.out.mono ?_; rintro en w3 ⟨rfl, rfl⟩))
  go_wp2
  go_loopw [6, 21] (fun u i wr => ∃ (k : Nat) (er : Int), k ≤ n0 ∧ i = .int .i64 k ∧ u = .int .i64 er ∧ Hid (SameN S b ((sm K).take k) er) ∧ Hid (Below w.heap.size w wr)) (fun _ i _ => n0 - (intOf i).toNat)
  case atStart => exact ⟨0, 0, Nat.zero_le _, rfl, rfl, hide (SameN.nil _ _), hide ((Below.refl _ w).drew)⟩
  case round =>
    obtain ⟨k, er, hk, rfl, rfl, HSN, HB⟩ := hrel
    by_cases hkn : k < n0
    · obtain ⟨g, id, rfl, hid, hcl⟩ := HCELL.out k hkn
      obtain ⟨c, hc⟩ : ∃ c, S.ch id = some c := by
        have := HSUB.out K id (List.mem_of_getElem? hid)
        cases q : S.ch id with
        | none => exact absurd q this
        | some c => exact ⟨c, rfl⟩
      have hce := hcl wr HB.out
      have htk : (sm K).take (k + 1) = (sm K).take k ++ [id] := by rw [List.take_add_one, hid]; rfl
      have hlk := HLOOK.out wr HB.out id c hc
      have e1 := HC1.out wr HB.out
      obtain ⟨⟨⟨pa, pk⟩, csize, csum⟩, hcd⟩ : ∃ c', c' = c := ⟨_, rfl⟩
      have hval : c.val = .agg #[.int .i64 pa, .int .i64 pk, .int .i64 csize, .int .u64 csum] := by rw [← hcd]; rfl
      rw [hval] at hlk
      have hbn : Below w.heap.size w (wr.alloc (.cells #[.int .i64 pa, .int .i64 pk, .int .i64 csize, .int .u64 csum] 97)) := HB.out.alloc HB.out.size _
      have hsw := HB.out.size
      have HTK := hide htk
      have HCC := hide hc
      have HID := hide hid
      have HCD := hide hcd
      have HBN := hide hbn
      clear hc hid htk hcd hval hbn hcl
      by_cases hsz : csize = nb
      · have hne : ((csize : Int) != (nb : Int)) = false := by simp; omega
        have HSZ := hide hsz
        clear hsz
        obtain ⟨W1, hW1⟩ : ∃ W1, W1 = wr.alloc (.cells #[.int .i64 pa, .int .i64 pk, .int .i64 csize, .int .u64 csum] 97) := ⟨_, rfl⟩
        have kb : Ob W1 wr.heap.size 97 [.int .i64 pa, .int .i64 pk, .int .i64 csize, .int .u64 csum] := by rw [hW1]; exact Ob.new wr [.int .i64 pa, .int .i64 pk, .int .i64 csize, .int .u64 csum] 97
        rw [← hW1] at HBN
        have x0 := HC0.out W1 HBN.out
        have y0 := kb.cell 0
        have y1 := kb.cell 1
        have y2 := kb.cell 2
        simp only [List.getElem?_cons_zero, List.getElem?_cons_succ] at y0 y1 y2
        have C4 := HGET.out W1.drew HBN.out.drew ⟨⟨pa, pk⟩, csize, csum⟩
        obtain ⟨G, hG⟩ : ∃ G, G = S.get ⟨⟨pa, pk⟩, csize, csum⟩ := ⟨_, rfl⟩
        rw [← hG] at C4
        have hgb := HBYT.out ⟨⟨pa, pk⟩, csize, csum⟩
        rw [← hG] at hgb
        have HC4 := hide C4
        have HGB := hide hgb
        have HG := hide hG
        have hkb := kb.lt
        obtain ⟨GB, GE⟩ := G
        simp only at HC4 HGB
        clear C4 hgb hG kb
        go_wp2
        generalize wr.alloc (.cells #[.int .i64 pa, .int .i64 pk, .int .i64 csize, .int .u64 csum] 97) = WW at hW1 ⊢
        subst hW1
        go_region_held3 (fun W' => W'.cell? ⟨s, 0, none⟩ = some (.pointer (some ⟨pg, 0, none⟩)) ∧ W'.cell? ⟨wr.heap.size, 0, none⟩ = some (.int .i64 pa) ∧ W'.cell? ⟨wr.heap.size, 1, none⟩ = some (.int .i64 pk) ∧ W'.cell? ⟨wr.heap.size, 2, none⟩ = some (.int .i64 csize)) (go_keep) (first
          | (go_at_call 58; refine HC4.out.mono ?_; rintro en w2 ⟨v2, rfl, t2, b2⟩; have u0 := (b2.cell (p := ⟨s, 0, none⟩) (World.block_lt_of_cell? _ _ x0)).trans x0; have u1 := (b2.cell (p := ⟨wr.heap.size, 0, none⟩) hkb).trans y0; have u2 := (b2.cell (p := ⟨wr.heap.size, 1, none⟩) hkb).trans y1; have u3 := (b2.cell (p := ⟨wr.heap.size, 2, none⟩) hkb).trans y2; have HT2 := hide t2; have HB2 := hide b2; clear t2 b2))
        obtain ⟨a2, c2', hv2, rd2, n2, l2, bc2⟩ := HT2.out
        subst hv2
        have HBW := hide (HBN.out.drew.trans (HB2.out.mono HBN.out.size))
        have CE := equal_any a2 ba c2' bcap GB b rd2 (HR.out.below HBW.out) HGB.out HBY.out
        rw [← HNB.out] at CE
        have HCE := hide CE
        clear CE rd2 l2
        have hgs : S.get c = (GB, GE) := by rw [← HCD.out]; exact HG.out.symm
        have hcs : c.size = b.length := by rw [← HCD.out, ← HNB.out]; exact HSZ.out
        have HGS := hide hgs
        have HCSZ := hide hcs
        clear hgs hcs
        by_cases hge : GE = 0
        · subst hge
          by_cases hq : GB = b
          · have hqd : decide (GB = b) = true := by simpa using hq
            rw [hqd] at HCE
            have HQ := hide hq
            clear hqd hq
            go_wp2_with fail
            refine HCE.out.mono ?_
            rintro en wx ⟨rfl, rfl⟩
            go_wp2
            refine bodyPost_ret (by simp [results, Tryz.results38, go_sem]; rfl) rfl ?_
            exact ⟨id, 0, rfl, .inl ⟨rfl, List.mem_of_getElem? HID.out, c, HCC.out, HCSZ.out, by rw [HGS.out, HQ.out]⟩, HBW.out⟩
          · have hqd : decide (GB = b) = false := by simpa using hq
            rw [hqd] at HCE
            have HQ := hide hq
            clear hqd hq
            have HN2 := hide (HSN.out.next HCC.out HCSZ.out (by rw [HGS.out]; intro e; exact HQ.out (congrArg Prod.fst e)))
            rw [HGS.out] at HN2
            by_cases her : er = 0
            · subst her
              go_wp2_with fail
              refine HCE.out.mono ?_
              rintro en wx ⟨rfl, rfl⟩
              go_wp2
              go_roundw
              case rel => exact ⟨k + 1, 0, by omega, by simp, rfl, hide (by rw [HTK.out]; exact HN2.out), HBW⟩
              case measure => simp [intOf]; omega
            · have her2 : (er == 0) = false := by simpa using her
              rw [if_neg her] at HN2
              clear her
              go_wp2_with fail
              refine HCE.out.mono ?_
              rintro en wx ⟨rfl, rfl⟩
              go_wp2
              go_roundw
              case rel => exact ⟨k + 1, er, by omega, by simp, rfl, hide (by rw [HTK.out]; exact HN2.out), HBW⟩
              case measure => simp [intOf]; omega
        · have hgb : (GE == 0) = false := by simpa using hge
          have HN2 := hide (HSN.out.next HCC.out HCSZ.out (by rw [HGS.out]; intro e; exact hge (congrArg Prod.snd e)))
          rw [HGS.out] at HN2
          clear hge
          by_cases her : er = 0
          · subst her
            go_wp2
            go_roundw
            case rel => exact ⟨k + 1, GE, by omega, by simp, rfl, hide (by rw [HTK.out]; exact HN2.out), HBW⟩
            case measure => simp [intOf]; omega
          · have her2 : (er == 0) = false := by simpa using her
            rw [if_neg her] at HN2
            clear her
            go_wp2
            go_roundw
            case rel => exact ⟨k + 1, er, by omega, by simp, rfl, hide (by rw [HTK.out]; exact HN2.out), HBW⟩
            case measure => simp [intOf]; omega
      · have hne : ((csize : Int) != (nb : Int)) = true := by simp; omega
        go_wp2
        go_roundw
        case rel => exact ⟨k + 1, er, by omega, by simp, rfl, hide (by rw [HTK.out]; exact HSN.out.skip HCC.out (by rw [← HCD.out, ← HNB.out]; exact hsz)), HBN⟩
        case measure => simp [intOf]; omega
    · obtain rfl : k = n0 := by omega
      go_wp2
      refine bodyPost_ret (by simp [results, Tryz.results38, go_sem]; rfl) rfl ?_
      have q := HSN.out
      rw [HN.out, List.take_length] at q
      exact ⟨0, er, rfl, .inr ⟨rfl, q.1, q.2.1, q.2.2⟩, HB.out⟩
end Go.Proofs.YtegadgncggbeoaaGreat
