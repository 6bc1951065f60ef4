/- The Store's Put, over the translation. -/
import Derived.Test.YtegadgncggbeoaaGreatQHSa
import Derived.Test.YtegadgncggbeoaaGreatQPCm
namespace Apo
open Go Go.RowKit
/-- what same tells -/
def SameR (S : Cs) (b : List Int) (id : Nat) (er : Int) : Prop := ∃ l : List Nat, (∀ i, i ∈ l ↔ ∃ c, S.ch i = some c ∧ c.sum = sumN b) ∧ SameL S b l id er
/-- what Put does -/
def PutR (S : Cs) (b : List Int) (id : Nat) (er : Int) (S' : Cs) : Prop :=
  if S.ended = true then id = 0 ∧ er = 40 ∧ S' = S
  else if 131072 < b.length then id = 0 ∧ er = 2 ∧ S' = S
  else ∃ id0 er0, SameR S b id0 er0 ∧
    if id0 ≠ 0 ∨ er0 ≠ 0 then id = id0 ∧ er = er0 ∧ S' = S
    else if S.next = 18446744073709551615 then id = 0 ∧ er = 70 ∧ S' = S
    else if (S.c.put S.st b).1.2 ≠ 0 then id = 0 ∧ er = (S.c.put S.st b).1.2 ∧ S' = { S with c := (S.c.put S.st b).2.1, st := (S.c.put S.st b).2.2, ended := endsE (S.c.put S.st b).1.2 }
    else id = S.next ∧ er = 0 ∧ S' = { S with c := (S.c.put S.st b).2.1, st := (S.c.put S.st b).2.2, ended := false, ch := upd S.ch S.next (some ⟨(S.c.put S.st b).1.1, b.length, sumN b⟩), next := S.next + 1 }
end Apo
namespace Go.Proofs.YtegadgncggbeoaaGreat
open Go.RowKit Apo
def PutP (O : Nat → Prop) (w : World) (s d : Nat) (S : Cs) (b : List Int) (e : Ending) (w' : World) : Prop := ∃ (id : Nat) (er : Int) (S' : Cs), e = .returned (.tuple #[.int .u64 id, .int .i64 er]) ∧ PutR S b id er S' ∧ CSx (Gro O w w') w' s d S' ∧ Onl O w w'
set_option maxRecDepth 100000 in
set_option maxHeartbeats 8000000 in
theorem hput_any {O : Nat → Prop} {w : World} {s d : Nat} {S : Cs} (h : CSx O w s d S) (hf : Few S.ch 16383) (hn : S.ch S.next = none) (hnl : S.next < 18446744073709551616) (hcc : S.st.C.length ≤ 536870912)
    (ba : Option Addr) (bcap : Nat) (b : List Int) (hr : Rd .u8 w ba b) (hrn : ba = none → bcap = 0) (hrl : b.length ≤ bcap) (hl : b.length ≤ 1099511627776) (hby : ∀ z ∈ b, 0 ≤ z ∧ z ≤ 255) (hbo : ∀ x, ba = some x → 0 < b.length → ¬ O x.block) :
    Calls Tryz.prog 11 #[.pointer (some ⟨s, 0, none⟩), .slice ba b.length bcap] w (PutP O w s d S b) := by
  obtain ⟨L, pg, bc, bs, bg, sa, sc, sm, h, so, hO⟩ := h
  have CA := halive_ob h.ob (pg := pg) (b := S.ended) rfl rfl
  have HO := hide hO
  have HS := hide so
  have HH := hide h
  have HX := hide (show CSx (Gro O w w) w s d S from ⟨L, pg, bc, bs, bg, sa, sc, sm, h, so, fun i q => .inl (hO i q)⟩)
  have HCA := hide CA
  have HR := hide hr
  have HBY := hide hby
  obtain ⟨nb, hnb⟩ : ∃ nb, nb = b.length := ⟨_, rfl⟩
  have HNB := hide hnb
  rw [← hnb] at hl hrl ⊢
  clear hnb
  cases hen : S.ended
  · rw [hen] at HCA
    have HEN := hide hen
    clear CA hen
    by_cases hlong : 131072 < nb
    · clear h so hO
      go_enter Tryz.func11, Tryz.ntmps11
      go_wp2_with fail
      refine HCA.out.mono ?_
      rintro e wx ⟨rfl, rfl⟩
      go_wp2
      refine bodyPost_ret (by simp [results, Tryz.results11, go_sem]; rfl) rfl ?_
      exact ⟨0, 2, S, rfl, by unfold PutR; rw [if_neg (by rw [HEN.out]; simp), if_pos (by rw [← HNB.out]; exact hlong)]; exact ⟨rfl, rfl, rfl⟩, HX.out, Onl.refl _ _⟩
    · have CSm := hsame_any h (fun k i hi => by obtain ⟨c, hc, _⟩ := (so.is k i).1 hi; rw [hc]; simp) (by omega) ba bcap b hr (by rw [← HNB.out]; omega) hby (Nat.le_trans (so.len hf _) (by omega))
      rw [← HNB.out] at CSm
      have HSM := hide CSm
      clear h so hO CSm
      go_enter Tryz.func11, Tryz.ntmps11
      go_wp2_with fail
      refine HCA.out.mono ?_
      rintro e wx ⟨rfl, rfl⟩
      go_wp2_with fail
      refine HSM.out.mono ?_
      rintro e w1 ⟨id0, er0, rfl, hsl, b1⟩
      have hsr : SameR S b id0 er0 := ⟨sm (sumN b), fun i => HS.out.is _ i, hsl⟩
      have HSR := hide hsr
      have HB1 := hide b1
      have HPU : Hid (∀ id er S', (if id0 ≠ 0 ∨ er0 ≠ 0 then id = id0 ∧ er = er0 ∧ S' = S
          else if S.next = 18446744073709551615 then id = 0 ∧ er = 70 ∧ S' = S
          else if (S.c.put S.st b).1.2 ≠ 0 then id = 0 ∧ er = (S.c.put S.st b).1.2 ∧ S' = { S with c := (S.c.put S.st b).2.1, st := (S.c.put S.st b).2.2, ended := endsE (S.c.put S.st b).1.2 }
          else id = S.next ∧ er = 0 ∧ S' = { S with c := (S.c.put S.st b).2.1, st := (S.c.put S.st b).2.2, ended := false, ch := upd S.ch S.next (some ⟨(S.c.put S.st b).1.1, b.length, sumN b⟩), next := S.next + 1 }) → PutR S b id er S') := by
        refine hide (fun id er S' q => ?_)
        unfold PutR
        rw [if_neg (by rw [HEN.out]; simp), if_neg (by rw [← HNB.out]; exact hlong)]
        exact ⟨id0, er0, hsr, q⟩
      clear hsl hsr b1 hlong
      by_cases hsome : id0 ≠ 0 ∨ er0 ≠ 0
      · have HF : Hid (PutP O w s d S b (.returned (.tuple #[.int .u64 id0, .int .i64 er0])) w1) := by
          refine hide ⟨id0, er0, S, rfl, HPU.out _ _ _ (by rw [if_pos hsome]; exact ⟨rfl, rfl, rfl⟩), ?_, Onl.ofBelow HB1.out⟩
          exact ⟨L, pg, bc, bs, bg, sa, sc, sm, HH.out.below HB1.out, HS.out, fun i q => .inl (HO.out i q)⟩
        cases hi0 : ((id0 : Int) != 0)
        · have he0 : (er0 != 0) = true := by simp at hi0 ⊢; rcases hsome with z | z <;> omega
          clear hsome
          go_wp2
          refine bodyPost_ret (by simp [results, Tryz.results11, go_sem]; rfl) rfl ?_
          exact HF.out
        · clear hsome
          go_wp2
          refine bodyPost_ret (by simp [results, Tryz.results11, go_sem]; rfl) rfl ?_
          exact HF.out
      · have hz : id0 = 0 ∧ er0 = 0 := by omega
        obtain ⟨rfl, rfl⟩ := hz
        have HT1 := hide (HH.out.below HB1.out)
        have n3 := HT1.out.ob.cell 3
        have n0 := HT1.out.ob.cell 0
        simp only [stC, List.getElem?_cons_zero, List.getElem?_cons_succ] at n0 n3
        obtain ⟨N, hN⟩ : ∃ N, N = S.next := ⟨_, rfl⟩
        rw [← hN] at n3
        have HN := hide hN
        clear hsome hN
        by_cases hmax : N = 18446744073709551615
        · subst hmax
          have HF : Hid (PutP O w s d S b (.returned (.tuple #[.int .u64 0, .int .i64 70])) w1) := by
            refine hide ⟨0, 70, S, rfl, HPU.out _ _ _ (by rw [if_neg (by simp), if_pos HN.out.symm]; exact ⟨rfl, rfl, rfl⟩), ?_, Onl.ofBelow HB1.out⟩
            exact ⟨L, pg, bc, bs, bg, sa, sc, sm, HT1.out, HS.out, fun i q => .inl (HO.out i q)⟩
          go_wp2
          refine bodyPost_ret (by simp [results, Tryz.results11, go_sem]; rfl) rfl ?_
          exact HF.out
        · have hmx : ((N : Int) == 18446744073709551615) = false := by simp; omega
          have hNm : N < 18446744073709551615 := by have := HN.out; omega
          have CP := cput_any HT1.out.px hcc ba bcap b (HR.out.below HB1.out) hrn (by rw [← HNB.out]; exact hrl) (fun x hx hl q => hbo x hx hl (HO.out _ (by omega))) HBY.out
          rw [← HNB.out] at CP
          obtain ⟨⟨⟨⟨pa, pk⟩, er⟩, c', st'⟩, hPR⟩ : ∃ PR, PR = S.c.put S.st b := ⟨_, rfl⟩
          rw [← hPR] at CP
          simp only at CP
          have HCP := hide CP
          have HPR := hide hPR
          clear CP hPR hmax
          go_wp2_with fail
          refine HCP.out.mono ?_
          rintro en w2 ⟨rfl, p2, o2⟩
          have T2 := HT1.out.pager p2 o2
          have kx : Ob (w2.alloc (.cells #[.int .i64 pa, .int .i64 pk] 84)) w2.heap.size 84 [.int .i64 pa, .int .i64 pk] := Ob.new w2 [.int .i64 pa, .int .i64 pk] 84
          have b3 : Below w2.heap.size w2 (w2.alloc (.cells #[.int .i64 pa, .int .i64 pk] 84)) := (Below.refl _ w2).alloc (Nat.le_refl _) _
          have T3 := T2.below b3
          have CE := hends_ob T3.ob (by simp [stC]) er
          have k4 := T3.ob.set 7 (.bool (endsE er))
          simp only [stC, List.set_cons_succ, List.set_cons_zero] at k4
          have o4 : Onl (fun i => i = s) (w2.alloc (.cells #[.int .i64 pa, .int .i64 pk] 84)) ((w2.alloc (.cells #[.int .i64 pa, .int .i64 pk] 84)).setCell ⟨s, 7, none⟩ (.bool (endsE er))) := (Onl.refl (fun i => i = s) _).set (p := s) (.inl rfl) _
          have T4 := T3.cells (nx := S.next) (fi := S.first) (en := endsE er) k4 o4
          have hs2 : w1.heap.size ≤ w2.heap.size := o2.size
          have hs1 : w.heap.size ≤ w1.heap.size := HB1.out.size
          have hOs : O s := HO.out s (by rw [HH.out.ls]; omega)
          have O4 : Onl O w ((w2.alloc (.cells #[.int .i64 pa, .int .i64 pk] 84)).setCell ⟨s, 7, none⟩ (.bool (endsE er))) := (((Onl.ofBelow HB1.out).more o2 (fun i q => .inl (HO.out i (by omega)))).trans (Onl.ofBelow b3)).more o4 (fun i q => .inl (by rw [q]; exact hOs))
          have kx4 := kx.onl o4 (fun e => by have := T2.ob.lt; omega)
          have HL2 : Hid (∀ i, tagd L w1 w2 2 i ≠ 0 → O i ∨ (w1.heap.size ≤ i ∧ i < w2.heap.size)) := by
            refine hide (fun i q => ?_)
            unfold tagd at q
            split at q
            · next z => exact .inr z
            · exact .inl (HO.out i q)
          have HL20 : tagd L w1 w2 2 w2.heap.size = 0 := by
            unfold tagd
            rw [if_neg (by omega)]
            by_cases q : L w2.heap.size = 0
            · exact q
            · have := HH.out.lt _ q; omega
          have HCE := hide CE
          have HT4 := hide T4
          have HO4 := hide O4
          have hx0 := kx4.cell 0
          have hx1 := kx4.cell 1
          have hy1 := T4.ob.cell 1
          have hy2 := T4.ob.cell 2
          have hy3 := T4.ob.cell 3
          simp only [stC, List.getElem?_cons_zero, List.getElem?_cons_succ] at hx0 hx1 hy1 hy2 hy3
          rw [← HN.out] at hy3
          have hs4 : ((w2.alloc (.cells #[.int .i64 pa, .int .i64 pk] 84)).setCell ⟨s, 7, none⟩ (.bool (endsE er))).heap.size = w2.heap.size + 1 := by simp [World.setCell]
          have HKX := hide kx4
          clear T2 T3 T4 CE k4 o4 O4 kx kx4 b3 p2 o2
          generalize hW4 : (w2.alloc (.cells #[.int .i64 pa, .int .i64 pk] 84)).setCell ⟨s, 7, none⟩ (.bool (endsE er)) = W4 at *
          have HW4 := hide hW4
          clear hW4
          go_wp2_with fail
          refine HCE.out.mono ?_
          rintro en wx ⟨rfl, hwx⟩
          rw [hwx]
          clear hwx
          by_cases her : er = 0
          · subst her
            have hee : endsE 0 = false := rfl
            have T5 := HT4.out.below ((Below.refl _ W4).drew)
            have CS2 := hsum_any (w := W4.drew) ba bcap b (hr.onl (HO4.out.drew) (fun x hx hl q => hbo x hx hl q)) (by rw [← HNB.out]; exact hl) HBY.out
            rw [← HNB.out] at CS2
            obtain ⟨K2, hk1, hk2⟩ := HS.out.cover hf
            have hk5 := HS.out.len hf (sumN b)
            obtain ⟨K1, hk3, hk4⟩ : Few S.ch 16383 := hf
            have hnl2 : N < 18446744073709551616 := by rw [HN.out]; exact hnl
            have CAd := cadd_any T5.sh T5.lt hnl2 ⟨⟨pa, pk⟩, nb, sumN b⟩ (sumN_lt b) (K1 := K1) (K2 := K2) hk3 (by unfold maxLen; omega) hk1 (by unfold maxLen; omega) (Nat.le_trans hk5 (by omega))
            have ev : Ck.val ⟨⟨pa, pk⟩, nb, sumN b⟩ = .agg #[.int .i64 pa, .int .i64 pk, .int .i64 nb, .int .u64 (sumN b : Nat)] := rfl
            rw [ev] at CAd
            obtain ⟨sb, hsb⟩ : ∃ sb, sb = sumN b := ⟨_, rfl⟩
            rw [← hsb] at CAd CS2
            have HSB := hide hsb
            have HCS2 := hide CS2
            have HCAd := hide CAd
            have HT5 := hide T5
            clear T5 CS2 CAd ev hsb hk1 hk2 hk3 hk4 hk5
            go_wp2
            go_region_held3 (fun W' => W'.cell? ⟨s, 1, none⟩ = some (.map (some bc)) ∧ W'.cell? ⟨s, 2, none⟩ = some (.map (some bs)) ∧ W'.cell? ⟨w2.heap.size, 0, none⟩ = some (.int .i64 pa) ∧ W'.cell? ⟨w2.heap.size, 1, none⟩ = some (.int .i64 pk)) (go_keep) (first
              | (go_at_call 42; refine HCS2.out.mono ?_; rintro en w5 ⟨rfl, rfl⟩)
              | (go_at_call 41; refine HCAd.out.mono ?_; rintro en w5 ⟨rfl, L5, l5, k5, pm5, e5, o5⟩; have T6 := HT5.out.shelf k5 e5 o5; have z1 := T6.ob.cell 1; have z2 := T6.ob.cell 2; have z3 := T6.ob.cell 3; have hox := HKX.out.onl ((Onl.refl (fun i => 10 ≤ tagd L w1 w2 2 i) W4).drew.trans o5) (by show ¬ (10 ≤ tagd L w1 w2 2 w2.heap.size); rw [HL20]; omega); have z4 := hox.cell 0; have z5 := hox.cell 1; simp only [stC, List.getElem?_cons_zero, List.getElem?_cons_succ] at z1 z2 z3 z4 z5; have HT6 := hide T6; have HP5 := hide pm5; have HE5 := hide e5; have HO5 := hide o5; clear T6 k5 pm5 e5 o5 hox))
            rw [← HN.out] at z3
            have kf := HT6.out.ob.frozen 3
            have k7 := HT6.out.ob.set 3 (.int .u64 ((N + 1 : Nat) : Int))
            simp only [stC, List.set_cons_succ, List.set_cons_zero] at k7
            have o7 : Onl (fun i => i = s) w5 (w5.setCell ⟨s, 3, none⟩ (.int .u64 ((N + 1 : Nat) : Int))) := (Onl.refl (fun i => i = s) _).set (p := s) (.inl rfl) _
            have T7 := HT6.out.cells (nx := N + 1) (fi := S.first) (en := endsE 0) k7 o7
            have hs5 : W4.heap.size ≤ w5.heap.size := HO5.out.size
            have hs7 : (w5.setCell ⟨s, 3, none⟩ (.int .u64 ((N + 1 : Nat) : Int))).heap.size = w5.heap.size := by simp [World.setCell]
            have O7 : Onl O w (w5.setCell ⟨s, 3, none⟩ (.int .u64 ((N + 1 : Nat) : Int))) := (HO4.out.drew.more HO5.out (fun i q => (HL2.out i (by have q' : 10 ≤ tagd L w1 w2 2 i := q; omega)).elim .inl (fun z => .inr (by omega)))).more o7 (fun i q => .inl (by rw [q]; exact hOs))
            have HF : Hid (PutP O w s d S b (.returned (.tuple #[.int .u64 N, .int .i64 0])) (w5.setCell ⟨s, 3, none⟩ (.int .u64 ((N + 1 : Nat) : Int)))) := by
              have hpr := HPR.out
              have hso : SumOk (upd S.ch N (some ⟨⟨pa, pk⟩, nb, sb⟩)) (upd sm sb l5) := HS.out.add (c := ⟨⟨pa, pk⟩, nb, sb⟩) (by rw [HN.out]; exact hn) HP5.out
              refine hide ⟨N, 0, _, rfl, HPU.out _ _ _ (by rw [if_neg (by simp), if_neg (by rw [← HN.out]; omega), if_neg (by rw [← hpr]; simp), ← hpr]; exact ⟨HN.out, rfl, rfl⟩), ?_, O7⟩
              rw [← HN.out, ← HNB.out, ← HSB.out]
              refine ⟨L5, pg, bc, bs, bg, sa, sc, _, T7, hso, fun i q => ?_⟩
              have hi5 : i < w5.heap.size := HE5.out.lt i q
              by_cases hi : i < W4.heap.size
              · rw [HE5.out.old i hi] at q
                rcases HL2.out i q with z | z
                · exact .inl z
                · exact .inr (by rw [hs7]; omega)
              · exact .inr (by rw [hs7]; omega)
            have hw1 : IntKind.u64.wrap ((N : Int) + 1) = ((N + 1 : Nat) : Int) := by rw [IntKind.wrap_u64]; omega
            have hNN : (((N + 1 : Nat) : Int)) = (N : Int) + 1 := by omega
            rw [hNN] at HF
            clear k7 o7 T7 O7 hw1 hNN
            go_wp2
            refine bodyPost_ret (by simp [results, Tryz.results11, go_sem]; rfl) rfl ?_
            exact HF.out
          · have hern : (er != 0) = true := by simpa using her
            have HF : Hid (PutP O w s d S b (.returned (.tuple #[.int .u64 0, .int .i64 er])) W4) := by
              have hpr := HPR.out
              refine hide ⟨0, er, _, rfl, HPU.out _ _ _ (by rw [if_neg (by simp), if_neg (by rw [← HN.out]; omega), if_pos (by rw [← hpr]; exact her), ← hpr]; exact ⟨rfl, rfl, rfl⟩), ⟨_, pg, bc, bs, bg, sa, sc, sm, HT4.out, HS.out, fun i q => ?_⟩, HO4.out⟩
              rcases HL2.out i q with z | z
              · exact .inl z
              · exact .inr (by omega)
            clear her
            go_wp2
            refine bodyPost_ret (by simp [results, Tryz.results11, go_sem]; rfl) rfl ?_
            exact HF.out
  · rw [hen] at HCA
    have HEN := hide hen
    clear h CA hen so hO
    go_enter Tryz.func11, Tryz.ntmps11
    go_wp2_with fail
    refine HCA.out.mono ?_
    rintro e wx ⟨rfl, rfl⟩
    go_wp2
    refine bodyPost_ret (by simp [results, Tryz.results11, go_sem]; rfl) rfl ?_
    exact ⟨0, 40, S, rfl, by unfold PutR; rw [if_pos HEN.out]; exact ⟨rfl, rfl, rfl⟩, HX.out, Onl.refl _ _⟩
end Go.Proofs.YtegadgncggbeoaaGreat
