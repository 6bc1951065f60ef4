/- The program's Of of layer 9, over the translation. -/
import Derived.Test.YtandjkogpdamcaaNeO
import Derived.Test.YtandjkogpdamcaaNeQ
namespace Go.Proofs.Ytandjkogpdamcaa
open Go.RowKit Apo
set_option maxRecDepth 100000 in
theorem fin_of {W : World} {g : Nat} {c0 c1 c2 : Value} {er : Int} {tmps : Array Value} {Q : Ending → World → Prop} (k : Ob W g 25 [c0, c1, c2]) (h4 : tmps.getD 2 undef = .pointer (some ⟨g, 0, none⟩)) (h5 : tmps.getD 3 undef = .int .i64 er) (hq : Q (.returned (.tuple #[.agg #[c0, c1, c2], .int .i64 er])) W) :
    bodyPost Try.prog Try.f11 Q Exit.ret { tmps := tmps, defers := [] } W := by
  have hl := run_loadVar_row (P := Try.prog) W g 25 25 #[c0, c1, c2] (0, 0) _ k Try.underlying25 rfl (by rw [size_node]; rfl)
  have h4' : tmps[2]?.getD undef = .pointer (some ⟨g, 0, none⟩) := by simpa using h4
  have h5' : tmps[3]?.getD undef = .int .i64 er := by simpa using h5
  refine bodyPost_ret (v := .tuple #[.agg #[c0, c1, c2], .int .i64 er]) ?_ rfl hq
  simp [results, Try.results11, asAddr, h4', h5', hl]
theorem RdEn.onl {F : Nat → Prop} {w w' : World} {a : Option Addr} {l : List En} (h : RdEn w a l) (o : Onl F w w') (hF : ∀ (g of : Nat) (s : ByteArray), w.cell? ⟨g, of, none⟩ = some (.string s) → ¬ F g) : RdEn w' a l := by
  intro i e hi
  obtain ⟨g, of, h1, h2, h3⟩ := h i e hi
  have hg := World.block_lt_of_cell? _ _ h2
  have hb := o.block g hg (hF g _ _ h2)
  exact ⟨g, of, h1, (World.cell?_of_block (a := ⟨g, of + i * 2, none⟩) hb).trans h2, (World.cell?_of_block (a := ⟨g, of + i * 2 + 1, none⟩) hb).trans h3⟩
theorem RdKi.onl {F : Nat → Prop} {w w' : World} {a : Option Addr} {l : List Ki} (h : RdKi w a l) (o : Onl F w w') (hF : ∀ (g of : Nat) (s : ByteArray), w.cell? ⟨g, of, none⟩ = some (.string s) → ¬ F g) : RdKi w' a l := by
  intro i e hi
  obtain ⟨g, of, h1, h2, h3⟩ := h i e hi
  have hg := World.block_lt_of_cell? _ _ h2
  have hb := o.block g hg (hF g _ _ h2)
  exact ⟨g, of, h1, (World.cell?_of_block (a := ⟨g, of + i * 2, none⟩) hb).trans h2, (World.cell?_of_block (a := ⟨g, of + i * 2 + 1, none⟩) hb).trans h3⟩
theorem OkN.onl {F : Nat → Prop} {w w' : World} {x : NdA} (h : OkN w x) (o : Onl F w w') (hF : ∀ (g of : Nat) (s : ByteArray), w.cell? ⟨g, of, none⟩ = some (.string s) → ¬ F g) : OkN w' x := { h with es := RdEn.onl h.es o hF, ks := RdKi.onl h.ks o hF }
/-- a block with a node in it holds no string -/
theorem no_str {w : World} {q : Nat} {t : TypeId} {z : Int} {a c : Option Addr} {n m k l : Nat} (h : Ob w q t [.int .i64 z, .slice a n m, .slice c k l]) (g of : Nat) (s : ByteArray) (hc : w.cell? ⟨g, of, none⟩ = some (.string s)) : ¬ g = q := by
  intro e
  subst e
  rw [h.cell of] at hc
  match of, hc with
  | 0, hc => simp at hc
  | 1, hc => simp at hc
  | 2, hc => simp at hc
  | of + 3, hc => simp at hc
def zeroN : NdA := ⟨⟨0, [], []⟩, none, 0, none, 0⟩
theorem okN_zero (w : World) : OkN w zeroN := ⟨fun i e hi => by simp [zeroN] at hi, fun i e hi => by simp [zeroN] at hi, fun _ => rfl, fun _ => rfl, by simp [zeroN], by simp [zeroN], by simp [zeroN, maxLen], by simp [zeroN, maxLen], by simp [zeroN], by simp [zeroN], by simp [zeroN]⟩
set_option maxRecDepth 100000 in
set_option maxHeartbeats 2000000 in
theorem of_node (w : World) (a : Option Addr) (cap : Nat) (b : List Int) (hr : Rd .u8 w a b) (hn : a = none → cap = 0) (hb : InB b) (hl : b.length ≤ 49152) :
    Calls Try.prog 11 #[.slice a b.length cap] w (NoP w (nodeOf b).1 (nodeOf b).2) := by
  have HY := hide (nodeOf_yes hb hl)
  have HX := hide (nodeOf_no hb hl)
  have hpl : (pRaw b).2.es.length ≤ 1000000 ∧ (pRaw b).2.ks.length ≤ 1000000 := by
    unfold pRaw
    have h1 := eachOf_len enS (rnum (some b) 20).2 (l := b.length) (rnum_left b 20)
    have h2 := eachOf_len kiS (rnum (some b) 20).2 (l := b.length) (rnum_left b 20)
    split
    · exact ⟨by simp only; omega, by simp⟩
    · exact ⟨by simp, by simp only; omega⟩
  obtain ⟨W0, hW0⟩ : ∃ W0, W0 = w.alloc (.cells #[.int .i64 0, .slice none 0 0, .slice none 0 0] 25) := ⟨_, rfl⟩
  have b0 : Below w.heap.size w W0 := by rw [hW0]; exact (Below.refl _ w).alloc (Nat.le_refl _) _
  have s0 : W0.heap.size = w.heap.size + 1 := by rw [hW0]; simp
  have k0 : Ob W0 w.heap.size 25 [.int .i64 0, .slice none 0 0, .slice none 0 0] := by rw [hW0]; exact Ob.new w [.int .i64 0, .slice none 0 0, .slice none 0 0] 25
  have HC1 := hide (read_any a cap b W0 (hr.below b0) hn hb (by omega))
  have HC2 := hide (fun (p g : Nat) (W : World) (h : Rr W p 88 g (some b)) (hg : g < W.heap.size) => rnode_p p g b W h hg hl)
  obtain ⟨nb, hnb⟩ : ∃ nb, nb = b.length := ⟨_, rfl⟩
  obtain ⟨PR, hPR⟩ : ∃ PR, PR = pRaw b := ⟨_, rfl⟩
  obtain ⟨NO, hNO⟩ : ∃ NO, NO = nodeOf b := ⟨_, rfl⟩
  rw [← hPR] at HC2 HY HX hpl
  rw [← hNO] at HY HX ⊢
  rw [← hnb] at HC1 hl ⊢
  have HK0 := hide k0
  have HB0 := hide b0
  have d1 : decide ((131072 : Int) < (nb : Int)) = false := by simp; omega
  have d2 : decide (131072 < nb) = false := by simp; omega
  rw [hW0] at HC1
  clear hr hn hb hnb hPR hNO k0 b0
  go_enter Try.func11, Try.ntmps11
  go_wp2_with fail
  refine HC1.out.mono ?_
  rintro e w1 ⟨p, g, rfl, r1, p1, p2, p3, p4, b1⟩
  rw [← hW0] at p1 p2 b1
  obtain ⟨W1, hW1⟩ : ∃ W1, W1 = w1.alloc (.cells #[.pointer (some ⟨p, 0, none⟩)] 70) := ⟨_, rfl⟩
  have bw : Below w1.heap.size w1 W1 := by rw [hW1]; exact (Below.refl _ _).alloc (Nat.le_refl _) _
  have sw : W1.heap.size = w1.heap.size + 1 := by rw [hW1]; simp
  have z1 := b1.size
  have kq : Ob W1 w1.heap.size 70 [.pointer (some ⟨p, 0, none⟩)] := by rw [hW1]; exact Ob.new w1 [.pointer (some ⟨p, 0, none⟩)] 70
  have k1 := (HK0.out.old b1).old bw
  have B1 : Below W0.heap.size W0 W1 := b1.trans (bw.mono z1)
  have HC3 := hide (HC2.out p g W1 (r1.old bw) (by omega))
  have c0 := kq.cell 0
  simp only [List.getElem?_cons_zero] at c0
  have HKQ := hide kq
  have HK1 := hide k1
  have HB1 := hide B1
  rw [hW1] at HC3 c0
  clear HC1 HC2 r1 b1 bw kq k1 B1
  go_wp2_with fail
  refine HC3.out.mono ?_
  rintro e w2 ⟨x, hx, ok, rfl, r2, g2⟩
  rw [← hW1] at g2
  have z2 := g2.size
  have kq2 := HKQ.out.kept g2 (by intro e; have e2 := Option.some.inj e; omega)
  have k2 := HK1.out.kept g2 (by intro e; have e2 := Option.some.inj e; omega)
  obtain ⟨W2, hW2⟩ : ∃ W2, W2 = w2.alloc (.cells x.cells.toArray 25) := ⟨_, rfl⟩
  have bw : Below w2.heap.size w2 W2 := by rw [hW2]; exact (Below.refl _ _).alloc (Nat.le_refl _) _
  have sw2 : W2.heap.size = w2.heap.size + 1 := by rw [hW2]; simp
  have kx : Ob W2 w2.heap.size 25 x.cells := by rw [hW2]; exact Ob.new w2 x.cells 25
  have kq3 := kq2.old bw
  have k3 := k2.old bw
  have ok3 := ok.below bw
  have B2 : Below w.heap.size w W2 := HB0.out.trans (((HB1.out.mono (by omega)).grown g2 (by omega) (fun j hj => by cases hj; omega)).trans (bw.mono (by omega)))
  have HCD := hide (rddone_any p g PR.1 W2 (r2.old bw))
  have HCR := hide (right_any W2 x ok3 (by rw [hx]; exact hpl.1) (by rw [hx]; exact hpl.2))
  rw [hx] at HCR
  have e0 := kq3.cell 0
  simp only [List.getElem?_cons_zero] at e0
  have HKX := hide kx
  have HK3 := hide k3
  have HB2 := hide B2
  have HOK := hide ok3
  have HXN := hide hx
  obtain ⟨qx, hqx⟩ : ∃ qx, qx = w2.heap.size := ⟨_, rfl⟩
  have hqx2 : w.heap.size < qx := by omega
  have HQX := hide hqx
  rw [← hqx] at HKX
  obtain ⟨⟨lv, es, ks⟩, ea, ec, ka, kc⟩ := x
  simp only [NdA.cells] at *
  obtain ⟨ne, hne⟩ : ∃ ne, ne = es.length := ⟨_, rfl⟩
  obtain ⟨nk, hnk⟩ : ∃ nk, nk = ks.length := ⟨_, rfl⟩
  have HNE := hide (And.intro hne hnk)
  rw [← hne, ← hnk] at HKX HCR hW2 ⊢
  rw [hW2] at HCD HCR e0
  clear HC3 ok ok3 r2 g2 kq2 k2 bw kx kq3 k3 B2 hx hqx hne hnk
  have HZ : Hid (∀ W : World, Below w.heap.size w W → NO = (⟨0, [], []⟩, 90) → NoP w NO.1 NO.2 (.returned (.tuple #[.agg #[.int .i64 0, .slice none 0 0, .slice none 0 0], .int .i64 90])) W) := hide (fun W hB e => ⟨zeroN, by rw [e]; rfl, okN_zero W, by rw [e]; rfl, hB⟩)
  have t0 := HK3.out.cell 0
  have t1 := HK3.out.cell 1
  have t2 := HK3.out.cell 2
  have tf0 := HK3.out.frozen 0
  have tf1 := HK3.out.frozen 1
  have tf2 := HK3.out.frozen 2
  simp only [List.getElem?_cons_zero, List.getElem?_cons_succ] at t0 t1 t2
  by_cases hd : PR.1 = some []
  · have hdd : decide (PR.1 = some []) = true := by simpa using hd
    rw [hdd] at HCD
    go_wp2_with fail
    refine HCD.out.mono ?_
    rintro e w3 ⟨rfl, rfl⟩
    go_wp2_with fail
    refine HCR.out.mono ?_
    rintro e w3 ⟨rfl, b3⟩
    rw [← hW2] at b3
    have z3 := b3.size
    rw [← HQX.out]
    have kx3 := HKX.out.old b3
    have k4 := HK3.out.old b3
    have u0 := k4.cell 0
    have u1 := k4.cell 1
    have u2 := k4.cell 2
    have uf0 := k4.frozen 0
    have uf1 := k4.frozen 1
    have uf2 := k4.frozen 2
    have v0 := kx3.cell 0
    have v1 := kx3.cell 1
    have v2 := kx3.cell 2
    simp only [List.getElem?_cons_zero, List.getElem?_cons_succ] at u0 u1 u2 v0 v1 v2
    have B3 : Below w.heap.size w w3 := HB2.out.trans (b3.mono (by omega))
    obtain ⟨nE, hnE⟩ : ∃ nE, nE = nodeE PR.2 := ⟨_, rfl⟩
    rw [← hnE] at HY HX ⊢
    by_cases hz : nE = 0
    · subst hz
      have hno := HY.out ⟨hd, rfl⟩
      obtain ⟨w4, hw4⟩ : ∃ w4, w4 = ((w3.setCell ⟨w.heap.size, 0, none⟩ (.int .i64 lv)).setCell ⟨w.heap.size, 1, none⟩ (.slice ea ne ec)).setCell ⟨w.heap.size, 2, none⟩ (.slice ka nk kc) := ⟨_, rfl⟩
      have o4 : Onl (fun i => i = w.heap.size) w3 w4 := by
        rw [hw4]
        exact (((Onl.refl (fun i => i = w.heap.size) w3).set (p := w.heap.size) (.inl rfl) _).set (p := w.heap.size) (.inl rfl) _).set (p := w.heap.size) (.inl rfl) _
      have kr4 : Ob w4 w.heap.size 25 [.int .i64 lv, .slice ea ne ec, .slice ka nk kc] := by
        rw [hw4]
        exact ((k4.set 0 _).set 1 _).set 2 _
      have HF : Hid (NoP w NO.1 NO.2 (.returned (.tuple #[.agg #[.int .i64 lv, .slice ea ne ec, .slice ka nk kc], .int .i64 0])) w4) := by
        refine hide ⟨_, ?_, OkN.onl (HOK.out.below b3) o4 (no_str k4), ?_, Below.onl B3 o4 (fun i q => by omega) (Nat.le_refl _)⟩
        · rw [hno]; exact HXN.out
        · rw [hno, HNE.out.1, HNE.out.2]; rfl
      have HKR := hide kr4
      rw [hw4] at HF HKR
      clear o4 kr4 hw4 b3 kx3 k4 B3 hno hnE hd
      go_wp2
      exact fin_of HKR.out rfl rfl HF.out
    · have hno := HX.out (fun q => hz q.2)
      have hz2 : (nE != 0) = true := by simpa using hz
      obtain ⟨w4, hw4⟩ : ∃ w4, w4 = ((w3.setCell ⟨w.heap.size, 0, none⟩ (.int .i64 0)).setCell ⟨w.heap.size, 1, none⟩ (.slice none 0 0)).setCell ⟨w.heap.size, 2, none⟩ (.slice none 0 0) := ⟨_, rfl⟩
      have o4 : Onl (fun i => i = w.heap.size) w3 w4 := by
        rw [hw4]
        exact (((Onl.refl (fun i => i = w.heap.size) w3).set (p := w.heap.size) (.inl rfl) _).set (p := w.heap.size) (.inl rfl) _).set (p := w.heap.size) (.inl rfl) _
      have kr4 : Ob w4 w.heap.size 25 [.int .i64 0, .slice none 0 0, .slice none 0 0] := by
        rw [hw4]
        exact ((k4.set 0 _).set 1 _).set 2 _
      have HF := hide (HZ.out w4 (Below.onl B3 o4 (fun i q => by omega) (Nat.le_refl _)) hno)
      have HKR := hide kr4
      rw [hw4] at HF HKR
      clear o4 kr4 hw4 b3 kx3 k4 B3 hno hnE hd hz
      go_wp2
      exact fin_of HKR.out rfl rfl HF.out
  · have hdd : decide (PR.1 = some []) = false := by simpa using hd
    rw [hdd] at HCD
    have hno := HX.out (fun q => hd q.1)
    obtain ⟨w4, hw4⟩ : ∃ w4, w4 = ((W2.setCell ⟨w.heap.size, 0, none⟩ (.int .i64 0)).setCell ⟨w.heap.size, 1, none⟩ (.slice none 0 0)).setCell ⟨w.heap.size, 2, none⟩ (.slice none 0 0) := ⟨_, rfl⟩
    have o4 : Onl (fun i => i = w.heap.size) W2 w4 := by
      rw [hw4]
      exact (((Onl.refl (fun i => i = w.heap.size) W2).set (p := w.heap.size) (.inl rfl) _).set (p := w.heap.size) (.inl rfl) _).set (p := w.heap.size) (.inl rfl) _
    have kr4 : Ob w4 w.heap.size 25 [.int .i64 0, .slice none 0 0, .slice none 0 0] := by
      rw [hw4]
      exact ((HK3.out.set 0 _).set 1 _).set 2 _
    have HF := hide (HZ.out w4 (Below.onl HB2.out o4 (fun i q => by omega) (Nat.le_refl _)) hno)
    have HKR := hide kr4
    rw [hw4] at HF HKR
    clear o4 kr4 hw4 hno hd
    go_wp2_with fail
    refine HCD.out.mono ?_
    rintro e w3 ⟨rfl, rfl⟩
    rw [← hW2]
    clear hW2
    go_wp2
    exact fin_of HKR.out rfl rfl HF.out
end Go.Proofs.Ytandjkogpdamcaa
