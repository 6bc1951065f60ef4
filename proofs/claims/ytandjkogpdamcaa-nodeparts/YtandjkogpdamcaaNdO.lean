/- The document's NodeOf, over the translation. -/
import Derived.Test.YtandjkogpdamcaaNdN
import Derived.Test.YtandjkogpdamcaaNdT
import Derived.Test.YtandjkogpdamcaaRef
import Derived.Test.YtandjkogpdamcaaRrn
import Derived.Deep.RegionHeld3
import Derived.Deep.RegionLaw
namespace Go.Proofs.Ytandjkogpdamcaa
open Go.RowKit Apo
/-- one entry, or one child, is read -/
noncomputable def ofStep (lv : Int) (s : St × List En × List Ki) : St × List En × List Ki :=
  if lv = 0 then ((rtext (rtext s.1 40).2 200).2, s.2.1 ++ [⟨strOfNums (rtext s.1 40).1, strOfNums (rtext (rtext s.1 40).2 200).1⟩], s.2.2)
  else ((rnum (rtext s.1 40).2 18446744073709551615).2, s.2.1, s.2.2 ++ [⟨strOfNums (rtext s.1 40).1, (rnum (rtext s.1 40).2 18446744073709551615).1.toNat⟩])
open Classical in
noncomputable def ofK (lv : Int) (st : St) : Nat → St × List En × List Ki
  | 0 => (st, [], [])
  | k + 1 => if (ofK lv st k).1 = none then ofK lv st k else ofStep lv (ofK lv st k)
open Classical in
set_option maxRecDepth 100000 in
theorem ofK_succ (lv : Int) (st : St) (k : Nat) : ofK lv st (k + 1) = if (ofK lv st k).1 = none then ofK lv st k else ofStep lv (ofK lv st k) := rfl
set_option maxRecDepth 100000 in
theorem ofK_stuck {lv : Int} {st : St} {k : Nat} (h : (ofK lv st k).1 = none) : ∀ m, ofK lv st (k + m) = ofK lv st k
  | 0 => rfl
  | m + 1 => by
    rw [← Nat.add_assoc, ofK_succ, ofK_stuck h m, if_pos h]
set_option maxRecDepth 100000 in
theorem ofK_len {lv : Int} {st : St} : ∀ k, (ofK lv st k).2.1.length ≤ k ∧ (ofK lv st k).2.2.length ≤ k
  | 0 => by simp [ofK]
  | k + 1 => by
    have := ofK_len (lv := lv) (st := st) k
    unfold ofK
    split
    · omega
    · unfold ofStep
      split
      · simp; omega
      · simp; omega
/-- what bytes are as a node -/
noncomputable def ofRaw (b : List Int) : St × Nd :=
  ((ofK (rnum (some b) 20).1 (rnum (rnum (some b) 20).2 16384).2 (rnum (rnum (some b) 20).2 16384).1.toNat).1, ⟨(rnum (some b) 20).1, (ofK (rnum (some b) 20).1 (rnum (rnum (some b) 20).2 16384).2 (rnum (rnum (some b) 20).2 16384).1.toNat).2.1, (ofK (rnum (some b) 20).1 (rnum (rnum (some b) 20).2 16384).2 (rnum (rnum (some b) 20).2 16384).1.toNat).2.2⟩)
open Classical in
noncomputable def nodeOf (b : List Int) : Nd × Int := if (ofRaw b).1 = some [] ∧ b.length ≤ 131072 ∧ nodeE (ofRaw b).2 = 0 then ((ofRaw b).2, 0) else (⟨0, [], []⟩, 90)
set_option maxRecDepth 100000 in
theorem rnum_bd (st : St) {most : Int} (h : 0 ≤ most) : 0 ≤ (rnum st most).1 ∧ (rnum st most).1 ≤ most := by
  unfold rnum
  cases st with
  | none => exact ⟨by simp, h⟩
  | some l =>
    simp only
    cases num1 l with
    | none => exact ⟨by simp, h⟩
    | some x =>
      simp only
      split
      · next q => exact ⟨by simp, q⟩
      · exact ⟨by simp, h⟩
set_option maxRecDepth 100000 in
theorem rtext_len (st : St) {most : Int} (h : 0 ≤ most) : ((rtext st most).1.length : Int) ≤ most := by
  unfold rtext
  rw [if_neg (by omega)]
  have hb := rnum_bd st h
  generalize rnum st most = q at hb
  obtain ⟨n, r⟩ := q
  cases r with
  | none => simpa using h
  | some r =>
    simp only at hb ⊢
    split
    · simp only [List.length_take]
      omega
    · simpa using h
set_option maxRecDepth 100000 in
theorem ofK_sz {lv : Int} {st : St} : ∀ k, (∀ e ∈ (ofK lv st k).2.1, e.k.size ≤ 40 ∧ e.v.size ≤ 200) ∧ (∀ e ∈ (ofK lv st k).2.2, e.k.size ≤ 40 ∧ e.i < 18446744073709551616)
  | 0 => by simp [ofK]
  | k + 1 => by
    have ih := ofK_sz (lv := lv) (st := st) k
    rw [ofK_succ]
    split
    · exact ih
    · have h1 := rtext_len (ofK lv st k).1 (most := 40) (by omega)
      have h2 := rtext_len (rtext (ofK lv st k).1 40).2 (most := 200) (by omega)
      have h3 := rnum_bd (rtext (ofK lv st k).1 40).2 (most := 18446744073709551615) (by omega)
      unfold ofStep
      split
      · refine ⟨fun e he => ?_, ih.2⟩
        rcases List.mem_append.1 he with q | q
        · exact ih.1 e q
        · simp at q
          subst q
          simp only [strOfNums_size]
          omega
      · refine ⟨ih.1, fun e he => ?_⟩
        rcases List.mem_append.1 he with q | q
        · exact ih.2 e q
        · simp at q
          subst q
          simp only [strOfNums_size]
          omega
set_option maxRecDepth 100000 in
theorem size_node : (Try.prog.info? 25).map (·.size) = some 3 := by kernel_rfl
set_option maxRecDepth 100000 in
theorem fin_nd {W : World} {g : Nat} {c0 c1 c2 : Value} {er : Int} {tmps : Array Value} {Q : Ending → World → Prop} (k : Ob W g 25 [c0, c1, c2]) (h4 : tmps.getD 2 undef = .pointer (some ⟨g, 0, none⟩)) (h5 : tmps.getD 3 undef = .int .i64 er) (hq : Q (.returned (.tuple #[.agg #[c0, c1, c2], .int .i64 er])) W) :
    bodyPost Try.prog Try.f12 Q Exit.ret { tmps := tmps, defers := [] } W := by
  have hl := run_loadVar_row (P := Try.prog) W g 25 25 #[c0, c1, c2] (0, 0) _ k Try.underlying25 rfl (by rw [size_node]; rfl)
  have h4' : tmps[2]?.getD undef = .pointer (some ⟨g, 0, none⟩) := by simpa using h4
  have h5' : tmps[3]?.getD undef = .int .i64 er := by simpa using h5
  refine bodyPost_ret (v := .tuple #[.agg #[c0, c1, c2], .int .i64 er]) ?_ rfl hq
  simp [results, Try.results12, asAddr, h4', h5', hl]
set_option maxRecDepth 100000 in
theorem Rr.onl {F : Nat → Prop} {w w' : World} {p g : Nat} {t : TypeId} {st : St} (h : Rr w p t g st) (o : Onl F w w') (hp : ¬ F p) (hg : ¬ F g) : Rr w' p t g st := by
  cases st with
  | none => exact Ob.onl h o hp
  | some l =>
    obtain ⟨a, cap, h1, h2, h3, h4, h5, h6, h7⟩ := h
    exact ⟨a, cap, h1.onl o hp, h2.onl o (fun x hx h0 => by rw [(h5 x hx h0).1]; exact hg), h3, h4, fun x hx h0 => ⟨(h5 x hx h0).1, (h5 x hx h0).2.1, Nat.lt_of_lt_of_le (h5 x hx h0).2.2 o.size⟩, h6, h7⟩
attribute [local go_sem ↓] Apo.app_exec Go.wp_at_zero Go.wp_at_succ
/-- what NodeOf tells -/
def NoP (w : World) (n : Nd) (er : Int) (e : Ending) (w' : World) : Prop := ∃ x : NdA, x.n = n ∧ OkN w' x ∧ e = .returned (.tuple #[.agg x.cells.toArray, .int .i64 er]) ∧ Below w.heap.size w w'
set_option maxRecDepth 100000 in
set_option maxHeartbeats 8000000 in
theorem rnodeof_any (w : World) (a : Option Addr) (cap : Nat) (b : List Int) (hr : Rd .u8 w a b) (hcap : b.length ≤ cap) (hn : a = none → cap = 0) (hb : InB b) (hl : b.length ≤ 1099511627776) :
    Calls Try.prog 12 #[.slice a b.length cap] w (NoP w (nodeOf b).1 (nodeOf b).2) := by
  obtain ⟨nb, hnb⟩ : ∃ nb, nb = b.length := ⟨_, rfl⟩
  obtain ⟨W0, hW0⟩ : ∃ W0, W0 = w.alloc (.cells #[.int .i64 0, .slice none 0 0, .slice none 0 0] 25) := ⟨_, rfl⟩
  have b0 : Below w.heap.size w W0 := by rw [hW0]; exact (Below.refl _ w).alloc (Nat.le_refl _) _
  have s0 : W0.heap.size = w.heap.size + 1 := by rw [hW0]; simp
  have rr0 := rr_new (w := W0) 74 (hr.below b0) hcap hn hb hl
  rw [← hnb] at rr0 ⊢
  obtain ⟨G, hG⟩ : ∃ G, G = blockOf a b W0.heap.size := ⟨_, rfl⟩
  rw [← hG] at rr0
  have hGr : G < w.heap.size ∨ G = w.heap.size + 1 := by
    rw [hG, s0]
    unfold blockOf
    split
    · next x y z => left; exact hr.lt (by simp)
    · right; rfl
  obtain ⟨W1, hW1⟩ : ∃ W1, W1 = W0.alloc (.cells #[.slice a nb cap, .bool false] 74) := ⟨_, rfl⟩
  rw [← hW1] at rr0
  have C1 := xnum_any W0.heap.size G (some b) 20 W1 rr0
  have s0' : (w.alloc (.cells #[.int .i64 0, .slice none 0 0, .slice none 0 0] 25)).heap.size = w.heap.size + 1 := by simp
  have HNB := hide hnb
  have HC1 := hide C1
  clear C1 hr hnb hG
  rw [hW1, hW0, s0'] at HC1
  go_enter Try.func12, Try.ntmps12
  go_wp2_with fail
  refine HC1.out.mono ?_
  rintro e w2 ⟨rfl, rr2, g2⟩
  have hlv := rnum_bd (some b) (most := 20) (by omega)
  obtain ⟨LV, hLV⟩ : ∃ LV, LV = (rnum (some b) 20).1 := ⟨_, rfl⟩
  obtain ⟨st1, hst1⟩ : ∃ st1, st1 = (rnum (some b) 20).2 := ⟨_, rfl⟩
  rw [← hLV] at hlv ⊢
  rw [← hst1] at rr2
  have B2 : Below w.heap.size w w2 := (((Below.refl _ w).alloc (Nat.le_refl _) _).alloc (by simp) _).grown g2 (by simp; omega) (fun k hk => by cases hk; omega)
  have pl2 := rr2.lt
  have HZ2 := hide (((Ob.new w [.int .i64 0, .slice none 0 0, .slice none 0 0] 25).alloc (.cells #[.slice a nb cap, .bool false] 74)).kept g2 (by intro e; have e2 := Option.some.inj e; omega))
  have rr3 := rr2.old (w' := w2.alloc (.cells #[.int .i64 LV, .slice none 0 0, .slice none 0 0] 25)) ((Below.refl _ w2).alloc (Nat.le_refl _) _)
  have C2 := xnum_any (w.heap.size + 1) G st1 16384 _ rr3
  have kn3 := Ob.new w2 [.int .i64 LV, .slice none 0 0, .slice none 0 0] 25
  have hwl : IntKind.i64.wrap LV = LV := by rw [IntKind.wrap_i64]; omega
  have HC2 := hide C2
  have HKN3 := hide kn3
  have HB2 := hide B2
  have HLV := hide hLV
  have HST1 := hide hst1
  clear rr2 g2 rr3 C2 kn3 B2 hLV hst1
  go_wp2_with fail
  refine HC2.out.mono ?_
  rintro e w4 ⟨rfl, rr4, g4⟩
  have hct := rnum_bd st1 (most := 16384) (by omega)
  obtain ⟨CT, hCT⟩ : ∃ CT : Nat, (CT : Int) = (rnum st1 16384).1 := ⟨(rnum st1 16384).1.toNat, by omega⟩
  obtain ⟨st2, hst2⟩ : ∃ st2, st2 = (rnum st1 16384).2 := ⟨_, rfl⟩
  rw [← hCT] at hct ⊢
  rw [← hst2] at rr4
  have kn4 := HKN3.out.kept g4 (by intro e; have e2 := Option.some.inj e; omega)
  have B4 : Below w.heap.size w w4 := (HB2.out.alloc HB2.out.size _).grown g4 (by have := HB2.out.size; simp; omega) (fun k hk => by cases hk; omega)
  obtain ⟨pN, hpN⟩ : ∃ pN, pN = w2.heap.size := ⟨_, rfl⟩
  rw [← hpN] at kn4 ⊢
  obtain ⟨pR, hpR⟩ : ∃ pR, pR = w.heap.size + 1 := ⟨_, rfl⟩
  rw [← hpR] at rr4 ⊢
  have hpp : pR ≠ pN := by omega
  have hGr2 : G < w.heap.size ∨ G = pR := by omega
  have hp1 : w.heap.size < pR := by omega
  have hp2 : w.heap.size < pN := by omega
  have z1 : Ob w2 w.heap.size 25 [.int .i64 0, .slice none 0 0, .slice none 0 0] := HZ2.out
  have HZ4' := hide ((z1.alloc (.cells #[.int .i64 LV, .slice none 0 0, .slice none 0 0] 25)).kept g4 (by intro e; have e2 := Option.some.inj e; omega))
  have HRR4 := hide rr4
  have HKN4 := hide kn4
  have HB4 := hide B4
  have HCT := hide hCT
  have HST2 := hide hst2
  clear rr4 g4 kn4 B4 hCT hst2 hpN hpR
  have HZ4 : Hid (Ob w4 w.heap.size 25 [.int .i64 0, .slice none 0 0, .slice none 0 0]) := HZ4'
  go_wp2
  go_loopw [7] (fun i wr => ∃ (k : Nat) (ea : Option Addr) (en ec : Nat) (ka : Option Addr) (kn kc : Nat), k ≤ CT ∧ i = .int .u64 k ∧ Hid (Rr wr pR 74 G (ofK LV st2 k).1) ∧ Hid (Ob wr pN 25 [.int .i64 LV, .slice ea en ec, .slice ka kn kc]) ∧ Hid (Row (fun g => w.heap.size ≤ g) wr 55 2 (.slice ea en ec) (ofK LV st2 k).2.1.length (ecells (ofK LV st2 k).2.1)) ∧ Hid (Row (fun g => w.heap.size ≤ g) wr 58 2 (.slice ka kn kc) (ofK LV st2 k).2.2.length (kcells (ofK LV st2 k).2.2)) ∧ Hid (Ob wr w.heap.size 25 [.int .i64 0, .slice none 0 0, .slice none 0 0]) ∧ Hid (Below w.heap.size w wr)) (fun i _ => CT - (intOf i).toNat)
  case atStart => exact ⟨0, none, 0, 0, none, 0, 0, Nat.zero_le _, rfl, HRR4, HKN4, hide (Row.nil _ _ _ _), hide (Row.nil _ _ _ _), HZ4, HB4⟩
  case round =>
    obtain ⟨k, ea, en, ec, ka, kn, kc, hk, rfl, HR, HK, HE, HI, HZ, HB⟩ := hrel
    have hkl := ofK_len (lv := LV) (st := st2) k
    have hks := ofK_sz (lv := LV) (st := st2) k
    obtain ⟨⟨sk, es, ks⟩, hq⟩ : ∃ q, ofK LV st2 k = q := ⟨_, rfl⟩
    rw [hq] at HR HE HI hkl hks
    simp only at HR HE HI hkl hks
    have HQ := hide hq
    have HKS := hide hks
    clear hq hks
    by_cases hgo : k < CT ∧ sk ≠ none
    · obtain ⟨hkc, hsn⟩ := hgo
      have hstep : ofK LV st2 (k + 1) = ofStep LV (sk, es, ks) := by rw [ofK_succ, HQ.out, if_neg hsn]
      have HSTEP := hide hstep
      have t1 : decide ((k : Int) < (CT : Int)) = true := by simp; omega
      have t1n : decide (k < CT) = true := by simp; omega
      obtain ⟨rc0, hrc⟩ : ∃ c0, Ob wr pR 74 [c0, .bool false] := by
        cases hsk : sk with
        | none => exact absurd hsk hsn
        | some l => rw [hsk] at HR; obtain ⟨a1, c1, h1, _⟩ := HR.out; exact ⟨_, h1⟩
      have rb := hrc.cell 1
      simp only [List.getElem?_cons_zero, List.getElem?_cons_succ] at rb
      have HRC := hide hrc
      have C5 := xtext_any pR G sk 40 wr HR.out (by omega)
      have HC5 := hide C5
      clear hrc hstep hsn C5
      go_wp2_with fail
      refine HC5.out.mono ?_
      rintro e w5 ⟨rfl, rr5, g5⟩
      obtain ⟨key, hkey⟩ : ∃ key, key = strOfNums (rtext sk 40).1 := ⟨_, rfl⟩
      obtain ⟨st5, hst5⟩ : ∃ st5, st5 = (rtext sk 40).2 := ⟨_, rfl⟩
      rw [← hkey]
      rw [← hst5] at rr5
      have apE : (Value.slice ea en ec).ownBlock ≠ some pR := Row.apartOb HE.out HRC.out (by decide)
      have apK : (Value.slice ka kn kc).ownBlock ≠ some pR := Row.apartOb HI.out HRC.out (by decide)
      have o5 : Onl (fun i => i = pR) wr w5 := (Onl.refl _ wr).grown g5 (fun j hj => .inl (by cases hj; rfl))
      have k5 := HK.out.onl o5 (fun q => hpp q.symm)
      have z5 := HZ.out.onl o5 (by omega)
      have e5 := HE.out.onl o5 (fun g hg q => apE (by rw [hg, q]))
      have i5 := HI.out.onl o5 (fun g hg q => apK (by rw [hg, q]))
      have B5 : Below w.heap.size w w5 := Below.onl HB.out o5 (fun i q => by omega) (Nat.le_refl _)
      have n0 := k5.cell 0
      have n1 := k5.cell 1
      have n2 := k5.cell 2
      have nf1 := k5.frozen 1
      have nf2 := k5.frozen 2
      simp only [List.getElem?_cons_zero, List.getElem?_cons_succ] at n0 n1 n2
      have HK5 := hide k5
      have HZ5 := hide z5
      have HE5 := hide e5
      have HI5 := hide i5
      have HB5 := hide B5
      have HKEY := hide hkey
      have HST5 := hide hst5
      obtain ⟨rc5, rd5, hrc5⟩ := rr5.ob
      clear g5 o5 k5 z5 e5 i5 B5 hkey hst5 apE apK HR HK HE HI HZ HB HRC rb
      by_cases h0 : LV = 0
      · have d0 : (LV == 0) = true := by simpa using h0
        have C6 := xtext_any pR G st5 200 w5.drew (rr5.old ((Below.refl _ w5).drew)) (by omega)
        have HX6 : Hid (∀ w6, Rr w6 pR 74 G (rtext st5 200).2 → w5.drew.grownBy w6 (some pR) → ∃ va n6 c6 w7, (Builtin.append_ #[22, 22] 22 #[.slice ea en ec, .slice (some ⟨w6.heap.size, 0, none⟩) 1 1]).run Try.prog (w6.alloc (.cells #[.string key, .string (strOfNums (rtext st5 200).1)] 55)) = .ok (.slice va n6 c6) w7 ∧ w6.cell? ⟨pN, 1, none⟩ = some (.slice ea en ec) ∧ (w6.alloc (.cells #[.string key, .string (strOfNums (rtext st5 200).1)] 55)).cell? ⟨pN, 1, none⟩ = some (.slice ea en ec) ∧ w7.cell? ⟨pN, 1, none⟩ = some (.slice ea en ec) ∧ w7.frozen? ⟨pN, 1, none⟩ = false ∧
            Hid (Rr (w7.setCell ⟨pN, 1, none⟩ (.slice va n6 c6)) pR 74 G (ofK LV st2 (k + 1)).1) ∧ Hid (Ob (w7.setCell ⟨pN, 1, none⟩ (.slice va n6 c6)) pN 25 [.int .i64 LV, .slice va n6 c6, .slice ka kn kc]) ∧ Hid (Row (fun g => w.heap.size ≤ g) (w7.setCell ⟨pN, 1, none⟩ (.slice va n6 c6)) 55 2 (.slice va n6 c6) (ofK LV st2 (k + 1)).2.1.length (ecells (ofK LV st2 (k + 1)).2.1)) ∧ Hid (Row (fun g => w.heap.size ≤ g) (w7.setCell ⟨pN, 1, none⟩ (.slice va n6 c6)) 58 2 (.slice ka kn kc) (ofK LV st2 (k + 1)).2.2.length (kcells (ofK LV st2 (k + 1)).2.2)) ∧ Hid (Ob (w7.setCell ⟨pN, 1, none⟩ (.slice va n6 c6)) w.heap.size 25 [.int .i64 0, .slice none 0 0, .slice none 0 0]) ∧ Hid (Below w.heap.size w (w7.setCell ⟨pN, 1, none⟩ (.slice va n6 c6)))) := by
          refine hide (fun w6 rr6 g6 => ?_)
          have o6 : Onl (fun i => i = pR) w5 w6 := ((Onl.refl _ w5).drew).grown g6 (fun j hj => .inl (by cases hj; rfl))
          have apE : (Value.slice ea en ec).ownBlock ≠ some pR := Row.apartOb HE5.out hrc5 (by decide)
          have apK : (Value.slice ka kn kc).ownBlock ≠ some pR := Row.apartOb HI5.out hrc5 (by decide)
          have k6 := HK5.out.onl o6 (fun q => hpp q.symm)
          have z6 := HZ5.out.onl o6 (by omega)
          have e6 := HE5.out.onl o6 (fun g hg q => apE (by rw [hg, q]))
          have i6 := HI5.out.onl o6 (fun g hg q => apK (by rw [hg, q]))
          have B6 : Below w.heap.size w w6 := Below.onl HB5.out o6 (fun i q => by omega) (Nat.le_refl _)
          obtain ⟨rc6, rd6, hrc6⟩ := rr6.ob
          have e6' : Row (fun g => w.heap.size ≤ g ∧ (Value.slice ea en ec).ownBlock = some g) w6 55 2 (.slice ea en ec) es.length (ecells es) := ⟨e6.1, fun g hg => ⟨e6.2 g hg, hg⟩⟩
          obtain ⟨v7, w7, RA, r7, o7⟩ := app_En e6' (by omega) ⟨key, strOfNums (rtext st5 200).1⟩
          obtain ⟨va, c7, hv7, _⟩ := r7.form
          subst hv7
          have s7 := o7.size
          have k7 := k6.onl o7 (fun q => Row.apartOb e6 k6 (by decide) q.2)
          have z7 := z6.onl o7 (fun q => Row.apartOb e6 z6 (by decide) q.2)
          have rr7 := rr6.onl o7 (fun q => apE q.2) (fun q => by
            rcases hGr2 with z | z
            · have := q.1; omega
            · exact apE (by rw [← z]; exact q.2))
          have i7 := i6.onl o7 (fun g hg q => Row.apart i6 e6 (by decide) g hg q.2)
          have B7 : Below w.heap.size w w7 := Below.onl B6 o7 (fun i q => q.1) (Nat.le_refl _)
          have o8 : Onl (fun i => i = pN) w7 (w7.setCell ⟨pN, 1, none⟩ (.slice va (es ++ [(⟨key, strOfNums (rtext st5 200).1⟩ : En)]).length c7)) := (Onl.refl (fun i => i = pN) w7).set (p := pN) (.inl rfl) _
          have est : ofK LV st2 (k + 1) = ((rtext st5 200).2, es ++ [⟨key, strOfNums (rtext st5 200).1⟩], ks) := by
            rw [HSTEP.out]
            unfold ofStep
            rw [if_pos h0]
            simp only
            rw [← HST5.out, ← HKEY.out]
          rw [est]
          refine ⟨va, _, c7, w7, RA, k6.cell 1, (k6.alloc _).cell 1, k7.cell 1, k7.frozen 1, hide (rr7.onl o8 hpp (by omega)), hide (k7.set 1 _), hide ((r7.mono (fun g q => by
            rcases q with q | q
            · exact q.1
            · have := B6.size; omega)).onl o8 (fun g hg q => Row.apartOb r7 k7 (by decide) (by rw [hg, q]))), hide (i7.onl o8 (fun g hg q => Row.apartOb i7 k7 (by decide) (by rw [hg, q]))), hide (z7.onl o8 (by omega)), hide (Below.onl B7 o8 (fun i q => by omega) (Nat.le_refl _))⟩
        have HC6 := hide C6
        clear C6 hrc5 rr5 h0
        have n1d : w5.drew.cell? ⟨pN, 1, none⟩ = some (.slice ea en ec) := n1
        go_wp2
        go_region_law (go_simp; first
          | (go_at_call 38; refine HC6.out.mono ?_; rintro en6 w6 ⟨rfl, rr6, g6⟩; obtain ⟨va, n6, c6, w7, RA, x1, x2, x3, x4, f1, f2, f3, f4, f5, f6⟩ := HX6.out w6 rr6 g6; obtain ⟨p1, p2, p3⟩ := app_runs RA; clear RA rr6 g6 HX6 HC6))
        all_goals
          go_wp2
          go_roundw
          case rel => exact ⟨k + 1, va, n6, c6, ka, kn, kc, by omega, by simp, f1, f2, f3, f4, f5, f6⟩
          case measure => simp [intOf]; omega
      · have d0 : (LV == 0) = false := by simpa using h0
        have C6 := xnum_any pR G st5 18446744073709551615 w5.drew (rr5.old ((Below.refl _ w5).drew))
        have hnb6 := rnum_bd st5 (most := 18446744073709551615) (by omega)
        have HX6 : Hid (∀ w6, Rr w6 pR 74 G (rnum st5 18446744073709551615).2 → w5.drew.grownBy w6 (some pR) → ∃ va n6 c6 w7, (Builtin.append_ #[23, 23] 23 #[.slice ka kn kc, .slice (some ⟨w6.heap.size, 0, none⟩) 1 1]).run Try.prog (w6.alloc (.cells #[.string key, .int .u64 (rnum st5 18446744073709551615).1] 58)) = .ok (.slice va n6 c6) w7 ∧ w6.cell? ⟨pN, 2, none⟩ = some (.slice ka kn kc) ∧ (w6.alloc (.cells #[.string key, .int .u64 (rnum st5 18446744073709551615).1] 58)).cell? ⟨pN, 2, none⟩ = some (.slice ka kn kc) ∧ w7.cell? ⟨pN, 2, none⟩ = some (.slice ka kn kc) ∧ w7.frozen? ⟨pN, 2, none⟩ = false ∧
            Hid (Rr (w7.setCell ⟨pN, 2, none⟩ (.slice va n6 c6)) pR 74 G (ofK LV st2 (k + 1)).1) ∧ Hid (Ob (w7.setCell ⟨pN, 2, none⟩ (.slice va n6 c6)) pN 25 [.int .i64 LV, .slice ea en ec, .slice va n6 c6]) ∧ Hid (Row (fun g => w.heap.size ≤ g) (w7.setCell ⟨pN, 2, none⟩ (.slice va n6 c6)) 55 2 (.slice ea en ec) (ofK LV st2 (k + 1)).2.1.length (ecells (ofK LV st2 (k + 1)).2.1)) ∧ Hid (Row (fun g => w.heap.size ≤ g) (w7.setCell ⟨pN, 2, none⟩ (.slice va n6 c6)) 58 2 (.slice va n6 c6) (ofK LV st2 (k + 1)).2.2.length (kcells (ofK LV st2 (k + 1)).2.2)) ∧ Hid (Ob (w7.setCell ⟨pN, 2, none⟩ (.slice va n6 c6)) w.heap.size 25 [.int .i64 0, .slice none 0 0, .slice none 0 0]) ∧ Hid (Below w.heap.size w (w7.setCell ⟨pN, 2, none⟩ (.slice va n6 c6)))) := by
          refine hide (fun w6 rr6 g6 => ?_)
          have o6 : Onl (fun i => i = pR) w5 w6 := ((Onl.refl _ w5).drew).grown g6 (fun j hj => .inl (by cases hj; rfl))
          have apE : (Value.slice ea en ec).ownBlock ≠ some pR := Row.apartOb HE5.out hrc5 (by decide)
          have apK : (Value.slice ka kn kc).ownBlock ≠ some pR := Row.apartOb HI5.out hrc5 (by decide)
          have k6 := HK5.out.onl o6 (fun q => hpp q.symm)
          have z6 := HZ5.out.onl o6 (by omega)
          have e6 := HE5.out.onl o6 (fun g hg q => apE (by rw [hg, q]))
          have i6 := HI5.out.onl o6 (fun g hg q => apK (by rw [hg, q]))
          have B6 : Below w.heap.size w w6 := Below.onl HB5.out o6 (fun i q => by omega) (Nat.le_refl _)
          have i6' : Row (fun g => w.heap.size ≤ g ∧ (Value.slice ka kn kc).ownBlock = some g) w6 58 2 (.slice ka kn kc) ks.length (kcells ks) := ⟨i6.1, fun g hg => ⟨i6.2 g hg, hg⟩⟩
          have hnn : (((rnum st5 18446744073709551615).1.toNat : Nat) : Int) = (rnum st5 18446744073709551615).1 := by omega
          obtain ⟨v7, w7, RA, r7, o7⟩ := app_Ki i6' (by omega) ⟨key, (rnum st5 18446744073709551615).1.toNat⟩
          simp only [hnn] at RA
          obtain ⟨va, c7, hv7, _⟩ := r7.form
          subst hv7
          have s7 := o7.size
          have k7 := k6.onl o7 (fun q => Row.apartOb i6 k6 (by decide) q.2)
          have z7 := z6.onl o7 (fun q => Row.apartOb i6 z6 (by decide) q.2)
          have rr7 := rr6.onl o7 (fun q => apK q.2) (fun q => by
            rcases hGr2 with z | z
            · have := q.1; omega
            · exact apK (by rw [← z]; exact q.2))
          have e7 := e6.onl o7 (fun g hg q => Row.apart e6 i6 (by decide) g hg q.2)
          have B7 : Below w.heap.size w w7 := Below.onl B6 o7 (fun i q => q.1) (Nat.le_refl _)
          have o8 : Onl (fun i => i = pN) w7 (w7.setCell ⟨pN, 2, none⟩ (.slice va (ks ++ [(⟨key, (rnum st5 18446744073709551615).1.toNat⟩ : Ki)]).length c7)) := (Onl.refl (fun i => i = pN) w7).set (p := pN) (.inl rfl) _
          have est : ofK LV st2 (k + 1) = ((rnum st5 18446744073709551615).2, es, ks ++ [⟨key, (rnum st5 18446744073709551615).1.toNat⟩]) := by
            rw [HSTEP.out]
            unfold ofStep
            rw [if_neg h0]
            simp only
            rw [← HST5.out, ← HKEY.out]
          rw [est]
          refine ⟨va, _, c7, w7, RA, k6.cell 2, (k6.alloc _).cell 2, k7.cell 2, k7.frozen 2, hide (rr7.onl o8 hpp (by omega)), hide (k7.set 2 _), hide (e7.onl o8 (fun g hg q => Row.apartOb e7 k7 (by decide) (by rw [hg, q]))), hide ((r7.mono (fun g q => by
            rcases q with q | q
            · exact q.1
            · have := B6.size; omega)).onl o8 (fun g hg q => Row.apartOb r7 k7 (by decide) (by rw [hg, q]))), hide (z7.onl o8 (by omega)), hide (Below.onl B7 o8 (fun i q => by omega) (Nat.le_refl _))⟩
        obtain ⟨NI, hNI⟩ : ∃ NI, NI = (rnum st5 18446744073709551615).1 := ⟨_, rfl⟩
        rw [← hNI] at HX6 C6 hnb6
        have HC6 := hide C6
        clear C6 hrc5 rr5 h0 hNI
        have n2d : w5.drew.cell? ⟨pN, 2, none⟩ = some (.slice ka kn kc) := n2
        go_wp2
        go_region_law (go_simp; first
          | (go_at_call 37; refine HC6.out.mono ?_; rintro en6 w6 ⟨rfl, rr6, g6⟩; obtain ⟨va, n6, c6, w7, RA, x1, x2, x3, x4, f1, f2, f3, f4, f5, f6⟩ := HX6.out w6 rr6 g6; obtain ⟨p1, p2, p3⟩ := app_runs RA; clear RA rr6 g6 HX6 HC6))
        all_goals
          go_wp2
          go_roundw
          case rel => exact ⟨k + 1, ea, en, ec, va, n6, c6, by omega, by simp, f1, f2, f3, f4, f5, f6⟩
          case measure => simp [intOf]; omega
    · have HFIN : Hid (ofRaw b = (sk, ⟨LV, es, ks⟩)) := by
        refine hide ?_
        have h1 : ofK LV st2 CT = (sk, es, ks) := by
          by_cases q : k = CT
          · rw [← q]; exact HQ.out
          · have hs : sk = none := by
              cases z : sk with
              | none => rfl
              | some l => exact absurd ⟨by omega, by rw [z]; simp⟩ hgo
            have := ofK_stuck (lv := LV) (st := st2) (k := k) (by rw [HQ.out]; exact hs) (CT - k)
            rw [show k + (CT - k) = CT by omega, HQ.out] at this
            exact this
        unfold ofRaw
        rw [← HLV.out, ← HST1.out, ← HST2.out, ← HCT.out, Int.toNat_natCast, h1]
      obtain ⟨ea', ec', hve, e1, e2, e3, e4⟩ := rd_ecells HE.out
      obtain ⟨ka', kc', hvk, i1, i2, i3, i4⟩ := rd_kcells HI.out
      injection hve with x1 x2 x3
      injection hvk with y1 y2 y3
      subst x1 x2 x3 y1 y2 y3
      have okn : OkN wr ⟨⟨LV, es, ks⟩, ea, ec, ka, kc⟩ := ⟨e1, i1, e4, i4, e2, i2, e3, i3, by simp only; omega, fun e he => by have := HKS.out.1 e he; unfold maxLen; omega, fun e he => by have := HKS.out.2 e he; unfold maxLen; omega⟩
      have CD := xdone_any pR G sk wr HR.out
      have CN := rnode_any wr _ okn (by simp only; omega) (by simp only; omega)
      simp only [NdA.cells] at CN
      have HCD := hide CD
      have HCN := hide CN
      have HOKN := hide okn
      have n0 := HK.out.cell 0
      have n1 := HK.out.cell 1
      have n2 := HK.out.cell 2
      have zc0 := HZ.out.cell 0
      have zc1 := HZ.out.cell 1
      have zc2 := HZ.out.cell 2
      have zf0 := HZ.out.frozen 0
      have zf1 := HZ.out.frozen 1
      have zf2 := HZ.out.frozen 2
      simp only [List.getElem?_cons_zero, List.getElem?_cons_succ] at n0 n1 n2 zc0 zc1 zc2
      clear CD CN okn e1 e2 e3 e4 i1 i2 i3 i4
      -- a node that is refused
      have HBAD : Hid (∀ W, Below w.heap.size w W → Ob W w.heap.size 25 [.int .i64 0, .slice none 0 0, .slice none 0 0] → ¬ (sk = some [] ∧ nb ≤ 131072 ∧ nodeE ⟨LV, es, ks⟩ = 0) → NoP w (nodeOf b).1 (nodeOf b).2 (.returned (.tuple #[.agg #[.int .i64 0, .slice none 0 0, .slice none 0 0], .int .i64 90])) (((W.setCell ⟨w.heap.size, 0, none⟩ (.int .i64 0)).setCell ⟨w.heap.size, 1, none⟩ (.slice none 0 0)).setCell ⟨w.heap.size, 2, none⟩ (.slice none 0 0)) ∧ Ob (((W.setCell ⟨w.heap.size, 0, none⟩ (.int .i64 0)).setCell ⟨w.heap.size, 1, none⟩ (.slice none 0 0)).setCell ⟨w.heap.size, 2, none⟩ (.slice none 0 0)) w.heap.size 25 [.int .i64 0, .slice none 0 0, .slice none 0 0]) := by
        refine hide (fun W bW kW hno => ?_)
        have e : nodeOf b = (⟨0, [], []⟩, 90) := by unfold nodeOf; rw [HFIN.out, if_neg (by simp only; rw [← HNB.out]; exact hno)]
        rw [e]
        have o : Onl (fun i => i = w.heap.size) W (((W.setCell ⟨w.heap.size, 0, none⟩ (.int .i64 0)).setCell ⟨w.heap.size, 1, none⟩ (.slice none 0 0)).setCell ⟨w.heap.size, 2, none⟩ (.slice none 0 0)) := (((Onl.refl (fun i => i = w.heap.size) W).set (p := w.heap.size) (.inl rfl) _).set (p := w.heap.size) (.inl rfl) _).set (p := w.heap.size) (.inl rfl) _
        refine ⟨⟨⟨⟨0, [], []⟩, none, 0, none, 0⟩, rfl, ⟨fun i e hi => by simp at hi, fun i e hi => by simp at hi, fun _ => rfl, fun _ => rfl, by simp, by simp, by simp, by simp, by simp, by simp, by simp⟩, rfl, Below.onl bW o (fun i q => by omega) (Nat.le_refl _)⟩, ?_⟩
        exact ((kW.set 0 _).set 1 _).set 2 _
      have HC01 : Hid (∃ c0, Ob wr pR 74 [c0, .bool (decide (sk = none))]) := by
        refine hide ?_
        cases hsk : sk with
        | none => rw [hsk] at HR; exact ⟨_, HR.out⟩
        | some l => rw [hsk] at HR; obtain ⟨a1, c1, h1, _⟩ := HR.out; exact ⟨_, h1⟩
      obtain ⟨rc0, hrc⟩ := HC01.out
      have rb := hrc.cell 1
      simp only [List.getElem?_cons_zero, List.getElem?_cons_succ] at rb
      clear hrc HC01
      by_cases hd : sk = some []
      · have hdd : decide (sk = some []) = true := by simpa using hd
        have hdn : decide (sk = none) = false := by simp [hd]
        have hkc : k = CT := by
          by_cases q : k = CT
          · exact q
          · exact absurd ⟨by omega, by rw [hd]; simp⟩ hgo
        have t1 : decide ((k : Int) < (CT : Int)) = false := by simp; omega
        have t1n : decide (k < CT) = false := by simp; omega
        rw [hdd] at HCD
        have HD := hide hd
        clear hd hdd hdn hkc hgo rb
        have hnb9 : nb ≤ 1099511627776 := by rw [HNB.out]; exact hl
        by_cases hbig : 131072 < nb
        · have t2 : decide ((131072 : Int) < (nb : Int)) = true := by simp; omega
          have t2n : decide (131072 < nb) = true := by simp; omega
          obtain ⟨F1, F2⟩ := HBAD.out wr HB.out HZ.out (fun q => by omega)
          have HF1 := hide F1
          have HF2 := hide F2
          clear HBAD F1 F2
          go_wp2_with fail
          refine HCD.out.mono ?_
          rintro e wx ⟨rfl, rfl⟩
          go_wp2
          exact fin_nd HF2.out rfl rfl HF1.out
        · have t2 : decide ((131072 : Int) < (nb : Int)) = false := by simp; omega
          have t2n : decide (131072 < nb) = false := by simp; omega
          by_cases hne : nodeE ⟨LV, es, ks⟩ = 0
          · rw [hne] at HCN
            have HNE := hide hne
            clear hne HBAD
            go_wp2_with fail
            refine HCD.out.mono ?_
            rintro e wx ⟨rfl, rfl⟩
            go_wp2_with fail
            refine HCN.out.mono ?_
            rintro e w9 ⟨rfl, b9⟩
            have k9 := HK.out.old b9
            have m0 := k9.cell 0
            have m1 := k9.cell 1
            have m2 := k9.cell 2
            have z9 := HZ.out.old b9
            have v0 := z9.cell 0
            have v1 := z9.cell 1
            have v2 := z9.cell 2
            have vf0 := z9.frozen 0
            have vf1 := z9.frozen 1
            have vf2 := z9.frozen 2
            have zs1 := z9.set 0 (.int .i64 LV)
            have zs2 := zs1.set 1 (.slice ea es.length ec)
            have zs3 := zs2.set 2 (.slice ka ks.length kc)
            simp only [List.set_cons_zero, List.set_cons_succ] at zs1 zs2 zs3
            have u1 := zs1.cell 1
            have u2 := zs2.cell 2
            have uf1 := zs1.frozen 1
            have uf2 := zs2.frozen 2
            simp only [List.getElem?_cons_zero, List.getElem?_cons_succ] at m0 m1 m2 v0 v1 v2 u1 u2
            have o9 : Onl (fun i => i = w.heap.size) w9 (((w9.setCell ⟨w.heap.size, 0, none⟩ (.int .i64 LV)).setCell ⟨w.heap.size, 1, none⟩ (.slice ea es.length ec)).setCell ⟨w.heap.size, 2, none⟩ (.slice ka ks.length kc)) := (((Onl.refl (fun i => i = w.heap.size) w9).set (p := w.heap.size) (.inl rfl) _).set (p := w.heap.size) (.inl rfl) _).set (p := w.heap.size) (.inl rfl) _
            have HF1 : Hid (NoP w (nodeOf b).1 (nodeOf b).2 (.returned (.tuple #[.agg #[.int .i64 LV, .slice ea es.length ec, .slice ka ks.length kc], .int .i64 0])) (((w9.setCell ⟨w.heap.size, 0, none⟩ (.int .i64 LV)).setCell ⟨w.heap.size, 1, none⟩ (.slice ea es.length ec)).setCell ⟨w.heap.size, 2, none⟩ (.slice ka ks.length kc))) := by
              refine hide ?_
              have e : nodeOf b = (⟨LV, es, ks⟩, 0) := by unfold nodeOf; rw [HFIN.out, if_pos ⟨HD.out, by rw [← HNB.out]; omega, HNE.out⟩]
              rw [e]
              have okE := (HE.out.onl (F := fun _ => False) (Onl.ofBelow b9) (fun _ _ q => q))
              have okK := (HI.out.onl (F := fun _ => False) (Onl.ofBelow b9) (fun _ _ q => q))
              have okE2 := okE.onl o9 (fun g hg q => Row.apartOb okE z9 (by decide) (by rw [hg, q]))
              have okK2 := okK.onl o9 (fun g hg q => Row.apartOb okK z9 (by decide) (by rw [hg, q]))
              obtain ⟨ea', ec', hve, e1, e2, e3, e4⟩ := rd_ecells okE2
              obtain ⟨ka', kc', hvk, i1, i2, i3, i4⟩ := rd_kcells okK2
              injection hve with x1 x2 x3
              injection hvk with y1 y2 y3
              subst x1 x3 y1 y3
              exact ⟨⟨⟨LV, es, ks⟩, ea, ec, ka, kc⟩, rfl, { HOKN.out with es := e1, ks := i1 }, rfl, Below.onl (HB.out.trans (b9.mono HB.out.size)) o9 (fun i q => by omega) (Nat.le_refl _)⟩
            have HF2 := hide zs3
            clear b9 k9 z9 zs1 zs2 zs3 o9
            go_wp2
            exact fin_nd HF2.out rfl rfl HF1.out
          · have t3 : (nodeE ⟨LV, es, ks⟩ != 0) = true := by simpa using hne
            have HNEN := hide hne
            obtain ⟨ND, hND⟩ : ∃ ND, ND = nodeE ⟨LV, es, ks⟩ := ⟨_, rfl⟩
            rw [← hND] at t3 HCN
            clear hne hND
            go_wp2_with fail
            refine HCD.out.mono ?_
            rintro e wx ⟨rfl, rfl⟩
            go_wp2_with fail
            refine HCN.out.mono ?_
            rintro e w9 ⟨rfl, b9⟩
            have z9 := HZ.out.old b9
            have v0 := z9.cell 0
            have v1 := z9.cell 1
            have v2 := z9.cell 2
            have vf0 := z9.frozen 0
            have vf1 := z9.frozen 1
            have vf2 := z9.frozen 2
            simp only [List.getElem?_cons_zero, List.getElem?_cons_succ] at v0 v1 v2
            obtain ⟨F1, F2⟩ := HBAD.out w9 (HB.out.trans (b9.mono HB.out.size)) z9 (fun q => HNEN.out q.2.2)
            have HF1 := hide F1
            have HF2 := hide F2
            clear HBAD F1 F2 b9 z9
            go_wp2
            exact fin_nd HF2.out rfl rfl HF1.out
      · have hdd : decide (sk = some []) = false := by simpa using hd
        rw [hdd] at HCD
        obtain ⟨F1, F2⟩ := HBAD.out wr HB.out HZ.out (fun q => hd q.1)
        have HF1 := hide F1
        have HF2 := hide F2
        clear HBAD F1 F2 hdd
        by_cases hkc : k < CT
        · have hn2 : sk = none := by
            cases z : sk with
            | none => rfl
            | some l => exact absurd ⟨hkc, by rw [z]; simp⟩ hgo
          have t1 : decide ((k : Int) < (CT : Int)) = true := by simp; omega
          have t1n : decide (k < CT) = true := by simp; omega
          rw [show decide (sk = none) = true by simpa using hn2] at rb
          clear hn2 hd hgo hkc
          go_wp2_with fail
          refine HCD.out.mono ?_
          rintro e wx ⟨rfl, rfl⟩
          go_wp2
          exact fin_nd HF2.out rfl rfl HF1.out
        · have t1 : decide ((k : Int) < (CT : Int)) = false := by simp; omega
          have t1n : decide (k < CT) = false := by simp; omega
          clear hd hgo hkc
          go_wp2_with fail
          refine HCD.out.mono ?_
          rintro e wx ⟨rfl, rfl⟩
          go_wp2
          exact fin_nd HF2.out rfl rfl HF1.out
end Go.Proofs.Ytandjkogpdamcaa
