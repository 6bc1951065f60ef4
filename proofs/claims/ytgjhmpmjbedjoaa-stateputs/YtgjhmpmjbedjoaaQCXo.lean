/- The document's ClashesOf, over the translation. -/
import Derived.Test.YtgjhmpmjbedjoaaQCOf
import Derived.Test.YtgjhmpmjbedjoaaQCRc
import Derived.Test.YtgjhmpmjbedjoaaQRef
namespace Apo
open Go Go.RowKit
def cSi (x : Si) : List Value := [.bool x.b, .string x.v]
theorem cSi_len (x : Si) : (cSi x).length = 2 := rfl
theorem cSi_one (x : Si) : ∀ u ∈ cSi x, u.oneCell' = true := by simp [cSi, Value.oneCell']
end Apo
namespace Go.Proofs.Ytgjhmpmjbedjoaa
open Go.RowKit Apo
set_option maxRecDepth 100000 in
theorem info_si : (Try.prog.info? 73).map (fun i => (i.zero, i.size, i.bytes)) = some (some (.agg #[.bool false, .string ByteArray.empty]), 2, 24) := by kernel_rfl
section
variable {O : Nat → Prop} {W : World} {v : Value} {y : Addr} {cp : Nat}
set_option maxRecDepth 100000 in
theorem app_si {l xs : List Si} (h : Row O W 73 2 v l.length (gcells cSi l)) (hn : l.length + xs.length ≤ 100000000) (hr : RdG cSi 2 W (some y) xs) :
    ∃ v' w', (Builtin.append_ #[93, 93] 93 #[v, .slice (some y) xs.length cp]).run Try.prog W = .ok v' w' ∧ Row (fun g => O g ∨ g = W.heap.size) w' 73 2 v' (l ++ xs).length (gcells cSi (l ++ xs)) ∧ Onl (fun g => v.ownBlock = some g) W w' ∧ ∀ g, v'.ownBlock = some g → v.ownBlock = some g ∨ g = W.heap.size :=
  app_G cSi_len (by decide) cSi_one Try.underlying93 info_si rfl (by decide) h hn hr
end
theorem clS_each (st : St) : clS st = (⟨strOfNums (rtext st 40).1, (siS (rtext st 40).2).1, (siS (siS (rtext st 40).2).2).1, (siS (siS (siS (rtext st 40).2).2).2).1⟩, (eachK siS (rtext st 40).2 3).2) := rfl
theorem each3 (st : St) : (eachK siS st 3).1 = [(siS st).1, (siS (siS st).2).1, (siS (siS (siS st).2).2).1] := rfl
attribute [local go_sem ↓] Apo.app_exec
set_option maxRecDepth 100000 in
set_option maxHeartbeats 16000000 in
theorem rof_cls (w : World) (a : Option Addr) (cap : Nat) (b : List Int) (hr : Rd .u8 w a b) (hcap : b.length ≤ cap) (hn : a = none → cap = 0) (hb : InB b) (hl : b.length ≤ 1099511627776) :
    Calls Try.prog 47 #[.slice a b.length cap] w (OcP w b) := by
  have hrr := rr_new 83 hr hcap hn hb hl
  have hgp : blockOf a b w.heap.size = w.heap.size ∨ blockOf a b w.heap.size < w.heap.size := by
    cases a with
    | none => exact .inl rfl
    | some x =>
      cases b with
      | nil => exact .inl rfl
      | cons z r => exact .inr (hr.lt (by simp))
  generalize blockOf a b w.heap.size = g at hrr hgp
  obtain ⟨n, hn'⟩ : ∃ n, n = b.length := ⟨_, rfl⟩
  rw [← hn'] at hrr ⊢
  have b0 : Below w.heap.size w (w.alloc (.cells #[.slice a n cap, .bool false] 83)) := (Below.refl _ w).alloc (Nat.le_refl _) _
  have HC0 := hide (xnum_any w.heap.size g (some b) 1000 _ hrr)
  have hbd := rnum_top (some b)
  have HRL := hide (rawC_len b)
  have HRZ := hide (rawC_sz b)
  have HRW : Hid (rawC b = eachK clS (rnum (some b) 1000).2 (rnum (some b) 1000).1.toNat) := hide rfl
  obtain ⟨CT, hCT⟩ : ∃ CT : Nat, (CT : Int) = (rnum (some b) 1000).1 := ⟨(rnum (some b) 1000).1.toNat, by omega⟩
  have hCT2 : (rnum (some b) 1000).1.toNat = CT := by omega
  obtain ⟨st2, hst2⟩ : ∃ st2, st2 = (rnum (some b) 1000).2 := ⟨_, rfl⟩
  rw [hCT2, ← hst2] at HRW
  rw [← hCT] at HC0 hbd
  rw [← hst2] at HC0
  have HB0 := hide b0
  clear hr hcap hn hb hl hrr hn' b0 hCT hCT2 hst2
  go_enter Try.func47, Try.ntmps47
  go_wp2_with fail
  refine HC0.out.mono ?_
  rintro e w1 ⟨rfl, r1, g1⟩
  have o1 : Onl (fun i => i = w.heap.size) _ w1 := (Onl.refl _ _).grown g1 (fun j hj => .inl (by cases hj; rfl))
  have HB1 := hide (Below.onl HB0.out o1 (fun i q => by omega) (Nat.le_refl _))
  have HR1 := hide r1
  have hp1 := r1.lt
  obtain ⟨p, hp⟩ : ∃ p, p = w.heap.size := ⟨_, rfl⟩
  rw [← hp] at HR1 hgp hp1 ⊢
  have hpw : w.heap.size ≤ p := by omega
  clear r1 g1 o1 HC0 HB0 hp
  go_wp2
  go_loopw [6, 7] (fun v i wr => ∃ (k : Nat) (va : Option Addr) (m vc : Nat), k ≤ CT ∧ i = .int .u64 k ∧ v = .slice va m vc ∧ Hid (Rr wr p 83 g (eachK clS st2 k).2) ∧ Hid (Row (fun i => p < i ∧ i < wr.heap.size) wr 75 7 (.slice va m vc) (eachK clS st2 k).1.length (gcells cCl (eachK clS st2 k).1)) ∧ Hid (Below w.heap.size w wr)) (fun _ i _ => CT - (intOf i).toNat)
  case atStart => exact ⟨0, none, 0, 0, Nat.zero_le _, rfl, rfl, HR1, hide (Row.nil _ _ _ _), HB1⟩
  case round =>
    clear HR1 HB1 hp1
    obtain ⟨k, va, m, vc, hk, rfl, rfl, HR, HO, HB⟩ := hrel
    have hkl := eachK_len clS st2 k
    have HBAD : Hid ((eachK clS st2 k).2 = none → ofC b = ([], 20)) := hide (fun q => by
      unfold ofC
      rw [if_neg]
      rintro ⟨q1, _⟩
      rw [HRW.out, eachK_bad _ q CT hk] at q1
      cases q1)
    obtain ⟨⟨es, sk⟩, hq⟩ : ∃ q, eachK clS st2 k = q := ⟨_, rfl⟩
    have hq1 : eachK clS st2 (k + 1) = (es ++ [(clS sk).1], (clS sk).2) := by simp only [eachK, hq]
    rw [hq] at HR HO hkl HBAD
    simp only at HR HO hkl HBAD
    have HQ := hide hq
    have HQ1 := hide hq1
    obtain ⟨ra, rc, hob⟩ := left_of HR.out
    have hx1 := hob.cell 1
    simp only [List.getElem?_cons_zero, List.getElem?_cons_succ] at hx1
    have hplt := hob.lt
    clear hq hq1 hob
    by_cases hkc : k < CT
    · have t1 : decide ((k : Int) < (CT : Int)) = true := by simp; omega
      have t2 : decide (k < CT) = true := by simp; omega
      cases hsk : sk with
      | none =>
        rw [hsk] at hx1 HR HBAD
        simp only [Option.isNone_none] at hx1
        have HX : Hid (ofC b = ([], 20)) := hide (HBAD.out rfl)
        have HCD := hide (xdone_any p g none wr HR.out)
        rw [decide_eq_false (by simp)] at HCD
        have HF : Hid (OcP w b (.returned (.tuple #[.slice none 0 0, .int .i64 20])) wr) := by
          refine hide ?_
          unfold OcP
          rw [HX.out]
          exact ⟨_, rfl, Row.nil _ _ _ _, HB.out⟩
        clear hsk
        go_wp2_with fail
        refine HCD.out.mono ?_
        rintro e w4 ⟨rfl, rfl⟩
        clear HCD
        go_wp2
        refine bodyPost_ret (by simp [results, Try.results47, go_sem]; rfl) rfl ?_
        exact HF.out
      | some rest =>
        rw [hsk] at hx1 HR HQ1 HQ
        simp only [Option.isNone_some] at hx1
        have HC1 := hide (xtext_any p g (some rest) 40 wr HR.out (by omega))
        obtain ⟨key, hkey⟩ : ∃ key, key = strOfNums (rtext (some rest) 40).1 := ⟨_, rfl⟩
        obtain ⟨st1, hst1⟩ : ∃ st1, st1 = (rtext (some rest) 40).2 := ⟨_, rfl⟩
        rw [← hkey, ← hst1] at HC1
        have HCE : Hid (clS (some rest) = (⟨key, (siS st1).1, (siS (siS st1).2).1, (siS (siS (siS st1).2).2).1⟩, (eachK siS st1 3).2)) := hide (by rw [clS_each, ← hkey, ← hst1])
        clear hkey hst1 hsk HBAD
        go_wp2_with fail
        refine HC1.out.mono ?_
        rintro e w1 ⟨rfl, r1, g1⟩
        have o1 : Onl (fun i => i = p) wr w1 := (Onl.refl _ wr).grown g1 (fun j hj => .inl (by cases hj; rfl))
        have z1 := o1.size
        obtain ⟨W2, hW2⟩ : ∃ W2, W2 = w1.alloc (.cells #[.string key, .bool false, .string ⟨#[]⟩, .bool false, .string ⟨#[]⟩, .bool false, .string ⟨#[]⟩] 75) := ⟨_, rfl⟩
        have b2 : Below w1.heap.size w1 W2 := by rw [hW2]; exact (Below.refl _ _).alloc (Nat.le_refl _) _
        have s2 : W2.heap.size = w1.heap.size + 1 := by rw [hW2]; simp
        have HKC : Hid (Ob W2 w1.heap.size 75 [.string key, .bool false, .string ⟨#[]⟩, .bool false, .string ⟨#[]⟩, .bool false, .string ⟨#[]⟩]) := hide (by rw [hW2]; exact Ob.new w1 [.string key, .bool false, .string ⟨#[]⟩, .bool false, .string ⟨#[]⟩, .bool false, .string ⟨#[]⟩] _)
        have HRI := hide (r1.old b2)
        have HRO : Hid (Row (fun i => p < i ∧ i < w1.heap.size) W2 75 7 (.slice va m vc) es.length (gcells cCl es)) := hide (((HO.out.onl o1 (fun i hi q => by have := (HO.out.2 i hi).1; omega)).onl (F := fun _ => False) (Onl.ofBelow b2) (fun _ _ q => q)).mono (fun i q => ⟨q.1, by have := q.2; omega⟩))
        have HBI := hide ((Below.onl HB.out o1 (fun i q => by omega) (Nat.le_refl _)).trans (b2.mono (Nat.le_trans HB.out.size z1)))
        obtain ⟨qc, hqc⟩ : ∃ qc, qc = w1.heap.size := ⟨_, rfl⟩
        rw [← hqc] at HKC HRO
        have hpq : p < qc := by omega
        clear HC1 r1 g1 o1 b2 HR HO HB hx1 s2
        go_wp2_with fail
        rw [← hW2, ← hqc]
        clear hW2 hqc z1 hplt
        go_wp2
        go_loopw [9, 10] (fun v i wx => ∃ (j : Nat) (la : Option Addr) (ln lc : Nat), j ≤ 3 ∧ i = .int .i64 j ∧ v = .slice la ln lc ∧ Hid (Rr wx p 83 g (eachK siS st1 j).2) ∧ Hid (Row (fun i => qc < i ∧ i < wx.heap.size) wx 73 2 (.slice la ln lc) (eachK siS st1 j).1.length (gcells cSi (eachK siS st1 j).1)) ∧ Hid (Ob wx qc 75 [.string key, .bool false, .string ⟨#[]⟩, .bool false, .string ⟨#[]⟩, .bool false, .string ⟨#[]⟩]) ∧ Hid (Row (fun i => p < i ∧ i < qc) wx 75 7 (.slice va m vc) es.length (gcells cCl es)) ∧ Hid (Below w.heap.size w wx)) (fun _ i _ => 3 - (intOf i).toNat)
        case atStart => exact ⟨0, none, 0, 0, by omega, rfl, rfl, HRI, hide (Row.nil _ _ _ _), HKC, HRO, HBI⟩
        case round =>
          clear HRI HKC HRO HBI
          obtain ⟨j, la, ln, lc, hj, rfl, rfl, HR, HL, HK, HO, HB⟩ := hrel
          have hjl := eachK_len siS st1 j
          by_cases hj3 : j < 3
          · have dj : decide ((j : Int) < 3) = true := by simp; omega
            obtain ⟨⟨ls, sj⟩, hqj⟩ : ∃ q, eachK siS st1 j = q := ⟨_, rfl⟩
            have hqj1 : eachK siS st1 (j + 1) = (ls ++ [(siS sj).1], (siS sj).2) := by simp only [eachK, hqj]
            rw [hqj] at HR HL hjl
            simp only at HR HL hjl
            have HC2 := hide (xflag_any p g sj wr HR.out)
            obtain ⟨fl, hfl⟩ : ∃ fl, fl = (rflag sj).1 := ⟨_, rfl⟩
            obtain ⟨st3, hst3⟩ : ∃ st3, st3 = (rflag sj).2 := ⟨_, rfl⟩
            obtain ⟨val, hval⟩ : ∃ val, val = strOfNums (rtext st3 200).1 := ⟨_, rfl⟩
            obtain ⟨st4, hst4⟩ : ∃ st4, st4 = (rtext st3 200).2 := ⟨_, rfl⟩
            rw [← hfl, ← hst3] at HC2
            have HQJ : Hid (eachK siS st1 (j + 1) = (ls ++ [⟨fl, val⟩], st4)) := hide (by rw [hqj1]; unfold siS; simp only; rw [← hst3, ← hst4, ← hval, ← hfl])
            have HT3 : Hid (∀ W, Rr W p 83 g st3 → Calls Try.prog 44 #[.pointer (some ⟨p, 0, none⟩), .int .i64 200] W fun e w' => e = .returned (.string val) ∧ Rr w' p 83 g st4 ∧ W.grownBy w' (some p)) := hide (fun W h => by rw [hval, hst4]; exact xtext_any p g st3 200 W h (by omega))
            clear hqj hqj1 hfl hst3 hval hst4
            go_wp2_with fail
            refine HC2.out.mono ?_
            rintro e w3 ⟨rfl, r3, g3⟩
            have o3 : Onl (fun i => i = p) wr w3 := (Onl.refl _ wr).grown g3 (fun j hj => .inl (by cases hj; rfl))
            have z3 := o3.size
            obtain ⟨W4, hW4⟩ : ∃ W4, W4 = w3.alloc (.cells #[.bool fl, .string ⟨#[]⟩] 73) := ⟨_, rfl⟩
            have b4 : Below w3.heap.size w3 W4 := by rw [hW4]; exact (Below.refl _ _).alloc (Nat.le_refl _) _
            have s4 : W4.heap.size = w3.heap.size + 1 := by rw [hW4]; simp
            have HKS : Hid (Ob W4 w3.heap.size 73 [.bool fl, .string ⟨#[]⟩]) := hide (by rw [hW4]; exact Ob.new w3 [.bool fl, .string ⟨#[]⟩] _)
            have HC3 := hide (HT3.out W4 (r3.old b4))
            have HO4 := hide (o3.trans (Onl.ofBelow b4))
            have hkq := HK.out.lt
            rw [hW4] at HC3
            clear HC2 HT3 r3 g3 o3 b4
            go_wp2_with fail
            refine HC3.out.mono ?_
            rintro e w5 ⟨rfl, r5, g5⟩
            rw [← hW4] at g5
            have o5 : Onl (fun i => i = p) W4 w5 := (Onl.refl _ W4).grown g5 (fun j hj => .inl (by cases hj; rfl))
            have z5 := o5.size
            obtain ⟨qs, hqs⟩ : ∃ qs, qs = w3.heap.size := ⟨_, rfl⟩
            rw [← hqs] at HKS
            have k5 := HKS.out.onl o5 (by omega)
            have y0 := k5.cell 0
            have y1 := k5.cell 1
            have f1 := k5.frozen 1
            simp only [List.getElem?_cons_zero, List.getElem?_cons_succ] at y0 y1
            have HO5 := HO4.out.trans o5
            obtain ⟨W7, hW7⟩ : ∃ W7, W7 = (w5.setCell ⟨qs, 1, none⟩ (.string val)).alloc (.cells #[.bool fl, .string val] 73) := ⟨_, rfl⟩
            have o7 : Onl (fun i => i = qs) w5 W7 := by rw [hW7]; exact ((Onl.refl (fun i => i = qs) w5).set (p := qs) (.inl rfl) _).alloc _
            have OO := HO5.more o7 (fun i q => .inr (by omega))
            have z7 := o7.size
            have hl7 : Row (fun i => qc < i ∧ i < W7.heap.size) W7 73 2 (.slice la ln lc) ls.length (gcells cSi ls) := (HL.out.onl OO (fun i hi q => by have := (HL.out.2 i hi).1; omega)).mono (fun i q => ⟨q.1, by have := q.2; omega⟩)
            have s7 : W7.heap.size = w5.heap.size + 1 := by rw [hW7]; simp [World.setCell]
            have lit : RdG cSi 2 W7 (some ⟨w5.heap.size, 0, none⟩) [⟨fl, val⟩] := by
              have := rd_lit (c := cSi) (k := 2) 73 (w5.setCell ⟨qs, 1, none⟩ (.string val)) (⟨fl, val⟩ : Si)
              rw [hW7]
              simpa [World.setCell, cSi] using this
            obtain ⟨v8, w8, RA, r8, o8, hv8⟩ := app_si (cp := 1) hl7 (by simp; omega) lit
            have RA2 : (Builtin.append_ #[93, 93] 93 #[.slice la ln lc, .slice (some ⟨w5.heap.size, 0, none⟩) 1 1]).run Try.prog W7 = .ok v8 w8 := RA
            obtain ⟨la8, lc8, hf8, _⟩ := r8.form
            subst hf8
            obtain ⟨p1, p2, p3⟩ := app_runs RA2
            rw [hW7] at p1 p2 p3
            have z8 := o8.size
            have g1 : Hid (Rr w8 p 83 g (eachK siS st1 (j + 1)).2) := hide (by
              rw [HQJ.out]
              exact (r5.onl o7 (by omega) (by omega)).onl o8 (fun q => by have := (hl7.2 _ q).1; omega) (fun q => by have := (hl7.2 _ q).1; omega))
            have OO8 := OO.mono (O' := fun i => i = p ∨ (Value.slice la ln lc).ownBlock = some i) (fun i q => .inl q)
            have OO9 := OO8.more o8 (fun i q => .inl (.inr q))
            have g2 : Hid (Row (fun i => qc < i ∧ i < w8.heap.size) w8 73 2 (.slice la8 (ls ++ [(⟨fl, val⟩ : Si)]).length lc8) (eachK siS st1 (j + 1)).1.length (gcells cSi (eachK siS st1 (j + 1)).1)) := hide (by
              rw [HQJ.out]
              exact ⟨r8.1, fun i hi => ⟨by
                rcases r8.2 i hi with q | q
                · exact q.1
                · omega, (r8.1.lt i hi).2⟩⟩)
            have g3 := hide (HK.out.onl OO9 (fun q => by
              rcases q with q | q
              · omega
              · have := (HL.out.2 _ q).1; omega))
            have g4 := hide (HO.out.onl OO9 (fun i hi q => by
              have h1 := HO.out.2 i hi
              rcases q with q | q
              · omega
              · have := (HL.out.2 _ q).1; omega))
            have g5 := hide (Below.onl HB.out OO9 (fun i q => by
              rcases q with q | q
              · omega
              · have := (HL.out.2 _ q).1; omega) (Nat.le_refl _))
            obtain ⟨n8, hn8⟩ : ∃ n8, n8 = (ls ++ [(⟨fl, val⟩ : Si)]).length := ⟨_, rfl⟩
            rw [← hn8] at p2 g2
            rw [← hqs]
            clear HC3 r5 o5 k5 HO5 hW7 o7 OO hl7 lit RA RA2 r8 o8 hv8 OO8 OO9 hn8 hqs HKS HO4 HR HL HK HO HB z3 z5 z7 s7 z8 s4 hkq hW4
            go_wp2
            go_roundw
            case rel => exact ⟨j + 1, la8, n8, lc8, by omega, by simp, rfl, g1, g2, g3, g4, g5⟩
            case measure => simp [intOf]; omega
          · obtain rfl : j = 3 := by omega
            have dj : decide ((3 : Int) < 3) = false := by decide
            rw [each3] at HL
            obtain ⟨s1, hs1⟩ : ∃ s1, s1 = (siS st1).1 := ⟨_, rfl⟩
            obtain ⟨s2, hs2⟩ : ∃ s2, s2 = (siS (siS st1).2).1 := ⟨_, rfl⟩
            obtain ⟨s3, hs3⟩ : ∃ s3, s3 = (siS (siS (siS st1).2).2).1 := ⟨_, rfl⟩
            rw [← hs1, ← hs2, ← hs3] at HL HCE
            obtain ⟨st5, hst5⟩ : ∃ st5, st5 = (eachK siS st1 3).2 := ⟨_, rfl⟩
            rw [← hst5] at HR HCE
            rw [HCE.out] at HQ1
            simp only at HQ1
            clear hs1 hs2 hs3 hst5 hjl hj3 hj HCE
            obtain ⟨la2, lc2, hv, lrd, _, _, _, lx⟩ := rd_gcells cSi_len HL.out
            injection hv with e1 e2 e3
            subst e1 e2 e3
            obtain ⟨lg, lo, rfl, hc0⟩ := lrd 0 s1 rfl
            obtain ⟨lg2, e1, hlg⟩ := lx _ rfl
            injection e1 with e1 e2
            subst e1 e2
            have u0 : wr.cell? ⟨lg, 0, none⟩ = some (.bool s1.b) := hc0 0 _ rfl
            have u1 : wr.cell? ⟨lg, 1, none⟩ = some (.string s1.v) := hc0 1 _ rfl
            obtain ⟨_, _, e1, hc1⟩ := lrd 1 s2 rfl
            injection e1 with e1
            injection e1 with e1 e2
            subst e1 e2
            have u2 : wr.cell? ⟨lg, 2, none⟩ = some (.bool s2.b) := hc1 0 _ rfl
            have u3 : wr.cell? ⟨lg, 3, none⟩ = some (.string s2.v) := hc1 1 _ rfl
            obtain ⟨_, _, e1, hc2⟩ := lrd 2 s3 rfl
            injection e1 with e1
            injection e1 with e1 e2
            subst e1 e2
            have u4 : wr.cell? ⟨lg, 4, none⟩ = some (.bool s3.b) := hc2 0 _ rfl
            have u5 : wr.cell? ⟨lg, 5, none⟩ = some (.string s3.v) := hc2 1 _ rfl
            have kc := HK.out
            have x0 := kc.cell 0
            have x1 := kc.cell 1
            have x2 := kc.cell 2
            have x3 := kc.cell 3
            have x4 := kc.cell 4
            have x5 := kc.cell 5
            have x6 := kc.cell 6
            have f1 := kc.frozen 1
            have f2 := kc.frozen 2
            have f3 := kc.frozen 3
            have f4 := kc.frozen 4
            have f5 := kc.frozen 5
            have f6 := kc.frozen 6
            simp only [List.getElem?_cons_zero, List.getElem?_cons_succ] at x0 x1 x2 x3 x4 x5 x6
            have hlg1 := hlg.1
            have n1 : ¬ qc = lg := by omega
            have n2 : ¬ lg = qc := by omega
            clear hc0 hc1 hc2 lrd lx hlg kc
            go_wp2
            go_region
            have FD : ∀ W : World, Below W.heap.size W W.drew := fun W => (Below.refl _ W).drew
            obtain ⟨W6, hW6⟩ : ∃ W6, W6 = ((((((wr.setCell ⟨qc, 1, none⟩ (.bool s1.b)).setCell ⟨qc, 2, none⟩ (.string s1.v)).setCell ⟨qc, 3, none⟩ (.bool s2.b)).setCell ⟨qc, 4, none⟩ (.string s2.v)).setCell ⟨qc, 5, none⟩ (.bool s3.b)).setCell ⟨qc, 6, none⟩ (.string s3.v)).drew := ⟨_, rfl⟩
            rw [← hW6]
            have o6 : Onl (fun i => i = qc) wr W6 := by rw [hW6]; exact (((((((Onl.refl (fun i => i = qc) wr).set (p := qc) (.inl rfl) _).set (p := qc) (.inl rfl) _).set (p := qc) (.inl rfl) _).set (p := qc) (.inl rfl) _).set (p := qc) (.inl rfl) _).set (p := qc) (.inl rfl) _).trans (Onl.ofBelow (FD _))
            have k6 : Ob W6 qc 75 [.string key, .bool s1.b, .string s1.v, .bool s2.b, .string s2.v, .bool s3.b, .string s3.v] := by rw [hW6]; exact Ob.old ((((((HK.out.set 1 (.bool s1.b)).set 2 (.string s1.v)).set 3 (.bool s2.b)).set 4 (.string s2.v)).set 5 (.bool s3.b)).set 6 (.string s3.v)) (FD _)
            have c0 := k6.cell 0
            have c1 := k6.cell 1
            have c2 := k6.cell 2
            have c3 := k6.cell 3
            have c4 := k6.cell 4
            have c5 := k6.cell 5
            have c6 := k6.cell 6
            simp only [List.getElem?_cons_zero, List.getElem?_cons_succ] at c0 c1 c2 c3 c4 c5 c6
            obtain ⟨xc, hxc⟩ : ∃ xc : Cl, xc = ⟨key, s1, s2, s3⟩ := ⟨_, rfl⟩
            obtain ⟨W7, hW7⟩ : ∃ W7, W7 = W6.alloc (.cells #[.string key, .bool s1.b, .string s1.v, .bool s2.b, .string s2.v, .bool s3.b, .string s3.v] 75) := ⟨_, rfl⟩
            have b7 : Below W6.heap.size W6 W7 := by rw [hW7]; exact (Below.refl _ _).alloc (Nat.le_refl _) _
            have z6 := o6.size
            have z7 := b7.size
            have o7 : Onl (fun i => i = qc) wr W7 := o6.trans (Onl.ofBelow b7)
            have hlt := HK.out.lt
            have row7 : Row (fun i => p < i ∧ i < qc) W7 75 7 (.slice va m vc) es.length (gcells cCl es) := HO.out.onl o7 (fun i hi q => by have := (HO.out.2 i hi).2; omega)
            have lit : RdG cCl 7 W7 (some ⟨W6.heap.size, 0, none⟩) [xc] := by rw [hW7, hxc]; exact rd_lit _ W6 (⟨key, s1, s2, s3⟩ : Cl)
            obtain ⟨v8, w8, RA, r8, o8, hv8⟩ := app_cl (cp := 1) row7 (by simp; omega) lit
            have RA2 : (Builtin.append_ #[25, 25] 25 #[.slice va m vc, .slice (some ⟨W6.heap.size, 0, none⟩) 1 1]).run Try.prog W7 = .ok v8 w8 := RA
            obtain ⟨va8, vc8, hf8, _⟩ := r8.form
            subst hf8
            obtain ⟨p1, p2, p3⟩ := app_runs RA2
            rw [hW7] at p1 p2 p3
            have g1 : Hid (Rr w8 p 83 g (eachK clS st2 (k + 1)).2) := hide (by
              rw [HQ1.out]
              exact (HR.out.onl o7 (by omega) (by omega)).onl o8 (fun q => by have := (row7.2 _ q).1; omega) (fun q => by have := (row7.2 _ q).1; omega))
            have g2 : Hid (Row (fun i => p < i ∧ i < w8.heap.size) w8 75 7 (.slice va8 (es ++ [xc]).length vc8) (eachK clS st2 (k + 1)).1.length (gcells cCl (eachK clS st2 (k + 1)).1)) := hide (by
              rw [HQ1.out, ← hxc]
              exact ⟨r8.1, fun i hi => ⟨by
                rcases r8.2 i hi with q | q
                · exact q.1
                · omega, (r8.1.lt i hi).2⟩⟩)
            have g3 := hide (Below.onl (Below.onl HB.out o7 (fun i q => by omega) (Nat.le_refl _)) o8 (fun i q => by have := (row7.2 _ q).1; omega) (Nat.le_refl _))
            obtain ⟨n8, hn8⟩ : ∃ n8, n8 = (es ++ [xc]).length := ⟨_, rfl⟩
            rw [← hn8] at p2 g2
            clear hW6 o6 k6 hxc hW7 b7 o7 row7 lit RA RA2 r8 o8 hv8 hn8 HR HL HK HO HB HQ1 HQ z6 z7 hlt FD u0 u1 u2 u3 u4 u5 x0 x1 x2 x3 x4 x5 x6 f1 f2 f3 f4 f5 f6 n1 n2
            go_wp2
            go_roundw
            case rel => exact ⟨k + 1, va8, n8, vc8, by omega, by simp, rfl, g1, g2, g3⟩
            case measure => simp [intOf]; omega
    · obtain rfl : k = CT := by omega
      have t1 : decide ((k : Int) < (k : Int)) = false := by simp
      have t2 : decide (k < k) = false := by simp
      have HRQ : Hid (rawC b = (es, sk)) := hide (by rw [HRW.out, HQ.out])
      have HCD := hide (xdone_any p g sk wr HR.out)
      obtain ⟨va2, vc2, hv, rd3, _⟩ := rd_gcells cCl_len HO.out
      injection hv with e1 e2 e3
      subst e1 e2 e3
      have hel : es.length ≤ 1000 := by have := HRL.out; rw [HRQ.out] at this; exact this
      have hez : ClsSz es := by have := HRZ.out; rw [HRQ.out] at this; exact this
      have HCR := hide (rclashes_any wr va vc es rd3 (by omega) hez)
      obtain ⟨en, hen⟩ : ∃ en, en = es.length := ⟨_, rfl⟩
      rw [← hen] at HCR ⊢
      have HEN := hide hen
      clear rd3 hez hen hx1 hkc hkl
      by_cases hd : sk = some []
      · rw [decide_eq_true hd] at HCD
        have HD := hide hd
        clear hd
        by_cases he : clashE es = 0
        · rw [he] at HCR
          have HX : Hid (ofC b = (es, 0)) := hide (by unfold ofC; rw [HRQ.out]; rw [if_pos ⟨HD.out, he⟩])
          clear he
          go_wp2_with fail
          refine HCD.out.mono ?_
          rintro e w4 ⟨rfl, rfl⟩
          go_wp2_with fail
          refine HCR.out.mono ?_
          rintro e w5 ⟨rfl, b5⟩
          have HF : Hid (OcP w b (.returned (.tuple #[.slice va en vc, .int .i64 0])) w5) := by
            refine hide ?_
            unfold OcP
            rw [HX.out]
            refine ⟨_, rfl, ?_, HB.out.trans (b5.mono HB.out.size)⟩
            rw [HEN.out]
            exact (HO.out.onl (F := fun _ => False) (Onl.ofBelow b5) (fun _ _ q => q)).mono (O' := fun i => w.heap.size ≤ i) (fun i q => by have := q.1; omega)
          clear b5 HCD HCR
          go_wp2
          refine bodyPost_ret (by simp [results, Try.results47, go_sem]; rfl) rfl ?_
          exact HF.out
        · have HX : Hid (ofC b = ([], 20)) := hide (by unfold ofC; rw [HRQ.out]; rw [if_neg (fun q => he q.2)])
          have hz2 : (clashE es != 0) = true := by simpa using he
          generalize clashE es = E at HCR hz2
          clear he
          go_wp2_with fail
          refine HCD.out.mono ?_
          rintro e w4 ⟨rfl, rfl⟩
          go_wp2_with fail
          refine HCR.out.mono ?_
          rintro e w5 ⟨rfl, b5⟩
          have HF : Hid (OcP w b (.returned (.tuple #[.slice none 0 0, .int .i64 20])) w5) := by
            refine hide ?_
            unfold OcP
            rw [HX.out]
            exact ⟨_, rfl, Row.nil _ _ _ _, HB.out.trans (b5.mono HB.out.size)⟩
          clear b5 HCD HCR
          go_wp2
          refine bodyPost_ret (by simp [results, Try.results47, go_sem]; rfl) rfl ?_
          exact HF.out
      · rw [decide_eq_false hd] at HCD
        have HX : Hid (ofC b = ([], 20)) := hide (by unfold ofC; rw [HRQ.out]; rw [if_neg (fun q => hd q.1)])
        clear hd
        have HF : Hid (OcP w b (.returned (.tuple #[.slice none 0 0, .int .i64 20])) wr) := by
          refine hide ?_
          unfold OcP
          rw [HX.out]
          exact ⟨_, rfl, Row.nil _ _ _ _, HB.out⟩
        go_wp2_with fail
        refine HCD.out.mono ?_
        rintro e w4 ⟨rfl, rfl⟩
        clear HCD HCR
        go_wp2
        refine bodyPost_ret (by simp [results, Try.results47, go_sem]; rfl) rfl ?_
        exact HF.out
end Go.Proofs.Ytgjhmpmjbedjoaa
