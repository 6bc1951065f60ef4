/- The document's Rises, Right and Get, over the translation. Law 10's own: Store, told, awake, over the translation. Slices of bytes, of slices of bytes and of bools, spans and fates, as they came in. Entries, children and nodes that came in, as the walks read them. Law 10's awake, and TreeBuilds' walk, over the translation. -/
import Derived.Deep.Slices
import Derived.ProofKit
import Derived.OpenShut
import Derived.Handy
import Derived.Test.YtlfmllkhbeagbaaGreatRows
import Derived.Test.YtlfmllkhbeagbaaGreatQM38
import Derived.Test.YtlfmllkhbeagbaaGreatQM01
import Derived.Test.YtlfmllkhbeagbaaGreatQM09
import Derived.Test.YtlfmllkhbeagbaaGreatQM23
namespace Go.Proofs.YtlfmllkhbeagbaaGreat
open Go.RowKit Apo
set_option maxRecDepth 100000 in
set_option maxHeartbeats 4000000 in
theorem rrises_any (w : World) (a : Option Addr) (c : Nat) (es : List En) (h : RdEn w a es) (hl : es.length ≤ 1000000) :
    Calls Tryz.prog 40 #[.slice a es.length c] w (RsP es w) := by
  obtain ⟨n, hn⟩ : ∃ n, n = es.length := ⟨_, rfl⟩
  have HN := hide hn
  have HR := hide h
  rw [← hn] at hl ⊢
  clear h hn
  go_enter Tryz.func40, Tryz.ntmps40
  go_wp2
  go_loopw [6] (fun v wr => ∃ i : Nat, i ≤ n ∧ v = .int .i64 i ∧ Hid (∀ t e f, t + 1 < i → es[t]? = some e → es[t + 1]? = some f → sLt e.k f.k = true) ∧ Hid (Below w.heap.size w wr)) (fun v _ => n - (intOf v).toNat)
  case atStart => exact ⟨0, Nat.zero_le _, rfl, hide (fun t e f ht => absurd ht (by omega)), hide (Below.refl _ _)⟩
  case round =>
    obtain ⟨i, hi2, rfl, HS, HB⟩ := hrel
    by_cases hin : i < n
    · by_cases hi0 : i = 0
      · subst hi0
        have HS3 : Hid (∀ t e f, t + 1 < 0 + 1 → es[t]? = some e → es[t + 1]? = some f → sLt e.k f.k = true) := hide (fun t e f ht => absurd ht (by omega))
        clear HS
        go_wp2
        go_quiet (fail)
        go_wp2
        go_roundw
        case rel => exact ⟨1, by omega, by simp, HS3, hide (below_drewN HB.out _)⟩
        case measure => simp [intOf]; omega
      · obtain ⟨i1, hi3⟩ : ∃ i1, i = i1 + 1 := ⟨i - 1, by omega⟩
        obtain ⟨s1, hs1⟩ : ∃ s, es[i1]? = some s := ⟨es[i1]'(by have := HN.out; omega), List.getElem?_eq_getElem _⟩
        obtain ⟨s2, hs2⟩ : ∃ s, es[i1 + 1]? = some s := ⟨es[i1 + 1]'(by have := HN.out; omega), List.getElem?_eq_getElem _⟩
        obtain ⟨g, of, rfl, q1, _⟩ := (HR.out.below HB.out) i1 s1 hs1
        obtain ⟨g2, of2, hgg, q2, _⟩ := (HR.out.below HB.out) (i1 + 1) s2 hs2
        injection hgg with hgg
        injection hgg with e1 e2 _
        subst e1 e2
        have hwi : IntKind.i64.wrap ((i : Int) - 1) = (i1 : Int) := by rw [IntKind.wrap_i64]; omega
        have hsub : (i : Int) - 1 = (i1 : Int) := by omega
        have hi1n : i1 < n := by omega
        have hd0 : decide ((0 : Int) < (i : Int)) = true := decide_eq_true (by omega)
        have hd1 : decide (0 < i) = true := decide_eq_true (by omega)
        have hpos : 0 < i := by omega
        rw [← hi3] at q2
        have HI3 := hide hi3
        have HS12 := hide (And.intro hs1 hs2)
        clear hs1 hs2 hi3
        cases hb1 : sLt s1.k s2.k
        · have hbl : Op.bytesLess s1.k.toList s2.k.toList = false := hb1
          have HX : Hid (¬ Rise (es.map En.k)) := hide (fun z => by
            have q := rise_getD z HS12.out.1 HS12.out.2
            rw [hb1] at q
            cases q)
          clear hb1
          go_wp2
          go_quiet (fail)
          go_wp2
          go_ret
          exact ⟨false, rfl, ⟨fun q => (by cases q), fun q => absurd q HX.out⟩, below_drewN HB.out _⟩
        · have hbl : Op.bytesLess s1.k.toList s2.k.toList = true := hb1
          have HS3 : Hid (∀ t e f, t + 1 < i + 1 → es[t]? = some e → es[t + 1]? = some f → sLt e.k f.k = true) := by
            refine hide (fun t e f ht h1 h2 => ?_)
            by_cases z : t + 1 < i
            · exact HS.out t e f z h1 h2
            · obtain rfl : t = i1 := by have := HI3.out; omega
              rw [HS12.out.1] at h1
              rw [HS12.out.2] at h2
              cases h1
              cases h2
              exact hb1
          clear hb1 HS
          go_wp2
          go_quiet (fail)
          go_wp2
          go_roundw
          case rel => exact ⟨i + 1, by omega, by simp, HS3, hide (below_drewN HB.out _)⟩
          case measure => simp [intOf]; omega
    · have HF : Hid (Rise (es.map En.k)) := hide (rise_all (fun t e f h1 h2 => HS.out t e f (by have := (List.getElem?_eq_some_iff.1 h2).1; have := HN.out; omega) h1 h2))
      clear HS
      go_wp2
      go_ret
      exact ⟨true, rfl, ⟨fun _ => HF.out, fun _ => rfl⟩, HB.out⟩
def RrP (es : List En) (w : World) (e : Ending) (w' : World) : Prop := e = .returned (.int .i64 (rightE es)) ∧ Below w.heap.size w w'
set_option maxRecDepth 100000 in
set_option maxHeartbeats 4000000 in
theorem rright_any (W : World) (ea : Option Addr) (ec : Nat) (es : List En) (hr : RdEn W ea es) (hel : es.length ≤ 1000000) (hsz : ∀ e ∈ es, e.k.size ≤ maxLen ∧ e.v.size ≤ maxLen) :
    Calls Tryz.prog 13 #[.slice ea es.length ec] W (RrP es W) := by
  have C2 : ∀ W', Below W.heap.size W W' → Calls Tryz.prog 40 #[.slice ea es.length ec] W' (RsP es W') := fun W' b => rrises_any W' ea ec es (hr.below b) hel
  obtain ⟨ne, hne⟩ : ∃ ne, ne = es.length := ⟨_, rfl⟩
  have hmx : maxLen ≤ 9223372036854775807 := by decide
  have HC2 := hide C2
  have HNE := hide hne
  have HR := hide hr
  have HSZ := hide hsz
  rw [← hne] at HC2 hel ⊢
  clear C2 hne hr hsz
  go_enter Tryz.func13, Tryz.ntmps13
  go_wp2
  go_loopw [9] (fun i wr => ∃ k : Nat, k ≤ ne ∧ i = .int .i64 k ∧ Hid (∀ y ∈ es.take k, enE y = 0) ∧ Hid (Below W.heap.size W wr)) (fun i _ => ne - (intOf i).toNat)
  case atStart => exact ⟨0, Nat.zero_le _, rfl, hide (fun y hy => by simp at hy), hide (Below.refl _ _)⟩
  case round =>
    obtain ⟨k, hk, rfl, HP, HB⟩ := hrel
    by_cases hkn : k < ne
    · obtain ⟨⟨ek, ev⟩, hx⟩ : ∃ x, es[k]? = some x := ⟨es[k]'(by have := HNE.out; omega), List.getElem?_eq_getElem _⟩
      obtain ⟨g, of, rfl, q1, q2⟩ := (HR.out.below HB.out) k _ hx
      simp only at q1 q2
      have hz := HSZ.out _ (List.mem_of_getElem? hx)
      simp only at hz
      obtain ⟨W1, hW1⟩ : ∃ W1, W1 = wr.alloc (.cells #[.string ek, .string ev] 67) := ⟨_, rfl⟩
      have kb : Ob W1 wr.heap.size 67 [.string ek, .string ev] := by rw [hW1]; exact Ob.new wr [.string ek, .string ev] 67
      have b1 : Below W.heap.size W W1 := by rw [hW1]; exact HB.out.alloc HB.out.size _
      have y0 := kb.cell 0
      have y1 := kb.cell 1
      simp only [List.getElem?_cons_zero, List.getElem?_cons_succ] at y0 y1
      have CK := rkey_any ek W1 (by omega)
      have CV := rval_any ev W1 (by omega)
      have HX := hide hx
      have HB1 := hide b1
      have HCK := hide CK
      have HCV := hide CV
      clear hx kb b1 CK CV
      by_cases hke : keyE ek = 0
      · rw [hke] at HCK
        by_cases hve : valE ev = 0
        · rw [hve] at HCV
          have HN : Hid (∀ y ∈ es.take (k + 1), enE y = 0) := hide (take_enE HX.out HP.out (by rw [enE_val hke]; exact hve))
          clear hke hve HP
          go_wp2_with fail
          rw [← hW1]
          clear hW1
          refine HCK.out.mono ?_
          rintro e w2 ⟨rfl, rfl⟩
          go_wp2_with fail
          refine HCV.out.mono ?_
          rintro e w2 ⟨rfl, rfl⟩
          go_wp2
          go_roundw
          case rel => exact ⟨k + 1, by omega, by simp, HN, HB1⟩
          case measure => simp [intOf]; omega
        · have HF : Hid (RrP es W (.returned (.int .i64 (valE ev))) W1) := by
            have hq : rightE es = valE ev := by rw [rightE_at HX.out HP.out (by rw [enE_val hke]; exact hve), enE_val hke]
            exact hide ⟨by rw [hq], HB1.out⟩
          obtain ⟨er, her⟩ : ∃ er, er = valE ev := ⟨_, rfl⟩
          rw [← her] at HCV HF hve
          have hb : (er != 0) = true := by simpa using hve
          clear hke hve HP her
          go_wp2_with fail
          rw [← hW1]
          clear hW1
          refine HCK.out.mono ?_
          rintro e w2 ⟨rfl, rfl⟩
          go_wp2_with fail
          refine HCV.out.mono ?_
          rintro e w2 ⟨rfl, rfl⟩
          go_wp2
          go_ret
          exact HF.out
      · have HF : Hid (RrP es W (.returned (.int .i64 (keyE ek))) W1) := by
          have hq : rightE es = keyE ek := by rw [rightE_at HX.out HP.out (by rw [enE_key hke]; exact hke), enE_key hke]
          exact hide ⟨by rw [hq], HB1.out⟩
        obtain ⟨er, her⟩ : ∃ er, er = keyE ek := ⟨_, rfl⟩
        rw [← her] at HCK HF hke
        have hb : (er != 0) = true := by simpa using hke
        clear hke HP her
        go_wp2_with fail
        rw [← hW1]
        clear hW1
        refine HCK.out.mono ?_
        rintro e w2 ⟨rfl, rfl⟩
        go_wp2
        go_ret
        exact HF.out
    · have hf0 : firstE enE es = 0 := firstE_none (fun y hy => HP.out y (by rw [List.take_of_length_le (by have := HNE.out; omega)]; exact hy))
      have CR := HC2.out wr HB.out
      have HF0 := hide hf0
      have HCR := hide CR
      clear hf0 CR HP
      go_wp2_with fail
      refine HCR.out.mono ?_
      rintro e w2 ⟨b, rfl, hb, b2⟩
      have HBW := hide (HB.out.trans (b2.mono HB.out.size))
      cases b with
      | false =>
        have HF : Hid (RrP es W (.returned (.int .i64 90)) w2) := by
          have hq : rightE es = 90 := by
            unfold rightE
            rw [if_neg (by rw [HF0.out]; simp), if_neg (fun q => by have := hb.2 q; cases this)]
          exact hide ⟨by rw [hq], HBW.out⟩
        clear hb b2
        go_wp2
        go_ret
        exact HF.out
      | true =>
        have HF : Hid (RrP es W (.returned (.int .i64 0)) w2) := by
          have hq : rightE es = 0 := by
            unfold rightE
            rw [if_neg (by rw [HF0.out]; simp), if_pos (hb.1 rfl)]
          exact hide ⟨by rw [hq], HBW.out⟩
        clear hb b2
        go_wp2
        go_ret
        exact HF.out
def RgP (es : List En) (key : ByteArray) (w : World) (e : Ending) (w' : World) : Prop := ∃ (v : ByteArray) (b : Bool), e = .returned (.agg #[.bool b, .string v]) ∧ Gets es key v b ∧ Below w.heap.size w w'
set_option maxRecDepth 100000 in
theorem size_side : (Tryz.prog.info? 89).map (·.size) = some 2 := by kernel_rfl
set_option maxRecDepth 100000 in
theorem fin_rget {W : World} {g : Nat} {c0 c1 : Value} {tmps : Array Value} {Q : Ending → World → Prop} (k : Ob W g 89 [c0, c1]) (h4 : tmps.getD 4 undef = .pointer (some ⟨g, 0, none⟩)) (hq : Q (.returned (.agg #[c0, c1])) W) :
    bodyPost Tryz.prog Tryz.f41 Q Exit.ret { tmps := tmps, defers := [] } W := by
  have hl := run_loadVar_row (P := Tryz.prog) W g 89 89 #[c0, c1] (0, 0) _ k Tryz.underlying89 rfl (by rw [size_side]; rfl)
  have h4' : tmps[4]?.getD undef = .pointer (some ⟨g, 0, none⟩) := by simpa using h4
  refine bodyPost_ret (v := .agg #[c0, c1]) ?_ rfl hq
  simp [results, Tryz.results41, asAddr, h4', hl]
set_option maxRecDepth 100000 in
set_option maxHeartbeats 4000000 in
theorem rget_any (w : World) (a : Option Addr) (c : Nat) (es : List En) (key : ByteArray) (h : RdEn w a es) (hl : es.length ≤ 1000000) :
    Calls Tryz.prog 41 #[.slice a es.length c, .string key] w (RgP es key w) := by
  obtain ⟨n, hn⟩ : ∃ n, n = es.length := ⟨_, rfl⟩
  have HN := hide hn
  obtain ⟨W0, hW0⟩ : ∃ W0, W0 = w.alloc (.cells #[.bool false, .string ⟨#[]⟩] 89) := ⟨_, rfl⟩
  have b0 : Below w.heap.size w W0 := by rw [hW0]; exact (Below.refl _ w).alloc (Nat.le_refl _) _
  have s0 : W0.heap.size = w.heap.size + 1 := by rw [hW0]; simp
  have k0 : Ob W0 w.heap.size 89 [.bool false, .string ⟨#[]⟩] := by rw [hW0]; exact Ob.new w [.bool false, .string ⟨#[]⟩] 89
  have HR := hide (h.below b0)
  have HB0 := hide b0
  have HK0 := hide k0
  rw [← hn] at hl ⊢
  clear h hn b0 k0
  go_enter Tryz.func41, Tryz.ntmps41
  go_wp2
  rw [← hW0]
  clear hW0
  go_loopw [9] (fun v wr => ∃ i : Nat, i ≤ n ∧ v = .int .i64 i ∧ Hid (∀ e ∈ es.take i, e.k ≠ key) ∧ Hid (Below W0.heap.size W0 wr)) (fun v _ => n - (intOf v).toNat)
  case atStart => exact ⟨0, Nat.zero_le _, rfl, hide (fun e he => by simp at he), hide (Below.refl _ _)⟩
  case round =>
    obtain ⟨i, hi2, rfl, HS, HB⟩ := hrel
    have kr := HK0.out.old HB.out
    have sr := HB.out.size
    by_cases hin : i < n
    · obtain ⟨⟨ek, ev⟩, hx⟩ : ∃ x, es[i]? = some x := ⟨es[i]'(by have := HN.out; omega), List.getElem?_eq_getElem _⟩
      obtain ⟨g, of, rfl, q1, q2⟩ := (HR.out.below HB.out) i _ hx
      simp only at q1 q2
      obtain ⟨W1, hW1⟩ : ∃ W1, W1 = wr.alloc (.cells #[.string ek, .string ev] 67) := ⟨_, rfl⟩
      have b1 : Below wr.heap.size wr W1 := by rw [hW1]; exact (Below.refl _ wr).alloc (Nat.le_refl _) _
      have kb : Ob W1 wr.heap.size 67 [.string ek, .string ev] := by rw [hW1]; exact Ob.new wr [.string ek, .string ev] 67
      have kr1 := kr.old b1
      have bW1 : Below w.heap.size w W1 := HB0.out.trans ((HB.out.mono (by omega)).trans (b1.mono (by omega)))
      by_cases hk : ek = key
      · have hd : (ek.toList == key.toList) = true := by rw [hk]; simp
        have y0 := kb.cell 0
        have y1 := kb.cell 1
        have z0 := kr1.cell 0
        have z1 := kr1.cell 1
        have f0 := kr1.frozen 0
        have f1 := kr1.frozen 1
        simp only [List.getElem?_cons_zero, List.getElem?_cons_succ] at y0 y1 z0 z1
        obtain ⟨W2, hW2⟩ : ∃ W2, W2 = (W1.setCell ⟨w.heap.size, 0, none⟩ (.bool true)).setCell ⟨w.heap.size, 1, none⟩ (.string ev) := ⟨_, rfl⟩
        have o2 : Onl (fun j => j = w.heap.size) W1 W2 := by rw [hW2]; exact ((Onl.refl (fun j => j = w.heap.size) W1).set (p := w.heap.size) (.inl rfl) _).set (p := w.heap.size) (.inl rfl) _
        have k2 : Ob W2 w.heap.size 89 [.bool true, .string ev] := by rw [hW2]; exact (kr1.set 0 _).set 1 _
        have HF : Hid (RgP es key w (.returned (.agg #[.bool true, .string ev])) W2) := hide ⟨ev, true, rfl, .inl ⟨rfl, _, List.mem_of_getElem? hx, hk, rfl⟩, Below.onl bW1 o2 (fun j q => by omega) (Nat.le_refl _)⟩
        have HK2 := hide k2
        rw [hW2] at HF HK2
        rw [hW1] at y0 y1 z0 z1 f0 f1 HF HK2
        clear hW2 hW1 o2 k2 kr kr1 kb b1 bW1 hx hk HS HB
        go_wp2
        exact fin_rget HK2.out rfl HF.out
      · have hd : (ek.toList == key.toList) = false := by
          cases q : (ek.toList == key.toList) with
          | false => rfl
          | true => exact absurd (bytes_of_list (by simpa using q)) hk
        have y0 := kb.cell 0
        simp only [List.getElem?_cons_zero] at y0
        have HS2 : Hid (∀ e ∈ es.take (i + 1), e.k ≠ key) := hide (fun e he => by
          rw [List.take_add_one, hx] at he
          rcases List.mem_append.1 he with q | q
          · exact HS.out e q
          · simp at q; rw [q]; exact hk)
        have HB2 := hide (HB.out.trans (b1.mono (by omega)))
        rw [hW1] at y0 HB2
        clear hW1 kr kr1 kb b1 bW1 hx hk HS HB
        go_wp2
        go_roundw
        case rel => exact ⟨i + 1, by omega, by simp, HS2, HB2⟩
        case measure => simp [intOf]; omega
    · have hall : ∀ e ∈ es, e.k ≠ key := fun e he => HS.out e (by rw [List.take_of_length_le (by have := HN.out; omega)]; exact he)
      have z0 := kr.cell 0
      have z1 := kr.cell 1
      have f0 := kr.frozen 0
      have f1 := kr.frozen 1
      simp only [List.getElem?_cons_zero, List.getElem?_cons_succ] at z0 z1
      obtain ⟨W2, hW2⟩ : ∃ W2, W2 = (wr.setCell ⟨w.heap.size, 0, none⟩ (.bool false)).setCell ⟨w.heap.size, 1, none⟩ (.string ⟨#[]⟩) := ⟨_, rfl⟩
      have o2 : Onl (fun j => j = w.heap.size) wr W2 := by rw [hW2]; exact ((Onl.refl (fun j => j = w.heap.size) wr).set (p := w.heap.size) (.inl rfl) _).set (p := w.heap.size) (.inl rfl) _
      have k2 : Ob W2 w.heap.size 89 [.bool false, .string ⟨#[]⟩] := by rw [hW2]; exact (kr.set 0 _).set 1 _
      have HF : Hid (RgP es key w (.returned (.agg #[.bool false, .string ⟨#[]⟩])) W2) := hide ⟨_, false, rfl, .inr ⟨rfl, rfl, hall⟩, Below.onl (HB0.out.trans (HB.out.mono (by omega))) o2 (fun j q => by omega) (Nat.le_refl _)⟩
      have HK2 := hide k2
      rw [hW2] at HF HK2
      clear hW2 o2 k2 kr hall HS HB
      go_wp2
      exact fin_rget HK2.out rfl HF.out
end Go.Proofs.YtlfmllkhbeagbaaGreat
namespace Go.Proofs.YtlfmllkhbeagbaaGreat
open Go.RowKit Apo
theorem gets_uniq {es : List En} {key v v' : ByteArray} {b b' : Bool} (hr : RiseE es) (h : Gets es key v b) (h' : Gets es key v' b') : v = v' ∧ b = b' := by
  rcases h with ⟨rfl, e, h1, h2, h3⟩ | ⟨rfl, rfl, h1⟩
  · rcases h' with ⟨rfl, f, k1, k2, k3⟩ | ⟨rfl, rfl, k1⟩
    · obtain ⟨i, hi, qi⟩ := List.mem_iff_getElem.1 h1
      obtain ⟨j, hj, qj⟩ := List.mem_iff_getElem.1 k1
      have hP := List.pairwise_iff_getElem.1 hr
      rcases Nat.lt_trichotomy i j with z | z | z
      · have := hP i j hi hj z
        rw [qi, qj, h2, k2, sLt_irr] at this
        cases this
      · subst z
        rw [← h3, ← k3, ← qi, ← qj]
        exact ⟨rfl, rfl⟩
      · have := hP j i hj hi z
        rw [qi, qj, h2, k2, sLt_irr] at this
        cases this
    · exact absurd h2 (k1 e h1)
  · rcases h' with ⟨rfl, f, k1, k2, k3⟩ | ⟨rfl, rfl, k1⟩
    · exact absurd k2 (h1 f k1)
    · exact ⟨rfl, rfl⟩
set_option maxRecDepth 100000 in
theorem tstore_any (w : World) : Calls Tryz.prog 11 #[] w fun e W' => ∃ s O, e = .returned (.pointer (some ⟨s, 0, none⟩)) ∧ TSw w W' s O [] 1 := by
  have h8 : 8 ≤ lenOf 16384 := by decide
  have H8 := hide h8
  clear h8
  go_enter Tryz.func11, Tryz.ntmps11
  go_wp2_with fail
  refine (cnew_any 16384 w).mono ?_
  rintro e w1 ⟨d, rfl, k1, b1⟩
  have L1 : LwD w w1 d (newSd 16384) (Fresh w w1) := ⟨k1, fun i q => q.1, fun i q => q.2, b1⟩
  have C2 := lopen_new L1 H8.out
  have HC2 := hide C2
  clear k1 b1 L1 C2
  go_wp2_with fail
  refine HC2.out.mono ?_
  rintro e w2 ⟨s, O2, rfl, L2⟩
  have HF := hide (show TSw w w2 s O2 [] 1 from ⟨d, _, L2, sta_new⟩)
  clear L2
  go_wp2
  go_ret
  exact ⟨s, O2, rfl, HF.out⟩
open Classical in
set_option maxRecDepth 100000 in
set_option maxHeartbeats 4000000 in
theorem ttell_any {w W : World} {s m : Nat} {O : Nat → Prop} {T : List (List Int)} (h : TSw w W s O T m) (hT : T.length ≤ 16000) (hx : TxOk T) (root : Nat) (ls : List (Nat × List En)) (ht : RootT T root ls) (hr : RiseE (ent ls)) (hpos : ∀ p ∈ ls, 0 < p.2.length) (hsz : (ent ls).length ≤ 1000) (a : Option Addr) (c : Nat) (hrd : RdEn W a (ent ls)) (key : ByteArray) :
    Calls Tryz.prog 14 #[.pointer (some ⟨s, 0, none⟩), .int .u64 root, .slice a (ent ls).length c, .string key] W fun e W' => e = .returned (.bool true) ∧ Below W.heap.size W W' := by
  have C1 := tlist_any h hT hx root ls ht hpos hsz
  change Calls _ _ _ _ (LsP W (ent ls)) at C1
  have C2 : ∀ W', Below W.heap.size W W' → Calls Tryz.prog 30 #[.pointer (some ⟨s, 0, none⟩), .int .u64 root, .string key] W' (GtP (ent ls) key W') := fun W' b => tgettree_any (h.below b) hT hx root ls ht hr key
  have C3 : ∀ W', Below W.heap.size W W' → Calls Tryz.prog 41 #[.slice a (ent ls).length c, .string key] W' (RgP (ent ls) key W') := fun W' b => rget_any W' a c (ent ls) key (hrd.below b) (by omega)
  have C4 : ∀ W' v ca, Below W.heap.size W W' → RdEn W' v (ent ls) → Calls Tryz.prog 19 #[.slice v (ent ls).length ca, .slice a (ent ls).length c] W' fun e w' => e = .returned (.bool true) ∧ Below W'.heap.size W' w' := fun W' v ca b hv => by
    have := sameEn_any v ca (ent ls) a c (ent ls) W' hv (hrd.below b) (by omega)
    simpa using this
  obtain ⟨es, hes⟩ : ∃ es, es = ent ls := ⟨_, rfl⟩
  rw [← hes] at C1 C2 C3 C4 hr hsz ⊢
  obtain ⟨n, hn⟩ : ∃ n, n = es.length := ⟨_, rfl⟩
  have HC1 := hide C1
  have HC2 := hide C2
  have HC3 := hide C3
  have HC4 := hide C4
  have HR := hide hr
  have HN := hide hn
  rw [← hn] at HC3 HC4 ⊢
  clear C1 C2 C3 C4 hr hn h ht hrd hes hsz hpos
  go_enter Tryz.func14, Tryz.ntmps14
  go_wp2_with fail
  refine HC1.out.mono ?_
  rintro e w1 ⟨v1, rfl, r1, b1⟩
  obtain ⟨va, vc, hva, rd1, hc1, hc2, hc3⟩ := rd_ecells r1
  rw [← HN.out] at hva
  subst hva
  have C2 := HC2.out w1 b1
  have HB1 := hide b1
  have HRD1 := hide rd1
  have HC2' := hide C2
  clear C2 b1 r1 rd1 HC1 HC2 hc1 hc2 hc3
  go_wp2_with fail
  refine HC2'.out.mono ?_
  rintro e w2 ⟨v2, bb2, rfl, g2, b2⟩
  have B2 := HB1.out.trans (b2.mono HB1.out.size)
  have C3 := HC3.out w2 B2
  have HB2 := hide B2
  have HRD2 := hide (HRD1.out.below b2)
  have HG2 := hide g2
  have HC3' := hide C3
  clear C3 b2 B2 g2 HC3 HC2' HRD1 HB1
  go_wp2_with fail
  refine HC3'.out.mono ?_
  rintro e w3 ⟨v3, bb3, rfl, g3, b3⟩
  obtain ⟨rfl, rfl⟩ := gets_uniq HR.out HG2.out g3
  obtain ⟨w4, hw4⟩ : ∃ w4, w4 = w3.alloc (.cells #[.bool bb2, .string v2] 89) := ⟨_, rfl⟩
  have b4 : Below w3.heap.size w3 w4 := by rw [hw4]; exact (Below.refl _ w3).alloc (Nat.le_refl _) _
  have k4 : Ob w4 w3.heap.size 89 [.bool bb2, .string v2] := by rw [hw4]; exact Ob.new w3 [.bool bb2, .string v2] 89
  have B4 := HB2.out.trans ((b3.mono HB2.out.size).trans (b4.mono (Nat.le_trans HB2.out.size b3.size)))
  have C4 := HC4.out w4 va vc B4 ((HRD2.out.below b3).below b4)
  have HB4 := hide B4
  have HK4 := hide k4
  have HC4' := hide C4
  have hv : (v2.toList == v2.toList) = true := by simp
  have hb : (bb2 == bb2) = true := by simp
  clear C4 B4 k4 b3 b4 g3 HC4 HC3' HRD2 HB2 HG2
  go_wp2_with fail
  rw [← hw4]
  clear hw4
  refine HC4'.out.mono ?_
  rintro e w5 ⟨rfl, b5⟩
  have k5 := HK4.out.old b5
  have y0 := k5.cell 0
  have y1 := k5.cell 1
  simp only [List.getElem?_cons_zero, List.getElem?_cons_succ] at y0 y1
  have HF := hide (HB4.out.trans (b5.mono HB4.out.size))
  clear b5 k5
  cases bb2
  all_goals
    go_wp2
    go_ret
    exact ⟨rfl, HF.out⟩
end Go.Proofs.YtlfmllkhbeagbaaGreat
namespace Go.Proofs.YtlfmllkhbeagbaaGreat
open Go.RowKit Apo Go.ChangeShapes Go.WideShapes Go.Deep

section
variable {H : Type} {enc : TypeId × Value → H} {w : World} {base : Nat} {spare : Nat → Bool} {held : Bool}


/-- a text that came in -/
structure Tb where
  a : Option Addr
  c : Nat
  b : List Int
instance : Inhabited Tb := ⟨⟨none, 0, []⟩⟩
end
end Go.Proofs.YtlfmllkhbeagbaaGreat
namespace Go.Proofs.YtlfmllkhbeagbaaGreat
open Go.RowKit Apo Go.ChangeShapes Go.WideShapes Go.Deep

section
variable {H : Type} {enc : TypeId × Value → H} {w : World} {base : Nat} {spare : Nat → Bool} {held : Bool}

set_option maxRecDepth 100000 in
theorem open_ens {fuel : Nat} {v : Value} {x : DataW H × List MemPlace} (h : DataW.trod enc Tryz.prog w base spare held fuel 22 [v] = some x) :
    ∃ (a : Option Addr) (cap : Nat) (fs : List En), v = .slice a fs.length cap ∧ RdEn w a fs ∧ (∀ f ∈ fs, f.k.size ≤ maxLen ∧ f.v.size ≤ maxLen) ∧ fs.length ≤ cap ∧ cap ≤ maxLen ∧ (a = none → cap = 0) := by
  rcases open_slice Tryz.underlying22 h with ⟨hcs, _⟩ | ⟨ad, len, cap, m, n, D, Pl, hcs, hb, hl, hm, hmm, _, hx⟩
  · simp only [List.cons.injEq, and_true] at hcs
    exact ⟨none, 0, [], hcs, (fun i e hi => by simp at hi), by simp, by simp, by omega, fun _ => rfl⟩
  · simp only [List.cons.injEq, and_true] at hcs
    have hlm : len ≤ m := by rw [hmm]; split <;> omega
    have ce : Tryz.prog.cellsOf 67 = 2 := by kernel_rfl
    have each : ∀ i, i < len → ∃ f : En, w.cell? (ad.add (i * 2)) = some (.string f.k) ∧ w.cell? (ad.add (i * 2 + 1)) = some (.string f.v) ∧ (f.k.size ≤ maxLen ∧ f.v.size ≤ maxLen) := by
      intro i hi
      obtain ⟨cs', h1, h2⟩ := hx i (by omega)
      rw [ce] at h1
      obtain ⟨_, hlen, hcell⟩ := World.cells?_some h1
      obtain ⟨xs, k, hk, hxy, _, hxl, hf⟩ := DataW.trod_struct Tryz.underlying67 h2
      match xs, hxl, cs', hlen with
      | [y0, y1], _, [v0, v1], _ =>
        have c9 : Tryz.prog.cellsOf 9 = 1 := by kernel_rfl
        have g0 := hf 0 _ rfl
        have g1 := hf 1 _ rfl
        simp [c9] at g0 g1
        obtain ⟨kk, e0, _, w0⟩ := DataW.trod_string Tryz.underlying9 g0
        obtain ⟨vv, e1, _, w1⟩ := DataW.trod_string Tryz.underlying9 g1
        have q0 := hcell 0 (by omega)
        have q1 := hcell 1 (by omega)
        rw [add_add] at q0 q1
        simp only [List.cons.injEq, and_true] at e0 e1
        subst e0 e1
        exact ⟨⟨kk, vv⟩, by simpa using q0, by simpa using q1, w0, w1⟩
    obtain ⟨F, hF⟩ := choose_lt each
    refine ⟨some ad, cap, (List.range len).map F, by simpa using hcs, ?_, ?_, by simp; omega, by omega, fun e => by cases e⟩
    · intro i f hi
      obtain ⟨hlt, hv⟩ := List.getElem?_eq_some_iff.1 hi
      have hil : i < len := by simpa using hlt
      have hfi : F i = f := by simpa using hv
      obtain ⟨p0, p1, _⟩ := hF i hil
      have z0 := (hF 0 (by omega)).1
      obtain ⟨b, off, spot⟩ := ad
      have hspot : spot = none := by simpa [Addr.add] using World.cell?_spot z0
      subst hspot
      rw [hfi] at p0 p1
      rw [add_plain] at p0 p1
      exact ⟨b, off, rfl, p0, by simpa [Nat.add_assoc] using p1⟩
    · intro f hf
      simp only [List.mem_map, List.mem_range] at hf
      obtain ⟨i, hi, rfl⟩ := hf
      exact (hF i hi).2.2
/-- entries, children in a slice that came in -/
structure EsA where
  a : Option Addr
  c : Nat
  l : List En
structure OkEs (w : World) (x : EsA) : Prop where
  rd : RdEn w x.a x.l
  sz : ∀ e ∈ x.l, e.k.size ≤ maxLen ∧ e.v.size ≤ maxLen
  len : x.l.length ≤ x.c
  big : x.c ≤ maxLen
  nil : x.a = none → x.c = 0
set_option maxRecDepth 100000 in
theorem ens_in {r : Reach} {b0 : Nat} {v : Value} {d : DataW H} {ps : List MemPlace} (hval : Value.okWide Tryz.prog w r b0 22 v) (h : DataW.Trod enc Tryz.prog w base spare held 22 v d ps) : ∃ t : EsA, v = .slice t.a t.l.length t.c ∧ OkEs w t := by
  obtain ⟨a, l, c, rfl⟩ := okWide_slice Tryz.underlying22 hval
  obtain ⟨fuel, hf⟩ := h
  obtain ⟨a', c', fs, e, h1, h2, h3, h4, h5⟩ := open_ens hf
  exact ⟨⟨a', c', fs⟩, e, ⟨h1, h2, h3, h4, h5⟩⟩
end
end Go.Proofs.YtlfmllkhbeagbaaGreat
namespace Go.Proofs.YtlfmllkhbeagbaaGreat
open Go.RowKit Apo
/-- what comes of Build of a map -/
theorem TBld.good {w W W' : World} {s m : Nat} {O : Nat → Prop} {T : List (List Int)} {es : List En} {e : Ending} (h : TBld w W s O T m es e W') (hr : rightE es = 0) : TRoot w W s O T m es e W' := by
  rcases h with ⟨q, _⟩ | ⟨_, q⟩
  · exact absurd hr q
  · exact q
theorem rightE_nil : rightE [] = 0 := by
  unfold rightE
  rw [if_neg (by simp [firstE]), if_pos (show Rise (([] : List En).map En.k) from List.Pairwise.nil)]
def oneE : List En := [⟨⟨#[97]⟩, ⟨#[49]⟩⟩]
theorem rightE_one : rightE oneE = 0 := by
  unfold rightE
  have h1 : firstE enE oneE = 0 := firstE_none (fun x hx => by
    simp only [oneE, List.mem_singleton] at hx
    subst hx
    unfold enE keyE valE
    decide)
  rw [if_neg (by rw [h1]; simp), if_pos (show Rise (oneE.map En.k) from List.pairwise_singleton _ _)]
theorem rd_oneE (W : World) : RdEn (W.alloc (.cells #[.string ⟨#[97]⟩, .string ⟨#[49]⟩] 67)) (some ⟨W.heap.size, 0, none⟩) oneE := by
  intro i e hi
  have k := Ob.new W [.string ⟨#[97]⟩, .string ⟨#[49]⟩] 67
  match i, hi with
  | 0, hi =>
    simp only [oneE, List.getElem?_cons_zero, Option.some.injEq] at hi
    subst hi
    exact ⟨W.heap.size, 0, rfl, k.cell 0, k.cell 1⟩
  | i + 1, hi => simp [oneE] at hi
set_option maxRecDepth 100000 in
set_option maxHeartbeats 8000000 in
theorem tawake_any (w : World) : Calls Tryz.prog 9 #[] w fun e w' => e = .returned (.bool true) ∧ Below w.heap.size w w' := by
  go_enter Tryz.func9, Tryz.ntmps9
  go_wp2_with fail
  refine (tstore_any w).mono ?_
  rintro e w1 ⟨s, O, rfl, t1⟩
  have b1 : Below w1.heap.size w1 (w1.alloc (.cells #[.string ⟨#[97]⟩, .string ⟨#[49]⟩] 67)) := (Below.refl _ w1).alloc (Nat.le_refl _) _
  have C2 := tBuild_any (t1.below b1) (some ⟨w1.heap.size, 0, none⟩) 1 oneE (rd_oneE w1) (fun q => by cases q) (by simp [oneE]) (fun e he => by simp only [oneE, List.mem_singleton] at he; subst he; unfold maxLen; decide) (by simp [oneE]) (by simp [oneE])
  rw [show oneE.length = 1 from rfl] at C2
  have HC2 := hide C2
  have HB1 := hide (t1.bel.trans (b1.mono t1.bel.size))
  clear C2 t1 b1
  go_wp2_with fail
  refine HC2.out.mono ?_
  rintro e w2 hb2
  obtain ⟨id, O2, T2, rfl, p1, p2, p2', p3, p4, p5, p6⟩ := hb2.good rightE_one
  have hTx : TxOk T2 := p2' (fun t ht => by simp at ht)
  have hok := rightE_map rightE_one
  have hT2 : T2.length ≤ 16000 := by simp [oneE] at p3; omega
  obtain ⟨ls, q1, q2, q3, q4⟩ := p1.tree hok (by simp [oneE]) hT2
  have hid : ((id : Int) != 0) = true := by
    have : id ≠ 0 := fun z => by have := q4.1 z; simp [oneE] at this
    simp; omega
  have C3 := tgettree_any p4 hT2 hTx id ls q1 (by rw [q2]; exact riseE_iff.2 hok.rise) ⟨#[97]⟩
  rw [q2] at C3
  have HC3 := hide C3
  have HP4 := hide p4
  have HT2 := hide hT2
  have HL2 : Hid (T2.length ≤ 21) := hide (by simp [oneE] at p3; omega)
  clear C3 p1 p2 p2' p3 p4 p5 p6 q1 q2 q3 q4 hTx hok hT2 HC2
  go_wp2_with fail
  refine HC3.out.mono ?_
  rintro e w3 ⟨v, b, rfl, hg, b3⟩
  obtain ⟨rfl, rfl⟩ : v = ⟨#[49]⟩ ∧ b = true := by
    have := gets_uniq (es := oneE) (key := ⟨#[97]⟩) (riseE_iff.2 (rightE_map rightE_one).rise) hg (.inl ⟨rfl, _, List.mem_singleton.2 rfl, rfl, rfl⟩)
    exact this
  have t3 := HP4.out.below b3
  have C4 := tBuild_any t3 none 0 [] (fun i e hi => by simp at hi) (fun _ => rfl) (by simp) (fun e he => by simp at he) (by simp [oneE]) (by have := HL2.out; simp; omega)
  rw [show ([] : List En).length = 0 from rfl] at C4
  have HC4 := hide C4
  clear C4 t3 hg b3 HC3
  go_wp2_with fail
  refine HC4.out.mono ?_
  rintro e w4 hb4
  obtain ⟨id4, O4, T4, rfl, p1, p2, p2', p3, p4, p5, p6⟩ := hb4.good rightE_nil
  have hz : id4 = 0 := by
    obtain ⟨ls, q1, q2, q3, q4⟩ := p1.tree (rightE_map rightE_nil) (by simp) (by have := HL2.out; simp at p3; omega)
    exact q4.2 rfl
  subst hz
  have HF := hide p4.bel
  clear p1 p2 p2' p3 p4 p5 p6
  go_wp2
  go_ret
  exact ⟨rfl, HF.out⟩
set_option maxRecDepth 100000 in
set_option maxHeartbeats 8000000 in
theorem builds10 (w : World) (x : EsA) (hx : OkEs w x) (key : ByteArray) (hkey : key.size ≤ 9223372036854775807) :
    Calls Tryz.prog 3 #[.slice x.a x.l.length x.c, .string key] w fun e w' => e = .returned (.bool true) ∧ Below w.heap.size w w' := by
  obtain ⟨a, c, es⟩ := x
  simp only
  have hml : maxLen ≤ 9223372036854775807 := by decide
  have hbig := hx.big
  have hlen := hx.len
  simp only at hbig hlen
  have CL : ∀ W, Below w.heap.size w W → Calls Tryz.prog 10 #[.slice a es.length c] W fun e w' => e = .returned (.bool (lightB es)) ∧ Below W.heap.size W w' := fun W b => light_any W a c es (hx.rd.below b) (by omega) hx.sz
  obtain ⟨n, hn⟩ : ∃ n, n = es.length := ⟨_, rfl⟩
  have HN := hide hn
  have HX := hide hx
  have HCL := hide CL
  have HAW := hide (tawake_any w)
  rw [← hn] at HCL hlen ⊢
  clear CL hx hn
  cases hli : lightB es with
  | false =>
    rw [hli] at HCL
    go_enter Tryz.func3, Tryz.ntmps3
    go_wp2_with fail
    refine HAW.out.mono ?_
    rintro e w1 ⟨rfl, b1⟩
    have C2 := HCL.out w1 b1
    have HC2 := hide C2
    have HB1 := hide b1
    clear C2 b1
    go_wp2_with fail
    refine HC2.out.mono ?_
    rintro e w2 ⟨rfl, b2⟩
    have HF := hide (HB1.out.trans (b2.mono HB1.out.size))
    clear b2
    go_wp2
    go_ret
    exact ⟨rfl, HF.out⟩
  | true =>
    rw [hli] at HCL
    have hn60 : n ≤ 60 := by
      unfold lightB at hli
      simp only [Bool.and_eq_true, decide_eq_true_eq] at hli
      have := HN.out
      omega
    clear hli
    by_cases hk60 : 60 < key.size
    · have hd : decide ((60 : Int) < (key.size : Int)) = true := decide_eq_true (by omega)
      go_enter Tryz.func3, Tryz.ntmps3
      go_wp2_with fail
      refine HAW.out.mono ?_
      rintro e w1 ⟨rfl, b1⟩
      have C2 := HCL.out w1 b1
      have HC2 := hide C2
      have HB1 := hide b1
      clear C2 b1
      go_wp2_with fail
      refine HC2.out.mono ?_
      rintro e w2 ⟨rfl, b2⟩
      have HF := hide (HB1.out.trans (b2.mono HB1.out.size))
      clear b2
      go_wp2
      go_ret
      exact ⟨rfl, HF.out⟩
    · have hd : decide ((60 : Int) < (key.size : Int)) = false := decide_eq_false (by omega)
      clear hk60
      go_enter Tryz.func3, Tryz.ntmps3
      go_wp2_with fail
      refine HAW.out.mono ?_
      rintro e w1 ⟨rfl, b1⟩
      have C2 := HCL.out w1 b1
      have HC2 := hide C2
      have HB1 := hide b1
      clear C2 b1
      go_wp2_with fail
      refine HC2.out.mono ?_
      rintro e w2 ⟨rfl, b2⟩
      have HB2 := hide (HB1.out.trans (b2.mono HB1.out.size))
      clear b2 HC2 HB1
      go_wp2_with fail
      refine (tstore_any w2).mono ?_
      rintro e w3 ⟨s, O3, rfl, t3⟩
      have B3 : Below w.heap.size w w3 := HB2.out.trans (t3.bel.mono HB2.out.size)
      have rd3 := HX.out.rd.below B3
      simp only at rd3
      have C4 := tBuild_any t3 a c es rd3 HX.out.nil (by have := HN.out; omega) HX.out.sz (by have := HN.out; omega) (by have := HN.out; simp; omega)
      rw [← HN.out] at C4
      have HC4 := hide C4
      have HB3 := hide B3
      have HLO := hide t3.lo
      have hs2 := HB2.out.size
      have hs3 := t3.bel.size
      clear C4 t3 B3 rd3
      go_wp2_with fail
      refine HC4.out.mono ?_
      rintro e w4 hb4
      by_cases hr : rightE es = 0
      · obtain ⟨id, O4, T4, rfl, p1, p2, p2', p3, p4, p5, p6⟩ := hb4.good hr
        have hok := rightE_map hr
        have B4 : Below w.heap.size w w4 := Below.onl HB3.out p6 (fun i q => by have := HLO.out i q; omega) (Nat.le_refl _)
        have hT4 : T4.length ≤ 16000 := by have := HN.out; simp only [List.length_nil] at p3; omega
        obtain ⟨ls, q1, q2, q3, q4⟩ := p1.tree hok (by have := HN.out; omega) hT4
        have CR := rright_any w4 a c es (HX.out.rd.below B4) (by have := HN.out; omega) HX.out.sz
        unfold RrP at CR
        rw [hr, ← HN.out] at CR
        have HP4 := hide p4
        have HTX := hide (p2' (fun t ht => by simp at ht))
        have HQ := hide (And.intro q1 (And.intro q2 q3))
        have HT4 := hide hT4
        have HOK := hide hok
        have HB4 := hide B4
        have HCR := hide CR
        have hidn : ((id : Int) == 0) = ((n : Int) == 0) := by
          have hq := q4
          by_cases z : id = 0
          · have z2 : n = 0 := by rw [HN.out, hq.1 z]; rfl
            simp [z, z2]
          · have z2 : n ≠ 0 := fun q => z (hq.2 (List.eq_nil_of_length_eq_zero (by rw [← HN.out]; exact q)))
            have h1 : ((id : Int) == 0) = false := by rw [beq_eq_false_iff_ne]; omega
            have h2 : ((n : Int) == 0) = false := by rw [beq_eq_false_iff_ne]; omega
            rw [h1, h2]
        clear CR p1 p2 p2' p3 p4 p5 p6 q1 q2 q3 q4 hr hok hT4 B4 HC4
        go_wp2_with fail
        refine HCR.out.mono ?_
        rintro e w5 ⟨rfl, b5⟩
        obtain ⟨q1, q2, q3⟩ := HQ.out
        have B5 := HB4.out.trans (b5.mono HB4.out.size)
        have CT := ttell_any (HP4.out.below b5) HT4.out HTX.out id ls q1 (by rw [q2]; exact riseE_iff.2 HOK.out.rise) q3 (by rw [q2]; have := HN.out; omega) a c (by rw [q2]; exact HX.out.rd.below B5) key
        rw [q2, ← HN.out] at CT
        have HCT := hide CT
        have HB5 := hide B5
        clear CT q1 q2 q3 b5 B5 HQ HCR HP4
        go_wp2_with fail
        refine HCT.out.mono ?_
        rintro e w6 ⟨rfl, b6⟩
        have HF := hide (HB5.out.trans (b6.mono HB5.out.size))
        clear b6
        cases hz : ((n : Int) == 0)
        all_goals
          rw [hz] at hidn
          go_wp2
          go_ret
          exact ⟨rfl, HF.out⟩
      · rcases hb4 with ⟨_, rfl, b4⟩ | ⟨q, _⟩
        · have B4 := HB3.out.trans (b4.mono (by omega))
          have CR := rright_any w4 a c es (HX.out.rd.below B4) (by have := HN.out; omega) HX.out.sz
          unfold RrP at CR
          rw [← HN.out] at CR
          obtain ⟨er, her⟩ : ∃ er, er = rightE es := ⟨_, rfl⟩
          rw [← her] at CR hr ⊢
          have HCR := hide CR
          have HB4 := hide B4
          have h1 : (er != 0) = true := by simpa using hr
          have h2 : (er != er) = false := by simp
          have h3 : (er == er) = true := by simp
          clear CR B4 b4 her hr HC4
          go_wp2_with fail
          refine HCR.out.mono ?_
          rintro e w5 ⟨rfl, b5⟩
          have HF := hide (HB4.out.trans (b5.mono HB4.out.size))
          clear b5
          go_wp2
          go_ret
          exact ⟨rfl, HF.out⟩
        · exact absurd q hr
end Go.Proofs.YtlfmllkhbeagbaaGreat
