/- The walk of apographlaw02.PackFields: it answers true, over the translation. -/
import Derived.Test.YtilklonjacjgbaaAwk
import Derived.Test.YtilklonjacjgbaaFew
import Derived.Test.YtilklonjacjgbaaROf
import Derived.Test.YtilklonjacjgbaaSameF
import Derived.Test.YtilklonjacjgbaaRPut
import Derived.Deep.RegionLaw
namespace Go.Proofs.Ytilklonjacjgbaa
open Go.RowKit Apo

theorem fcells_at {fs : List Fld} {i : Nat} {f : Fld} (h : fs[i]? = some f) :
    (fcells fs)[i * 4]? = some (.int .i64 f.k) ∧ (fcells fs)[i * 4 + 1]? = some (.int .u64 f.n) ∧ (fcells fs)[i * 4 + 2]? = some (.string f.s) ∧ (fcells fs)[i * 4 + 3]? = some (.bool f.b) := by
  induction fs generalizing i with
  | nil => simp at h
  | cons g fs ih =>
    have e : fcells (g :: fs) = [.int .i64 g.k, .int .u64 g.n, .string g.s, .bool g.b] ++ fcells fs := rfl
    cases i with
    | zero => simp at h; subst h; rw [e]; exact ⟨rfl, rfl, rfl, rfl⟩
    | succ i =>
      have hi := ih (by simpa using h)
      rw [e]
      have step : ∀ c, ([Value.int .i64 g.k, .int .u64 g.n, .string g.s, .bool g.b] ++ fcells fs)[(i + 1) * 4 + c]? = (fcells fs)[i * 4 + c]? := by
        intro c
        rw [List.getElem?_append_right (by simp; omega)]
        congr 1
        simp
        omega
      exact ⟨(step 0).trans hi.1, (step 1).trans hi.2.1, (step 2).trans hi.2.2.1, (step 3).trans hi.2.2.2⟩

theorem rdf_own {w : World} {base : Nat} {v : Value} {n : Nat} {fs : List Fld} (h : w.ownsRow base 38 4 v n (fcells fs)) : ∃ a cap, v = .slice a fs.length cap ∧ RdF w a fs := by
  have hn : fs.length = n := by
    have := h.1
    rw [fcells_length] at this
    omega
  rcases h.2 with ⟨rfl, hz⟩ | ⟨g, cap, cur, rfl, _⟩
  · have : fs = [] := List.eq_nil_of_length_eq_zero (by omega)
    subst this
    exact ⟨none, 0, rfl, RdF.nil _ _⟩
  · refine ⟨_, cap, by rw [hn], fun i f hi => ?_⟩
    have hil := (List.getElem?_eq_some_iff.1 hi).1
    obtain ⟨c0, c1, c2, c3⟩ := fcells_at hi
    refine ⟨g, 0, rfl, ?_, ?_, ?_, ?_⟩
    · rw [Nat.zero_add, h.cellAt _ (by omega)]; exact c0
    · rw [Nat.zero_add, h.cellAt _ (by omega)]; exact c1
    · rw [Nat.zero_add, h.cellAt _ (by omega)]; exact c2
    · rw [Nat.zero_add, h.cellAt _ (by omega)]; exact c3

/-- the error's number -/
def codeOf (r : Option (List Fld)) : Int := if r.isSome then 0 else 20

/-- what the two readings answer, whichever it is -/
def Both (P : World → Value → List Fld → Prop) (r : Option (List Fld)) (e : Ending) (w : World) : Prop :=
  ∃ v fs, P w v fs ∧ fs = r.getD [] ∧ e = .returned (.tuple #[v, .int .i64 (codeOf r)])

def SlF (w : World) (v : Value) (fs : List Fld) : Prop := ∃ a cap, v = .slice a fs.length cap ∧ RdF w a fs ∧ fs.length ≤ 9223372036854775807

theorem SlF.below {w w' : World} {v : Value} {fs : List Fld} (h : SlF w v fs) (hb : Below w.heap.size w w') : SlF w' v fs := by
  obtain ⟨a, cap, e, h, h'⟩ := h
  exact ⟨a, cap, e, h.below hb, h'⟩

theorem slf_own {w : World} {base : Nat} {v : Value} {n : Nat} {fs : List Fld} (h : w.ownsRow base 38 4 v n (fcells fs)) : SlF w v fs := by
  obtain ⟨a, cap, e, hr⟩ := rdf_own h
  refine ⟨a, cap, e, hr, ?_⟩
  have hn : fs.length = n := by
    have := h.1
    rw [fcells_length] at this
    omega
  rcases h.2 with ⟨_, hz⟩ | ⟨g, c, cur, _, _, _, h1, h2, _⟩
  · omega
  · unfold maxLen at h2; omega

theorem sameF_yes (a : Option Addr) (acap : Nat) (l : List Fld) (b : Option Addr) (bcap : Nat) (w : World) (ha : RdF w a l) (hb : RdF w b l) (hl : l.length ≤ 9223372036854775807) :
    Calls Try.prog 13 #[.slice a l.length acap, .slice b l.length bcap] w fun e w' => e = .returned (.bool true) ∧ Below w.heap.size w w' := by
  refine (sameF_any a acap l b bcap l w ha hb hl).mono ?_
  rintro e w' ⟨rfl, h⟩
  exact ⟨by simp, h⟩

theorem both_of {r : Option (List Fld)} {e : Ending} {w : World} {B : Nat} (h1 : ∀ fs, r = some fs → ∃ v, e = .returned (.tuple #[v, .int .i64 0]) ∧ w.ownsRow B 38 4 v fs.length (fcells fs)) (h2 : r = none → e = .returned (.tuple #[.slice none 0 0, .int .i64 20])) : Both SlF r e w := by
  cases r with
  | none => exact ⟨.slice none 0 0, [], ⟨none, 0, rfl, RdF.nil _ _, by simp⟩, rfl, h2 rfl⟩
  | some fs =>
    obtain ⟨v, e1, e2⟩ := h1 fs rfl
    exact ⟨v, fs, slf_own e2, rfl, e1⟩

attribute [local go_sem ↓] Go.wp_at_zero Go.wp_at_succ

set_option maxHeartbeats 4000000 in
theorem fields_any (fa : Option Addr) (fcap : Nat) (fs : List Fld) (a : Option Addr) (cap : Nat) (l : List Int) (ka : Option Addr) (kcap : Nat) (ks : List Int) (w : World) (hf : RdF w fa fs) (hok : ∀ f ∈ fs, OkF f) (hfl : fs.length ≤ 9223372036854775807) (hfs : ∀ f ∈ fs, f.s.size ≤ 9223372036854775807)
    (hr : Rd .u8 w a l) (hcap : l.length ≤ cap) (hn : a = none → cap = 0) (hb : InB l) (hl : l.length ≤ 9223372036854775807) (hk : Rd .i64 w ka ks) (hkl : ks.length ≤ 9223372036854775807) :
    Calls Try.prog 3 #[.slice fa fs.length fcap, .slice a l.length cap, .slice ka ks.length kcap] w fun e w' => e = .returned (.bool true) ∧ Below w.heap.size w w' := by
  have HR := hide hr
  have HF := hide hf
  have HN := hide hn
  have HB := hide hb
  have HO := hide hok
  have HS := hide hfs
  have HK := hide hk
  clear hr hf hn hb hok hfs hk
  by_cases hfew : fewF fs = true
  · by_cases hbig : l.length ≤ 500
    · by_cases hk20 : ks.length ≤ 20
      · have hfew20 : fs.length ≤ 20 := by simp [fewF] at hfew; exact hfew.2
        have hS2 : Hid (∀ f ∈ fs, f.s.size ≤ 1000000) := by
          intro f hf
          simp [fewF] at hfew
          have := hfew.1 f hf
          omega
        go_enter Try.func3, Try.ntmps3
        go_wp2_with fail
        refine (awake_any _).mono ?_
        rintro e w1 ⟨rfl, hb1⟩
        have HC := hide (few_any fa fcap fs w1 (HF.out.below hb1) hfl HS.out)
        rw [hfew] at HC
        go_wp2_with fail
        refine HC.out.mono ?_
        rintro e w2 ⟨rfl, hb2⟩
        have b2 : Below w.heap.size w w2 := hb1.trans (hb2.mono hb1.size)
        have HC2 := hide (pof_any a cap l ka kcap ks w2 (HR.out.below b2) hcap HN.out HB.out (by omega) (HK.out.below b2) (by omega))
        clear HC hb1 hb2
        go_wp2_with fail
        refine HC2.out.mono ?_
        rintro e w3 ⟨h1, h2, b3⟩
        obtain ⟨v3, g3, s3, e3, rfl⟩ := both_of h1 h2
        have b3' : Below w.heap.size w w3 := b2.trans (b3.mono b2.size)
        have HC3 := hide (xof_any a cap l ka kcap ks w3 (HR.out.below b3') hcap HN.out HB.out (by omega) (HK.out.below b3') (by omega))
        clear HC2 h1 h2 b3 b2
        generalize ofF ks (some l) = r at *
        go_wp2_with fail
        refine HC3.out.mono ?_
        rintro e w4 ⟨h1, h2, b4⟩
        obtain ⟨v4, g4, s4, e4, rfl⟩ := both_of h1 h2
        have b4' : Below w.heap.size w w4 := b3'.trans (b4.mono b3'.size)
        have s3' := s3.below b4
        have hg : g3 = g4 := e3.trans e4.symm
        subst hg
        obtain ⟨a3, c3, rfl, q3, hgl⟩ := s3'
        obtain ⟨a4, c4, rfl, q4, _⟩ := s4
        have Q3 := hide q3
        have Q4 := hide q4
        have hbd : Below w.heap.size w w4.drew := b4'.drew
        have hb4d : Below w4.heap.size w4 w4.drew := (Below.refl _ _).drew
        clear HC3 h1 h2 b4 s3 e3 e4 q3 q4 b3'
        generalize codeOf r = code at *
        go_wp2
        go_region_law (go_simp; first
          | (go_at_call 11; refine (pput_any fa fcap fs w4.drew (HF.out.below hbd) HO.out (by omega) hS2.out).mono ?_; rintro e w5 ⟨v5, rfl, o5, hb5⟩; have cv5 := conv_own o5; have hb55 := Below.refl w5.heap.size w5; have b5 : Below w4.heap.size w4 w5 := hb4d.trans hb5; have bw5 : Below w.heap.size w w5 := b4'.trans (b5.mono b4'.size); clear o5 hb5)
          | (go_at_call 12; refine (xput_any fa fcap fs w5 (HF.out.below bw5) HO.out (by omega) hS2.out).mono ?_; rintro e w6 ⟨v6, rfl, o6, hb6⟩; have cv6 := conv_own o6; have hb66 := Below.refl w6.heap.size w6; have b6 : Below w4.heap.size w4 w6 := b5.trans (hb6.mono b5.size); have bw6 : Below w.heap.size w w6 := b4'.trans (b6.mono b4'.size); clear o6)
          | (go_at_call 13; refine (sameF_yes a3 c3 g3 a4 c4 w6 (Q3.out.below b6) (Q4.out.below b6) hgl).mono ?_; rintro e w7 ⟨rfl, hb7⟩; have bw7 : Below w.heap.size w w7 := bw6.trans (hb7.mono bw6.size); clear hb7))
        all_goals
          go_wp2
          go_ret
          refine ⟨?_, by assumption⟩
          simp [Act.put]
      · go_enter Try.func3, Try.ntmps3
        go_wp2_with fail
        refine (awake_any _).mono ?_
        rintro e w1 ⟨rfl, hb1⟩
        have HC := hide (few_any fa fcap fs w1 (HF.out.below hb1) hfl HS.out)
        rw [hfew] at HC
        go_wp2_with fail
        refine HC.out.mono ?_
        rintro e w2 ⟨rfl, hb2⟩
        have b2 : Below w.heap.size w w2 := hb1.trans (hb2.mono hb1.size)
        clear HC hb1 hb2
        go_wp2
        go_ret
        exact ⟨rfl, b2⟩
    · go_enter Try.func3, Try.ntmps3
      go_wp2_with fail
      refine (awake_any _).mono ?_
      rintro e w1 ⟨rfl, hb1⟩
      have HC := hide (few_any fa fcap fs w1 (HF.out.below hb1) hfl HS.out)
      rw [hfew] at HC
      go_wp2_with fail
      refine HC.out.mono ?_
      rintro e w2 ⟨rfl, hb2⟩
      have b2 : Below w.heap.size w w2 := hb1.trans (hb2.mono hb1.size)
      clear HC hb1 hb2
      go_wp2
      go_ret
      exact ⟨rfl, b2⟩
  · have hfew : fewF fs = false := by simpa using hfew
    go_enter Try.func3, Try.ntmps3
    go_wp2_with fail
    refine (awake_any _).mono ?_
    rintro e w1 ⟨rfl, hb1⟩
    have HC := hide (few_any fa fcap fs w1 (HF.out.below hb1) hfl HS.out)
    rw [hfew] at HC
    go_wp2_with fail
    refine HC.out.mono ?_
    rintro e w2 ⟨rfl, hb2⟩
    have b2 : Below w.heap.size w w2 := hb1.trans (hb2.mono hb1.size)
    clear HC hb1 hb2
    go_wp2
    go_ret
    exact ⟨rfl, b2⟩
end Go.Proofs.Ytilklonjacjgbaa
