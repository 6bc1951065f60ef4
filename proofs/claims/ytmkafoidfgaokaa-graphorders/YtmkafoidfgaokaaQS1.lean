/- cmp.Less at 64-bit numbers, over the translation. One round of pdqsort, over letters. Plain. A row of 64-bit numbers that is sorted in place: its cells, a swap. No Go text is named here but the element's type. slices.reverseRangeOrdered at 64-bit numbers, over the translation. slices.insertionSortOrdered at 64-bit numbers, over the translation. -/
import Derived.Sort.AssemblyPlain
import Derived.Sort.Walk13a
import Derived.Handy
import Derived.BigRegion
import Derived.BigQuiet
import Derived.Test.YtmkafoidfgaokaaQA1
namespace Go.Proofs.Ytmkafoidfgaokaa
open Go.RowKit Apo
set_option maxRecDepth 100000 in
theorem cnan_any (w : World) (a : Int) : Calls Try.prog 87 #[.int .u64 a] w fun e w' => e = .returned (.bool false) ∧ w = w' := by
  have h : (a != a) = false := by simp
  go_enter Try.func87, Try.ntmps87
  go_wp2
  go_ret
  exact ⟨rfl, rfl⟩
set_option maxRecDepth 100000 in
theorem less_any (w : World) (a b : Int) : Calls Try.prog 77 #[.int .u64 a, .int .u64 b] w fun e w' => e = .returned (.bool (decide (a < b))) ∧ w = w' := by
  have C := cnan_any w a
  cases q : decide (a < b)
  all_goals
    go_enter Try.func77, Try.ntmps77
    go_wp2_with fail
    refine C.mono ?_
    rintro e wx ⟨rfl, rfl⟩
    go_wp2
    go_ret
    exact ⟨rfl, rfl⟩
end Go.Proofs.Ytmkafoidfgaokaa
namespace Go.Proofs.Ytmkafoidfgaokaa
/-- the round's values, each a letter: what is known of them -/
structure RdF (e : Array Int) (a b lim : Nat) (wb wp : Bool) (R : Array Int) (D1 : Array Int) (lm c1 : Nat) (c2 : Sort.Hint) (D2 : Array Int) (pv : Nat) (hint : Sort.Hint) (D3 : Array Int) (pd : Bool) : Prop where
  d1F : wb = false → D1 = Sort.breakPatterns e a b ∧ lm = lim - 1
  d1T : wb = true → D1 = e ∧ lm = lim
  ch : Sort.choosePivot Sort.ltInt D1 a b = (c1, c2)
  dec : c2 = .decreasing → D2 = Sort.reverseRange D1 a b ∧ pv = (b - 1) - (c1 - a) ∧ hint = .increasing
  ndec : c2 ≠ .decreasing → D2 = D1 ∧ pv = c1 ∧ hint = c2
  yes : (wb && wp && decide (hint = .increasing)) = true → Sort.partialInsertionSort Sort.ltInt D2 a b = (D3, pd)
  no : (wb && wp && decide (hint = .increasing)) = false → D3 = D2 ∧ pd = false
  s1 : D1.size = e.size
  s2 : D2.size = e.size
  s3 : D3.size = e.size
  rc : a ≤ c1 ∧ c1 < b
  rp : a ≤ pv ∧ pv < b
  lle : lm ≤ lim
  done : pd = true → R = D3
  eq : pd = false → (decide (a > 0) && !Sort.ltInt D3[a - 1]! D3[pv]!) = true → ∀ mid d4, Sort.partitionEqual Sort.ltInt D3 a b pv = (mid, d4) →
    a < mid ∧ mid ≤ b ∧ d4.size = e.size ∧ Sort.Below Sort.ltInt mid b d4 ∧ Sort.pdq Sort.ltInt d4 mid b lm wb wp = R
  part : pd = false → (decide (a > 0) && !Sort.ltInt D3[a - 1]! D3[pv]!) = false → ∀ mid ap d4, Sort.partition Sort.ltInt D3 a b pv = (mid, ap, d4) →
    a ≤ mid ∧ mid < b ∧ d4.size = e.size ∧ Sort.Below Sort.ltInt a mid d4 ∧ Sort.Below Sort.ltInt (mid + 1) b d4 ∧
    (mid - a < b - mid → ∃ d5, d5 = Sort.pdq Sort.ltInt d4 a mid lm true true ∧ d5.size = e.size ∧ Sort.Below Sort.ltInt (mid + 1) b d5 ∧ Sort.pdq Sort.ltInt d5 (mid + 1) b lm (decide (mid - a ≥ (b - a) / 8)) ap = R) ∧
    (¬ mid - a < b - mid → ∃ d5, d5 = Sort.pdq Sort.ltInt d4 (mid + 1) b lm true true ∧ d5.size = e.size ∧ Sort.Below Sort.ltInt a mid d5 ∧ Sort.pdq Sort.ltInt d5 a mid lm (decide (b - mid ≥ (b - a) / 8)) ap = R)
theorem rd_all {e : Array Int} {a b lim : Nat} (wb wp : Bool) {R : Array Int} (h12 : ¬ b - a ≤ 12) (h0 : ¬ lim = 0) (hb : b ≤ e.size) (hB : Sort.Below Sort.ltInt a b e) (hR : Sort.pdq Sort.ltInt e a b lim wb wp = R) :
    ∃ D1 lm c1 c2 D2 pv hint D3 pd, RdF e a b lim wb wp R D1 lm c1 c2 D2 pv hint D3 pd := by
  obtain ⟨s1, B1, hc1, s2, B2, hpv, s3, B3⟩ := Sort.rd_facts (limit := lim) (wb := wb) (wp := wp) Sort.swo_ltInt Sort.partialInsertionSort_holds Sort.reverseRange_holds (show a < b by omega) hb hB
  refine ⟨(Sort.rd Sort.ltInt e a b lim wb wp).d1, (Sort.rd Sort.ltInt e a b lim wb wp).lim, (Sort.rd Sort.ltInt e a b lim wb wp).c.1, (Sort.rd Sort.ltInt e a b lim wb wp).c.2, (Sort.rd Sort.ltInt e a b lim wb wp).d2, (Sort.rd Sort.ltInt e a b lim wb wp).pivot, (Sort.rd Sort.ltInt e a b lim wb wp).hint, (Sort.rd Sort.ltInt e a b lim wb wp).pi.1, (Sort.rd Sort.ltInt e a b lim wb wp).pi.2, ?_⟩
  constructor
  · intro q; subst q; exact Sort.rd_false
  · intro q; subst q; exact Sort.rd_true
  · exact Sort.rd_c.symm
  · exact fun q => Sort.rd_dec q
  · exact fun q => Sort.rd_not q
  · exact fun q => (Sort.rd_pi_yes q).symm
  · intro q
    rw [Sort.rd_pi_no q]
    exact ⟨rfl, rfl⟩
  · exact s1
  · exact s2
  · exact s3
  · exact hc1
  · exact hpv
  · exact Sort.rd_lim_le
  · intro q
    rw [← hR, Sort.pdq_done h12 h0 q]
  · intro hp h87 mid d4 hx
    have h87' := h87
    simp only [Bool.and_eq_true, decide_eq_true_eq, Bool.not_eq_true'] at h87'
    obtain ⟨r1, r2, r3, r4, _⟩ := Sort.round_eq Sort.swo_ltInt (Sort.partitionEqual_holds Sort.ltInt) h87'.1 hpv.1 hpv.2 (show b ≤ (Sort.rd Sort.ltInt e a b lim wb wp).pi.1.size by omega) B3 h87'.2 hx
    refine ⟨r1, r2, by omega, r4, ?_⟩
    rw [← hR, Sort.pdq_eq h12 h0 hp h87 (by rw [hx]; exact ⟨r1, r2⟩), hx]
  · intro hp h87 mid ap d4 hx
    obtain ⟨r1, r2, r3, r4, r5, r6, r7⟩ := Sort.round_part Sort.swo_ltInt (Sort.partition_holds Sort.ltInt) hpv.1 hpv.2 (show b ≤ (Sort.rd Sort.ltInt e a b lim wb wp).pi.1.size by omega) B3 hx
    refine ⟨r1, r2, by omega, r4, r5, fun h4 => ?_, fun h4 => ?_⟩
    · obtain ⟨pL, sL⟩ := Sort.pdq_sorts Sort.ltInt Sort.swo_ltInt d4 a mid (Sort.rd Sort.ltInt e a b lim wb wp).lim true true (by omega) (by omega) r4
      refine ⟨_, rfl, by rw [pL.1]; omega, (r6 _ pL sL).1, ?_⟩
      rw [← hR, Sort.pdq_left h12 h0 hp h87 (by rw [hx]; exact ⟨r1, r2⟩) (by rw [hx]; exact h4), hx]
    · obtain ⟨pL, sL⟩ := Sort.pdq_sorts Sort.ltInt Sort.swo_ltInt d4 (mid + 1) b (Sort.rd Sort.ltInt e a b lim wb wp).lim true true (by omega) (by omega) r5
      refine ⟨_, rfl, by rw [pL.1]; omega, (r7 _ pL sL).1, ?_⟩
      rw [← hR, Sort.pdq_right h12 h0 hp h87 (by rw [hx]; exact ⟨r1, r2⟩) (by rw [hx]; exact h4), hx]
end Go.Proofs.Ytmkafoidfgaokaa
namespace Go.Proofs.Ytmkafoidfgaokaa
open Go.RowKit Apo
def uc (d : Array Int) : List Value := d.toList.map (Value.int .u64)
theorem uc_len (d : Array Int) : (uc d).length = d.size := by simp [uc]
/-- block g holds the numbers d, and what is behind them -/
def Ro (w : World) (g : Nat) (d : Array Int) (ex : List Value) : Prop := Ob w g 23 (uc d ++ ex)
section
variable {w w' : World} {g : Nat} {d : Array Int} {ex : List Value}
theorem Ro.cell (h : Ro w g d ex) {i : Nat} (hi : i < d.size) : w.cell? ⟨g, i, none⟩ = some (.int .u64 d[i]!) := by
  have hc := Ob.cell h i
  rw [hc, List.getElem?_append_left (by rw [uc_len]; exact hi)]
  simp [uc, hi]
theorem Ro.frozen (h : Ro w g d ex) (i : Nat) : w.frozen? ⟨g, i, none⟩ = false := Ob.frozen h i
theorem Ro.lt (h : Ro w g d ex) : g < w.heap.size := Ob.lt h
theorem Ro.old (h : Ro w g d ex) (b : Below w.heap.size w w') : Ro w' g d ex := Ob.old h b
theorem Ro.drew (h : Ro w g d ex) : Ro w.drew g d ex := h.old (Below.refl _ _).drew
theorem Ro.set (h : Ro w g d ex) {i : Nat} (hi : i < d.size) (z : Int) : Ro (w.setCell ⟨g, i, none⟩ (.int .u64 z)) g (d.setIfInBounds i z) ex := by
  have k := Ob.set h i (.int .u64 z)
  unfold Ro
  have e : (uc d ++ ex).set i (.int .u64 z) = uc (d.setIfInBounds i z) ++ ex := by
    rw [List.set_append_left _ _ (by rw [uc_len]; exact hi)]
    simp [uc, List.map_set]
  rw [← e]
  exact k
/-- 'data[i], data[j] = data[j], data[i]' -/
theorem Ro.swp (h : Ro w g d ex) {i j : Nat} (hi : i < d.size) (hj : j < d.size) : Ro ((w.setCell ⟨g, i, none⟩ (.int .u64 d[j]!)).setCell ⟨g, j, none⟩ (.int .u64 d[i]!)) g (Sort.swp d i j) ex := (h.set hi _).set (by simpa using hj) _
end
theorem swp_size (d : Array Int) (i j : Nat) : (Sort.swp d i j).size = d.size := by simp [Sort.swp]
theorem grew_drew (w : World) (row : Option Nat) : w.grownBy w.drew row := grew_below row (Below.refl _ _).drew
theorem grew_drewN (w : World) (n : Nat) (row : Option Nat) : w.grownBy (w.drewN n) row := grew_below row (below_drewN (Below.refl _ _) n)
theorem grew_sets (w : World) (g i j : Nat) (u v : Value) : w.grownBy ((w.setCell ⟨g, i, none⟩ u).setCell ⟨g, j, none⟩ v) (some g) := grew_trans (grew_set w g i u) (grew_set _ g j v)
theorem set_get (d : Array Int) {i j : Nat} (hj : j < d.size) : (d.setIfInBounds i d[j]!)[j]! = d[j]! := by
  by_cases h : i = j
  · subst h; simp [hj]
  · simp [hj, h]
/-- all that a walk asks of a swap in a region that draws -/
structure SwF (w : World) (g : Nat) (e : Array Int) (ex : List Value) (i j : Nat) (x y : Int) : Prop where
  ci : w.cell? ⟨g, i, none⟩ = some (.int .u64 x)
  cj : w.cell? ⟨g, j, none⟩ = some (.int .u64 y)
  fi : w.frozen? ⟨g, i, none⟩ = false
  cj2 : (w.setCell ⟨g, i, none⟩ (.int .u64 y)).drew.cell? ⟨g, j, none⟩ = some (.int .u64 y)
  fj2 : (w.setCell ⟨g, i, none⟩ (.int .u64 y)).drew.frozen? ⟨g, j, none⟩ = false
  ro : Ro ((w.setCell ⟨g, i, none⟩ (.int .u64 y)).setCell ⟨g, j, none⟩ (.int .u64 x)).drew g (Sort.swp e i j) ex
  gr : w.grownBy ((w.setCell ⟨g, i, none⟩ (.int .u64 y)).setCell ⟨g, j, none⟩ (.int .u64 x)).drew (some g)
theorem Ro.sw {w : World} {g : Nat} {e : Array Int} {ex : List Value} (h : Ro w g e ex) {i j : Nat} (hi : i < e.size) (hj : j < e.size) : ∃ x y, SwF w g e ex i j x y := by
  have h1 := h.set hi e[j]!
  have cj2 := h1.drew.cell (i := j) (by simpa using hj)
  rw [set_get e hj] at cj2
  exact ⟨e[i]!, e[j]!, h.cell hi, h.cell hj, h.frozen i, cj2, h1.drew.frozen j, (h.swp hi hj).drew, grew_trans (grew_sets w g i j _ _) (grew_drew _ (some g))⟩
end Go.Proofs.Ytmkafoidfgaokaa
namespace Go.Proofs.Ytmkafoidfgaokaa
open Go.RowKit Apo
/-- what a step of a sort tells: the row is d' now -/
def UsP (w : World) (g : Nat) (d' : Array Int) (ex : List Value) (e : Ending) (w' : World) : Prop := e = .returned (.tuple #[]) ∧ Ro w' g d' ex ∧ w.grownBy w' (some g)
theorem reverse_step {i j : Nat} (h : i < j) (d : Array Int) : Sort.reverseLoop i j d = Sort.reverseLoop (i + 1) (j - 1) (Sort.swp d i j) := by
  rw [Sort.reverseLoop, if_pos h]
theorem reverse_end {i j : Nat} (h : ¬ i < j) (d : Array Int) : Sort.reverseLoop i j d = d := by
  rw [Sort.reverseLoop, if_neg h]
set_option maxRecDepth 100000 in
set_option maxHeartbeats 2000000 in
theorem urev_any (w : World) (g cap : Nat) (d : Array Int) (ex : List Value) (h : Ro w g d ex) (a b : Nat) (hab : a < b) (hb : b ≤ d.size) (hn : d.size ≤ 1000000000) :
    Calls Try.prog 75 #[.slice (some ⟨g, 0, none⟩) d.size cap, .int .i64 a, .int .i64 b] w (UsP w g (Sort.reverseRange d a b) ex) := by
  obtain ⟨n, hnn⟩ : ∃ n, n = d.size := ⟨_, rfl⟩
  obtain ⟨R, hR⟩ : ∃ R, R = Sort.reverseRange d a b := ⟨_, rfl⟩
  rw [← hR]
  rw [← hnn] at hb hn ⊢
  have HR : Hid (Sort.reverseLoop a (b - 1) d = R) := hide (by rw [hR]; rfl)
  have HH := hide h
  have HN := hide hnn
  clear h hR hnn
  go_enter Try.func75, Try.ntmps75
  go_wp2
  go_loopw [6, 7] (fun vi vj wr => ∃ (i j : Nat) (e : Array Int), i ≤ n ∧ j < n ∧ vi = .int .i64 i ∧ vj = .int .i64 j ∧ Hid (e.size = n) ∧ Hid (Sort.reverseLoop i j e = R) ∧ Hid (Ro wr g e ex) ∧ Hid (w.grownBy wr (some g))) (fun vi vj _ => (intOf vj).toNat - (intOf vi).toNat)
  case atStart => exact ⟨a, b - 1, d, by omega, by omega, rfl, by simp; omega, hide HN.out.symm, HR, HH, hide (World.grownBy.refl _ _)⟩
  case round =>
    obtain ⟨i, j, e, hi, hj, rfl, rfl, HS, HL, HO, HG⟩ := hrel
    by_cases hij : i < j
    · have hes := HS.out
      obtain ⟨x, y, F⟩ := HO.out.sw (i := i) (j := j) (by omega) (by omega)
      obtain ⟨ci, cj, fi, cj2, fj2, ro, gr⟩ := F
      have HO2 := hide ro
      have hin : i < n := by omega
      have HS2 : Hid ((Sort.swp e i j).size = n) := hide (by rw [swp_size]; exact hes)
      have HL2 : Hid (Sort.reverseLoop (i + 1) (j - 1) (Sort.swp e i j) = R) := hide (by rw [← reverse_step hij]; exact HL.out)
      have HG2 := hide (grew_trans HG.out gr)
      have e1 : ((j : Nat) : Int) - 1 = ((j - 1 : Nat) : Int) := by omega
      clear ro gr hes
      go_wp2
      go_region
      go_wp2
      go_roundw
      case rel => exact ⟨i + 1, j - 1, Sort.swp e i j, by omega, by omega, by simp, by simp, HS2, HL2, HO2, HG2⟩
      case measure => simp [intOf]; omega
    · have HE : Hid (e = R) := hide (by rw [← HL.out, reverse_end hij])
      go_wp2
      go_returns
      exact ⟨rfl, by rw [← HE.out]; exact HO.out, HG.out⟩
end Go.Proofs.Ytmkafoidfgaokaa
namespace Go.Proofs.Ytmkafoidfgaokaa
open Go.RowKit Apo
abbrev lti : Int → Int → Bool := Sort.ltInt
theorem ins_stop {a j : Nat} {e : Array Int} (h : ¬ (j > a) ∨ lti e[j]! e[j - 1]! = false) : Sort.insInner lti a j e = e := by
  cases j with
  | zero => rfl
  | succ j =>
    rw [Sort.insInner, if_neg]
    rcases h with h | h
    · simp; intro q; omega
    · simp only [Nat.add_sub_cancel] at h
      simp [h]
theorem ins_step {a j : Nat} {e : Array Int} (h : j > a) (h2 : lti e[j]! e[j - 1]! = true) : Sort.insInner lti a j e = Sort.insInner lti a (j - 1) (Sort.swp e j (j - 1)) := by
  cases j with
  | zero => omega
  | succ j =>
    simp only [Nat.add_sub_cancel] at h2 ⊢
    rw [Sort.insInner, if_pos (by simp [h2]; omega)]
theorem ins_out {a b i : Nat} (h : i < b) (e : Array Int) : Sort.insOuter lti a b i e = Sort.insOuter lti a b (i + 1) (Sort.insInner lti a i e) := by
  rw [Sort.insOuter, if_pos h]
theorem ins_endU {a b i : Nat} (h : ¬ i < b) (e : Array Int) : Sort.insOuter lti a b i e = e := by
  rw [Sort.insOuter, if_neg h]
set_option maxRecDepth 100000 in
set_option maxHeartbeats 800000 in
theorem uins_any (w : World) (g cap : Nat) (d : Array Int) (ex : List Value) (h : Ro w g d ex) (a b : Nat) (hab : a ≤ b) (hb : b ≤ d.size) (hn : d.size ≤ 1000000000) :
    Calls Try.prog 71 #[.slice (some ⟨g, 0, none⟩) d.size cap, .int .i64 a, .int .i64 b] w (UsP w g (Sort.insertionSort lti d a b) ex) := by
  obtain ⟨n, hnn⟩ : ∃ n, n = d.size := ⟨_, rfl⟩
  obtain ⟨R, hR⟩ : ∃ R, R = Sort.insertionSort lti d a b := ⟨_, rfl⟩
  rw [← hR]
  rw [← hnn] at hb hn ⊢
  have HR : Hid (Sort.insOuter lti a b (a + 1) d = R) := hide (by rw [hR]; rfl)
  have HH := hide h
  have HN := hide hnn
  clear h hR hnn
  go_enter Try.func71, Try.ntmps71
  go_wp2
  go_loopw [6] (fun vi wr => ∃ (i : Nat) (e : Array Int), i ≤ b + 1 ∧ a < i ∧ vi = .int .i64 i ∧ Hid (e.size = n) ∧ Hid (Sort.insOuter lti a b i e = R) ∧ Hid (Ro wr g e ex) ∧ Hid (w.grownBy wr (some g))) (fun vi _ => b - (intOf vi).toNat)
  case atStart => exact ⟨a + 1, d, by omega, by omega, by simp, hide HN.out.symm, HR, HH, hide (World.grownBy.refl _ _)⟩
  case round =>
    obtain ⟨i, e, hi, hai, rfl, HS, HL, HO, HG⟩ := hrel
    by_cases hib : i < b
    · have HL2 : Hid (Sort.insOuter lti a b (i + 1) (Sort.insInner lti a i e) = R) := hide (by rw [← ins_out hib]; exact HL.out)
      go_wp2
      go_loopw [7] (fun vj wr => ∃ (j : Nat) (e : Array Int), j ≤ i ∧ vj = .int .i64 j ∧ Hid (e.size = n) ∧ Hid (Sort.insOuter lti a b (i + 1) (Sort.insInner lti a j e) = R) ∧ Hid (Ro wr g e ex) ∧ Hid (w.grownBy wr (some g))) (fun vj _ => (intOf vj).toNat)
      case atStart => exact ⟨i, e, Nat.le_refl _, rfl, HS, HL2, HO, HG⟩
      case round =>
        clear HS HL HO HG HL2
        obtain ⟨j, e, hj, rfl, HS, HL, HO, HG⟩ := hrel
        have hes := HS.out
        by_cases hja : a < j
        · have d1 : decide ((a : Int) < (j : Int)) = true := by simp; omega
          have d2 : decide (a < j) = true := by simp; omega
          obtain ⟨x, y, F⟩ := HO.out.sw (i := j) (j := j - 1) (by omega) (by omega)
          have hx : x = e[j]! := by have h1 := F.ci; have h2 := HO.out.cell (i := j) (by omega); rw [h1] at h2; injection h2 with h2; injection h2
          have hy : y = e[j - 1]! := by have h1 := F.cj; have h2 := HO.out.cell (i := j - 1) (by omega); rw [h1] at h2; injection h2 with h2; injection h2
          obtain ⟨ci, cj, fi, cj2, fj2, ro, gr⟩ := F
          obtain ⟨j1, hj1⟩ : ∃ j1, j1 = j - 1 := ⟨_, rfl⟩
          have hw1 : IntKind.i64.wrap ((j : Int) - 1) = (j1 : Int) := by rw [IntKind.wrap_i64]; omega
          have hw2 : (j : Int) - 1 = (j1 : Int) := by omega
          rw [← hj1] at cj cj2 fj2 ro gr hy
          have hjn : j < n := by omega
          have hj1n : j1 < n := by omega
          have hcl := fun W => less_any W x y
          cases hlt : decide (x < y)
          · rw [hlt] at hcl
            have HE : Hid (Sort.insOuter lti a b (i + 1) e = R) := hide (by
              rw [← HL.out, ins_stop (a := a) (j := j) (.inr ?_)]
              rw [← hj1, ← hx, ← hy]
              exact hlt)
            have HCL := hide hcl
            clear hcl hlt ro gr hx hy hes hj1
            go_wp2
            go_quiet (first | (go_at_call 77; with_reducible exact (HCL.out _).mono (fun _ _ h => ⟨h.1, _, h.2.symm⟩)))
            go_wp2
            go_roundw
            case rel => exact ⟨i + 1, e, by omega, by omega, by simp, HS, HE, hide (HO.out.old (below_drewN (Below.refl _ _) _)), hide (grew_trans HG.out (grew_drewN _ _ _))⟩
            case measure => simp [intOf]; omega
          · rw [hlt] at hcl
            have HE : Hid (Sort.insOuter lti a b (i + 1) (Sort.insInner lti a j1 (Sort.swp e j j1)) = R) := hide (by
              rw [← HL.out, ins_step (a := a) (j := j) hja ?_, ← hj1]
              rw [← hj1, ← hx, ← hy]
              exact hlt)
            have HCL := hide hcl
            have HS2 : Hid ((Sort.swp e j j1).size = n) := hide (by rw [swp_size]; exact hes)
            clear hcl hlt ro gr hx hy hj1 fi cj2 fj2
            go_wp2
            go_quiet (first | (go_at_call 77; with_reducible exact (HCL.out _).mono (fun _ _ h => ⟨h.1, _, h.2.symm⟩)))
            clear ci cj
            obtain ⟨W2, hW2⟩ : ∃ W2, W2 = wr.drewN nq := ⟨_, rfl⟩
            have hG2 : w.grownBy W2 (some g) := by rw [hW2]; exact grew_trans HG.out (grew_drewN wr nq (some g))
            have hO2 : Ro W2 g e ex := by rw [hW2]; exact HO.out.old (below_drewN (Below.refl _ _) nq)
            rw [← hW2]
            clear hW2
            obtain ⟨x', y', F⟩ := hO2.sw (i := j) (j := j1) (by omega) (by omega)
            obtain ⟨ci, cj, fi, cj2, fj2, ro, gr⟩ := F
            have HO2 := hide ro
            have HG2 := hide (grew_trans hG2 gr)
            have hw3 : IntKind.i64.wrap (j1 : Int) = (j1 : Int) := by rw [IntKind.wrap_i64]; omega
            clear ro gr hes hG2 hO2
            go_wp2
            go_region
            go_wp2
            go_roundw
            case rel => exact ⟨j1, Sort.swp e j j1, by omega, by simp, HS2, HE, HO2, HG2⟩
            case measure => simp [intOf]; omega
        · have d1 : decide ((a : Int) < (j : Int)) = false := by simp; omega
          have d2 : decide (a < j) = false := by simp; omega
          have HE : Hid (Sort.insOuter lti a b (i + 1) e = R) := hide (by rw [← HL.out, ins_stop (a := a) (j := j) (.inl (by omega))])
          go_wp2
          go_quiet (fail)
          go_wp2
          go_roundw
          case rel => exact ⟨i + 1, e, by omega, by omega, by simp, HS, HE, hide (HO.out.old (below_drewN (Below.refl _ _) _)), hide (grew_trans HG.out (grew_drewN _ _ _))⟩
          case measure => simp [intOf]; omega
    · have HE : Hid (e = R) := hide (by rw [← HL.out, ins_endU hib])
      go_wp2
      go_returns
      exact ⟨rfl, by rw [← HE.out]; exact HO.out, HG.out⟩
end Go.Proofs.Ytmkafoidfgaokaa
