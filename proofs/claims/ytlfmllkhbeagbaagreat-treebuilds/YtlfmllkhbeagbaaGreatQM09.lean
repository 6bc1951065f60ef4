/- extent's small functions: end, between, and what a wanted span asks of a row. Over the translation. slices.IndexFunc and find: the place of the first row that is such a one. Over the translation. -/
import Derived.Deep.RegionHeld3
import Derived.Test.YtlfmllkhbeagbaaGreatQM00
import Derived.Test.YtlfmllkhbeagbaaGreatQM02
import Derived.Test.YtlfmllkhbeagbaaGreatQM03
namespace Go.Proofs.YtlfmllkhbeagbaaGreat
open Go.RowKit Apo

set_option maxRecDepth 100000 in
theorem end_any {a k T : Int} (hT : IntKind.i64.wrap (a + k) = T) (w : World) : Calls Tryz.prog 199 #[.agg #[.int .i64 a, .int .i64 k]] w fun e w' => e = .returned (.int .i64 T) ∧ Below w.heap.size w w' := by
  have HB := hide ((Below.refl w.heap.size w).alloc (Nat.le_refl _) (.cells #[.int .i64 a, .int .i64 k] 132))
  go_enter Tryz.func199, Tryz.ntmps199
  go_wp2
  go_ret
  exact ⟨rfl, HB.out⟩
set_option maxRecDepth 100000 in
theorem between_any {a b T : Int} (hT : IntKind.i64.wrap (b - a) = T) (w : World) : Calls Tryz.prog 132 #[.int .i64 a, .int .i64 b] w fun e w' => e = .returned (.agg #[.int .i64 a, .int .i64 T]) ∧ Below w.heap.size w w' := by
  have HB := hide ((Below.refl w.heap.size w).alloc (Nat.le_refl _) (.cells #[.int .i64 a, .int .i64 T] 132))
  go_enter Tryz.func132, Tryz.ntmps132
  go_wp2
  refine bodyPost_ret (by simp [results, Tryz.results132, go_sem]; rfl) rfl ?_
  exact ⟨rfl, HB.out⟩
/-- bounds of a row -/
def XOk (x : Nat × Nat) : Prop := x.1 ≤ 16384 ∧ x.2 ≤ 16384
set_option maxRecDepth 100000 in
theorem below2 (w : World) (o1 o2 : Obj) : Below w.heap.size w ((w.alloc o1).alloc o2) := ((Below.refl w.heap.size w).alloc (Nat.le_refl _) o1).alloc (by simp) o2
set_option maxRecDepth 100000 in
theorem fits_any (s : Spn) (x : Nat × Nat) (w : World) : Calls Tryz.prog 146 #[.agg #[.int .i64 s.a, .int .i64 s.k], .agg #[.int .i64 x.1, .int .i64 x.2]] w fun e w' => e = .returned (.bool (ftb s.k x)) ∧ Below w.heap.size w w' := by
  have e : ∀ b, decide (1 ≤ s.k) = b → ftb s.k x = (b && decide (s.k ≤ (x.2 : Int))) := fun b h => by unfold ftb; rw [h]
  by_cases h1 : 1 ≤ s.k
  · rw [e _ (decide_eq_true h1), Bool.true_and]
    clear e
    go_enter Tryz.func146, Tryz.ntmps146
    go_wp2
    go_ret
    exact ⟨rfl, below2 w _ _⟩
  · rw [e _ (decide_eq_false h1), Bool.false_and]
    clear e
    go_enter Tryz.func146, Tryz.ntmps146
    go_wp2
    go_ret
    exact ⟨rfl, below2 w _ _⟩
set_option maxRecDepth 100000 in
theorem within_any (s : Spn) (hs : Spn.Ok s) (x : Nat × Nat) (hx : XOk x) (w : World) : Calls Tryz.prog 148 #[.agg #[.int .i64 s.a, .int .i64 s.k], .agg #[.int .i64 x.1, .int .i64 x.2]] w fun e w' => e = .returned (.bool (wnb s x)) ∧ Below w.heap.size w w' := by
  obtain ⟨hx1, hx2⟩ := hx
  obtain ⟨s1, s2, s3, s4⟩ := hs
  have e : ∀ b c, decide (1 ≤ s.k) = b → decide ((x.1 : Int) ≤ s.a) = c → wnb s x = (b && (c && decide (s.k ≤ (x.2 : Int) - (s.a - x.1)))) := fun b c h h2 => by unfold wnb; rw [h, h2]
  by_cases h1 : 1 ≤ s.k
  · by_cases h2 : (x.1 : Int) ≤ s.a
    · rw [e _ _ (decide_eq_true h1) (decide_eq_true h2), Bool.true_and, Bool.true_and]
      have w1 : IntKind.i64.wrap (s.a - (x.1 : Int)) = s.a - (x.1 : Int) := by rw [IntKind.wrap_i64]; omega
      have w2 : IntKind.i64.wrap ((x.2 : Int) - (s.a - (x.1 : Int))) = (x.2 : Int) - (s.a - (x.1 : Int)) := by rw [IntKind.wrap_i64]; omega
      clear e
      go_enter Tryz.func148, Tryz.ntmps148
      go_wp2
      go_ret
      exact ⟨rfl, below2 w _ _⟩
    · rw [e _ _ (decide_eq_true h1) (decide_eq_false h2), Bool.true_and, Bool.false_and]
      clear e
      go_enter Tryz.func148, Tryz.ntmps148
      go_wp2
      go_ret
      exact ⟨rfl, below2 w _ _⟩
  · rw [e _ _ (decide_eq_false h1) rfl, Bool.false_and]
    clear e
    go_enter Tryz.func148, Tryz.ntmps148
    go_wp2
    go_ret
    exact ⟨rfl, below2 w _ _⟩
attribute [local go_sem ↓] Go.wp_at_zero Go.wp_at_succ
end Go.Proofs.YtlfmllkhbeagbaaGreat
namespace Go.Proofs.YtlfmllkhbeagbaaGreat
open Go.RowKit Apo

/-- a function value that tells P of each row of R, and changes nothing that there is -/
def Tells (fid : Nat) (r : Value) (P : Nat × Nat → Bool) (R : List (Nat × Nat)) : Prop :=
  (∀ args w, (callFunc fid args).run Tryz.prog w = .ok (.enter fid args) w) ∧ ∀ x ∈ R, ∀ W, Calls Tryz.prog fid #[r, .agg #[.int .i64 (x.1 : Int), .int .i64 (x.2 : Int)]] W fun e W' => e = .returned (.bool (P x)) ∧ Below W.heap.size W W'

set_option maxRecDepth 100000 in
set_option maxHeartbeats 1000000 in
theorem index_any {fid : Nat} {a k : Int} {P : Nat × Nat → Bool} {R : List (Nat × Nat)} (hT : Tells fid (.agg #[.int .i64 a, .int .i64 k]) P R) (hR : R.length ≤ 16384) {w : World} {g cap : Nat} {cur : List Value} (hg : Ob w g 132 cur) (hc : cur.take (R.length * 2) = rcells R) :
    Calls Tryz.prog 198 #[.slice (some ⟨g, 0, none⟩) R.length cap, .func (.func fid) #[.agg #[.int .i64 a, .int .i64 k]] #[]] w fun e w' => e = .returned (.int .i64 (idx P R)) ∧ Below w.heap.size w w' := by
  obtain ⟨hE, hT⟩ := hT
  have hcell : ∀ K x, R[K]? = some x → w.cell? ⟨g, K * 2, none⟩ = some (.int .i64 (x.1 : Int)) ∧ w.cell? ⟨g, K * 2 + 1, none⟩ = some (.int .i64 (x.2 : Int)) := fun K x hx => by
    have hK := (List.getElem?_eq_some_iff.1 hx).1
    obtain ⟨h1, h2⟩ := rcells_at hx
    rw [← hc, List.getElem?_take_of_lt (by omega)] at h1 h2
    exact ⟨(hg.cell _).trans h1, (hg.cell _).trans h2⟩
  have hgl := hg.lt
  have HT := hide hT
  clear hT hc hg
  go_enter Tryz.func198, Tryz.ntmps198
  go_wp2
  go_loopw [8] (fun i wr => ∃ K : Nat, K ≤ R.length ∧ i = .int .i64 K ∧ (∀ j y, j < K → R[j]? = some y → P y = false) ∧ Below w.heap.size w wr) (fun i _ => R.length - (intOf i).toNat)
  case atStart => exact ⟨0, Nat.zero_le _, rfl, fun j y h => by omega, Below.refl _ _⟩
  case round =>
    obtain ⟨K, hK, rfl, hno, hb⟩ := hrel
    by_cases hlt : K < R.length
    · have hx0 : R[K]? = some R[K] := List.getElem?_eq_getElem hlt
      obtain ⟨q1, q2⟩ := hcell _ _ hx0
      have p1 := (hb.cell (p := ⟨g, K * 2, none⟩) hgl).trans q1
      have p2 := (hb.cell (p := ⟨g, K * 2 + 1, none⟩) hgl).trans q2
      have hmem := List.getElem_mem hlt
      generalize hxe : R[K] = x at *
      have HX := hide hx0
      have HN := hide hno
      have HB := hide hb
      clear hx0 hno hxe q1 q2 hb
      go_wp2_with fail
      refine (HT.out x hmem wr).mono ?_
      rintro e W2 ⟨rfl, b⟩
      have HB2 := hide (HB.out.trans (b.mono HB.out.size))
      clear b
      cases hp : P x with
      | true =>
        go_wp2
        go_ret
        exact ⟨by rw [idx_some HX.out hp HN.out]; rfl, HB2.out⟩
      | false =>
        go_wp2
        go_roundw
        case rel => exact ⟨K + 1, by omega, by simp, fun j y hj hy => by
          rcases Nat.lt_or_ge j K with q | q
          · exact HN.out j y q hy
          · have : j = K := by omega
            subst this
            rw [HX.out] at hy
            cases hy
            exact hp, HB2.out⟩
        case measure => simp [intOf]; omega
    · obtain rfl : K = R.length := by omega
      go_wp2
      go_ret
      exact ⟨by rw [idx_none (fun j y hy => hno j y (List.getElem?_eq_some_iff.1 hy).1 hy)]; rfl, hb⟩
set_option maxRecDepth 100000 in
theorem index_nil {fn : Fn} {b c : Array Value} (w : World) :
    Calls Tryz.prog 198 #[.slice none 0 0, .func fn b c] w fun e w' => e = .returned (.int .i64 (-1)) ∧ Below w.heap.size w w' := by
  go_enter Tryz.func198, Tryz.ntmps198
  go_wp2
  go_loopw [8] (fun i wr => i = .int .i64 0 ∧ Below w.heap.size w wr) (fun _ _ => 0)
  case atStart => exact ⟨rfl, Below.refl _ _⟩
  case round =>
    obtain ⟨rfl, hb⟩ := hrel
    go_wp2
    go_ret
    exact ⟨rfl, hb⟩

/-- the program's Free in memory: whether it was made, the pages that there are, the rows -/
structure CFr (O : Nat → Prop) (w : World) (p : Nat) (f : Fr) : Prop where
  ok : OkFr f
  own : O p
  mem : ∃ v, Ob w p 215 [.bool true, .int .i64 (f.whole.1 : Int), .int .i64 (f.whole.2 : Int), v] ∧ Row O w 132 2 v f.rows.length (rcells f.rows)
set_option maxRecDepth 100000 in
theorem CFr.onl {O F : Nat → Prop} {w w' : World} {p : Nat} {f : Fr} (h : CFr O w p f) (ho : Onl F w w') (hF : ∀ i, O i → ¬ F i) : CFr O w' p f := by
  obtain ⟨v, h1, h2⟩ := h.mem
  exact ⟨h.ok, h.own, v, h1.onl ho (hF p h.own), h2.onl ho (fun g hg => hF g (h2.2 g hg))⟩
set_option maxRecDepth 100000 in
theorem CFr.below {O : Nat → Prop} {w w' : World} {p : Nat} {f : Fr} (h : CFr O w p f) (hb : Below w.heap.size w w') : CFr O w' p f := h.onl (F := fun _ => False) (Onl.ofBelow hb) (fun _ _ q => q)
set_option maxRecDepth 100000 in
theorem CFr.mono {O O' : Nat → Prop} {w : World} {p : Nat} {f : Fr} (h : CFr O w p f) (ho : ∀ i, O i → O' i) : CFr O' w p f := by
  obtain ⟨v, h1, h2⟩ := h.mem
  exact ⟨h.ok, ho p h.own, v, h1, h2.mono ho⟩
set_option maxRecDepth 100000 in
theorem whole_ok {f : Fr} (h : OkFr f) : f.whole.1 ≤ 16384 ∧ f.whole.2 ≤ 16384 := by
  have := h.len
  unfold Fr.whole
  split <;> simp only <;> omega
set_option maxRecDepth 100000 in
theorem crows_len {f : Fr} (ok : OkFr f) : f.rows.length ≤ 16384 := Nat.le_trans (spans_len f.L f.L.length) ok.len
set_option maxRecDepth 100000 in
theorem crow_ok {f : Fr} (ok : OkFr f) : ∀ x ∈ f.rows, XOk x := fun x hx => by
  have := row_low ok hx
  have := ok.len
  exact ⟨by omega, by omega⟩

set_option maxRecDepth 100000 in
theorem find_any {fid : Nat} {a k : Int} {P : Nat × Nat → Bool} {O : Nat → Prop} {w : World} {p : Nat} {f : Fr} (h : CFr O w p f) (hT : Tells fid (.agg #[.int .i64 a, .int .i64 k]) P f.rows) :
    Calls Tryz.prog 145 #[.pointer (some ⟨p, 0, none⟩), .func (.func fid) #[.agg #[.int .i64 a, .int .i64 k]] #[]] w fun e w' => e = .returned (.int .i64 (idx P f.rows)) ∧ Below w.heap.size w w' := by
  obtain ⟨v, h1, h2⟩ := h.mem
  have x3 := h1.cell 3
  simp only [List.getElem?_cons_succ, List.getElem?_cons_zero] at x3
  have hrl := crows_len h.ok
  rcases row_ob h2 with ⟨rfl, h0, _⟩ | ⟨g, cap, cur, rfl, _, bR, _, _, _, hr4⟩
  · have e : f.rows = [] := List.eq_nil_of_length_eq_zero h0
    have C := index_nil (fn := .func fid) (b := #[.agg #[.int .i64 a, .int .i64 k]]) (c := #[]) w
    have hq : idx P f.rows = -1 := by rw [e]; rfl
    rw [hq]
    clear h1 h2 h hT hq
    go_enter Tryz.func145, Tryz.ntmps145
    go_wp2_with fail
    refine C.mono ?_
    rintro e w' ⟨rfl, b⟩
    go_wp2
    go_ret
    exact ⟨rfl, b⟩
  · have C := index_any hT hrl (cap := cap) bR hr4
    clear h1 h2 h hT bR hr4
    go_enter Tryz.func145, Tryz.ntmps145
    go_wp2_with fail
    refine C.mono ?_
    rintro e w' ⟨rfl, b⟩
    go_wp2
    go_ret
    exact ⟨rfl, b⟩
set_option maxRecDepth 100000 in
theorem tells_within (s : Spn) (hs : Spn.Ok s) {R : List (Nat × Nat)} (hR : ∀ x ∈ R, XOk x) : Tells 148 (.agg #[.int .i64 s.a, .int .i64 s.k]) (wnb s) R := ⟨fun _ _ => by kernel_rfl, fun x hx W => within_any s hs x (hR x hx) W⟩
set_option maxRecDepth 100000 in
theorem tells_fits (n : Int) (R : List (Nat × Nat)) : Tells 146 (.agg #[.int .i64 0, .int .i64 n]) (ftb n) R := ⟨fun _ _ => by kernel_rfl, fun x _ W => fits_any ⟨0, n⟩ x W⟩
end Go.Proofs.YtlfmllkhbeagbaaGreat
