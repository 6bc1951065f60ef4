/- slices.IndexFunc and find: the place of the first row that is such a one. Over the translation. -/
import Derived.Test.YtlomnpeelpmhiaaELf
import Derived.Test.YtlomnpeelpmhiaaERp
namespace Go.Proofs.Ytlomnpeelpmhiaa
open Go.RowKit Apo

/-- a function value that tells P of each row of R, and changes nothing that there is -/
def Tells (fid : Nat) (r : Value) (P : Nat × Nat → Bool) (R : List (Nat × Nat)) : Prop :=
  (∀ args w, (callFunc fid args).run Try.prog w = .ok (.enter fid args) w) ∧ ∀ x ∈ R, ∀ W, Calls Try.prog fid #[r, .agg #[.int .i64 (x.1 : Int), .int .i64 (x.2 : Int)]] W fun e W' => e = .returned (.bool (P x)) ∧ Below W.heap.size W W'

set_option maxRecDepth 100000 in
set_option maxHeartbeats 1000000 in
theorem index_any {fid : Nat} {a k : Int} {P : Nat × Nat → Bool} {R : List (Nat × Nat)} (hT : Tells fid (.agg #[.int .i64 a, .int .i64 k]) P R) (hR : R.length ≤ 16384) {w : World} {g cap : Nat} {cur : List Value} (hg : Ob w g 29 cur) (hc : cur.take (R.length * 2) = rcells R) :
    Calls Try.prog 36 #[.slice (some ⟨g, 0, none⟩) R.length cap, .func (.func fid) #[.agg #[.int .i64 a, .int .i64 k]] #[]] w fun e w' => e = .returned (.int .i64 (idx P R)) ∧ Below w.heap.size w w' := by
  obtain ⟨hE, hT⟩ := hT
  have hcell : ∀ K x, R[K]? = some x → w.cell? ⟨g, K * 2, none⟩ = some (.int .i64 (x.1 : Int)) ∧ w.cell? ⟨g, K * 2 + 1, none⟩ = some (.int .i64 (x.2 : Int)) := fun K x hx => by
    have hK := (List.getElem?_eq_some_iff.1 hx).1
    obtain ⟨h1, h2⟩ := rcells_at hx
    rw [← hc, List.getElem?_take_of_lt (by omega)] at h1 h2
    exact ⟨(hg.cell _).trans h1, (hg.cell _).trans h2⟩
  have hgl := hg.lt
  have HT := hide hT
  clear hT hc hg
  go_enter Try.func36, Try.ntmps36
  go_wp2
  go_loopw [8] (fun i wr => ∃ K : Nat, K ≤ R.length ∧ i = .int .i64 K ∧ (∀ j y, j < K → R[j]? = some y → P y = false) ∧ Below w.heap.size w wr) (fun i _ => R.length - (intOf i).toNat)
  case atStart => exact ⟨0, Nat.zero_le _, rfl, fun j y h => by omega, Below.refl _ _⟩
  case round =>
    obtain ⟨K, hK, rfl, hno, hb⟩ := hrel
    by_cases hlt : K < R.length
    · have hx0 : R[K]? = some R[K] := List.getElem?_eq_getElem hlt
      obtain ⟨q1, q2⟩ := hcell _ _ hx0
      have p1 := (hb.cell (p := ⟨g, K * 2, none⟩) hgl).trans q1
      have p2 := (hb.cell (p := ⟨g, K * 2 + 1, none⟩) hgl).trans q2
      have hmem := List.getElem_mem hlt
      generalize hxe : R[K] = x at *
      have HX := hide hx0
      have HN := hide hno
      have HB := hide hb
      clear hx0 hno hxe q1 q2 hb
      go_wp2_with fail
      refine (HT.out x hmem wr).mono ?_
      rintro e W2 ⟨rfl, b⟩
      have HB2 := hide (HB.out.trans (b.mono HB.out.size))
      clear b
      cases hp : P x with
      | true =>
        go_wp2
        go_ret
        exact ⟨by rw [idx_some HX.out hp HN.out]; rfl, HB2.out⟩
      | false =>
        go_wp2
        go_roundw
        case rel => exact ⟨K + 1, by omega, by simp, fun j y hj hy => by
          rcases Nat.lt_or_ge j K with q | q
          · exact HN.out j y q hy
          · have : j = K := by omega
            subst this
            rw [HX.out] at hy
            cases hy
            exact hp, HB2.out⟩
        case measure => simp [intOf]; omega
    · obtain rfl : K = R.length := by omega
      go_wp2
      go_ret
      exact ⟨by rw [idx_none (fun j y hy => hno j y (List.getElem?_eq_some_iff.1 hy).1 hy)]; rfl, hb⟩
set_option maxRecDepth 100000 in
theorem index_nil {fn : Fn} {b c : Array Value} (w : World) :
    Calls Try.prog 36 #[.slice none 0 0, .func fn b c] w fun e w' => e = .returned (.int .i64 (-1)) ∧ Below w.heap.size w w' := by
  go_enter Try.func36, Try.ntmps36
  go_wp2
  go_loopw [8] (fun i wr => i = .int .i64 0 ∧ Below w.heap.size w wr) (fun _ _ => 0)
  case atStart => exact ⟨rfl, Below.refl _ _⟩
  case round =>
    obtain ⟨rfl, hb⟩ := hrel
    go_wp2
    go_ret
    exact ⟨rfl, hb⟩

/-- the program's Free in memory: whether it was made, the pages that there are, the rows -/
structure CFr (O : Nat → Prop) (w : World) (p : Nat) (f : Fr) : Prop where
  ok : OkFr f
  own : O p
  mem : ∃ v, Ob w p 50 [.bool true, .int .i64 (f.whole.1 : Int), .int .i64 (f.whole.2 : Int), v] ∧ Row O w 29 2 v f.rows.length (rcells f.rows)
theorem CFr.onl {O F : Nat → Prop} {w w' : World} {p : Nat} {f : Fr} (h : CFr O w p f) (ho : Onl F w w') (hF : ∀ i, O i → ¬ F i) : CFr O w' p f := by
  obtain ⟨v, h1, h2⟩ := h.mem
  exact ⟨h.ok, h.own, v, h1.onl ho (hF p h.own), h2.onl ho (fun g hg => hF g (h2.2 g hg))⟩
theorem CFr.below {O : Nat → Prop} {w w' : World} {p : Nat} {f : Fr} (h : CFr O w p f) (hb : Below w.heap.size w w') : CFr O w' p f := h.onl (F := fun _ => False) (Onl.ofBelow hb) (fun _ _ q => q)
theorem CFr.mono {O O' : Nat → Prop} {w : World} {p : Nat} {f : Fr} (h : CFr O w p f) (ho : ∀ i, O i → O' i) : CFr O' w p f := by
  obtain ⟨v, h1, h2⟩ := h.mem
  exact ⟨h.ok, ho p h.own, v, h1, h2.mono ho⟩
theorem whole_ok {f : Fr} (h : OkFr f) : f.whole.1 ≤ 16384 ∧ f.whole.2 ≤ 16384 := by
  have := h.len
  unfold Fr.whole
  split <;> simp only <;> omega
theorem crows_len {f : Fr} (ok : OkFr f) : f.rows.length ≤ 16384 := Nat.le_trans (spans_len f.L f.L.length) ok.len
theorem crow_ok {f : Fr} (ok : OkFr f) : ∀ x ∈ f.rows, XOk x := fun x hx => by
  have := row_low ok hx
  have := ok.len
  exact ⟨by omega, by omega⟩

set_option maxRecDepth 100000 in
theorem find_any {fid : Nat} {a k : Int} {P : Nat × Nat → Bool} {O : Nat → Prop} {w : World} {p : Nat} {f : Fr} (h : CFr O w p f) (hT : Tells fid (.agg #[.int .i64 a, .int .i64 k]) P f.rows) :
    Calls Try.prog 26 #[.pointer (some ⟨p, 0, none⟩), .func (.func fid) #[.agg #[.int .i64 a, .int .i64 k]] #[]] w fun e w' => e = .returned (.int .i64 (idx P f.rows)) ∧ Below w.heap.size w w' := by
  obtain ⟨v, h1, h2⟩ := h.mem
  have x3 := h1.cell 3
  simp only [List.getElem?_cons_succ, List.getElem?_cons_zero] at x3
  have hrl := crows_len h.ok
  rcases row_ob h2 with ⟨rfl, h0, _⟩ | ⟨g, cap, cur, rfl, _, bR, _, _, _, hr4⟩
  · have e : f.rows = [] := List.eq_nil_of_length_eq_zero h0
    have C := index_nil (fn := .func fid) (b := #[.agg #[.int .i64 a, .int .i64 k]]) (c := #[]) w
    have hq : idx P f.rows = -1 := by rw [e]; rfl
    rw [hq]
    clear h1 h2 h hT hq
    go_enter Try.func26, Try.ntmps26
    go_wp2_with fail
    refine C.mono ?_
    rintro e w' ⟨rfl, b⟩
    go_wp2
    go_ret
    exact ⟨rfl, b⟩
  · have C := index_any hT hrl (cap := cap) bR hr4
    clear h1 h2 h hT bR hr4
    go_enter Try.func26, Try.ntmps26
    go_wp2_with fail
    refine C.mono ?_
    rintro e w' ⟨rfl, b⟩
    go_wp2
    go_ret
    exact ⟨rfl, b⟩
set_option maxRecDepth 100000 in
theorem find_nil (fn : Fn) (b c : Array Value) (w : World) :
    Calls Try.prog 26 #[.pointer none, .func fn b c] w fun e w' => e = .returned (.int .i64 (-1)) ∧ w = w' := by
  go_enter Try.func26, Try.ntmps26
  go_wp2
  go_ret
  exact ⟨rfl, rfl⟩

theorem tells_within (s : Spn) (hs : Spn.Ok s) {R : List (Nat × Nat)} (hR : ∀ x ∈ R, XOk x) : Tells 31 (.agg #[.int .i64 s.a, .int .i64 s.k]) (wnb s) R := ⟨fun _ _ => by kernel_rfl, fun x hx W => within_any s hs x (hR x hx) W⟩
theorem tells_meets (s : Spn) (hs : 0 ≤ s.a ∧ s.a ≤ 16384 ∧ 0 ≤ s.k ∧ s.k ≤ 16384) {R : List (Nat × Nat)} (hR : ∀ x ∈ R, XOk x) : Tells 32 (.agg #[.int .i64 s.a, .int .i64 s.k]) (mtb s) R := ⟨fun _ _ => by kernel_rfl, fun x hx W => meets_any s hs x (hR x hx) W⟩
theorem tells_fits (n : Int) (R : List (Nat × Nat)) : Tells 27 (.agg #[.int .i64 0, .int .i64 n]) (ftb n) R := ⟨fun _ _ => by kernel_rfl, fun x _ W => fits_any ⟨0, n⟩ x W⟩
theorem tells_ahead (s : Spn) (R : List (Nat × Nat)) : Tells 39 (.agg #[.int .i64 s.a, .int .i64 s.k]) (ahb s) R := ⟨fun _ _ => by kernel_rfl, fun x _ W => ahead_any s x W⟩
end Go.Proofs.Ytlomnpeelpmhiaa
