/- Refs: the document's table, pure; refs in memory. -/
import Derived.Test.YticofadpbpcejaaDGe
import Derived.PlainAid
namespace Go.Proofs.Yticofadpbpcejaa
open Go.RowKit Apo
structure Rf where
  n : ByteArray
  t : Bool
  i : Int
/-- whether a byte may stand at a place -/
def okAt (i : Nat) (c : Int) : Bool := (decide (97 ≤ c) && decide (c ≤ 122)) || (decide (0 < i) && ((decide (48 ≤ c) && decide (c ≤ 57)) || (c == 45)))
/-- whether a text may be a name -/
def nameM (s : ByteArray) : Bool := (List.range s.size).all (fun k => okAt k (PlainAid.bt s k)) && (decide (1 ≤ s.size) && decide (s.size ≤ 20))
def getR (l : List Rf) (n : ByteArray) : Option Rf := l.find? (fun r => decide (r.n = n))
def atR (l : List Rf) (n : ByteArray) : Int := match l.findIdx? (fun r => decide (r.n = n)) with | some i => (i : Int) | none => -1
def insR (l : List Rf) (n : ByteArray) : Nat := (l.takeWhile (fun r => sLt r.n n)).length
def makeE (l : List Rf) (x : Rf) : Int := if nameM x.n = false then 110 else if (getR l x.n).isSome then 112 else if 40 ≤ l.length then 4 else 0
def makeL (l : List Rf) (x : Rf) : List Rf := if makeE l x = 0 then l.take (insR l x.n) ++ x :: l.drop (insR l x.n) else l
def setE (l : List Rf) (n : ByteArray) (old : Int) : Int := match getR l n with
  | none => 111
  | some r => if r.t then 114 else if r.i = old then 0 else 113
def setL (l : List Rf) (n : ByteArray) (old id : Int) : List Rf := if setE l n old = 0 then l.map (fun r => if r.n = n then { r with i := id } else r) else l
def dropE (l : List Rf) (n : ByteArray) : Int := match getR l n with
  | none => 111
  | some _ => 0
def dropL (l : List Rf) (n : ByteArray) : List Rf := l.filter (fun r => decide (r.n ≠ n))
def cRf (x : Rf) : List Value := [.string x.n, .bool x.t, .int .u64 x.i]
theorem cRf_len (x : Rf) : (cRf x).length = 3 := rfl
theorem cRf_one (x : Rf) : ∀ u ∈ cRf x, u.oneCell' = true := by simp [cRf, Value.oneCell']
theorem rd_rf {w : World} {a : Option Addr} {l : List Rf} (h : RdG cRf 3 w a l) {i : Nat} {x : Rf} (hi : l[i]? = some x) : ∃ g o, a = some ⟨g, o, none⟩ ∧ w.cell? ⟨g, o + i * 3, none⟩ = some (.string x.n) ∧ w.cell? ⟨g, o + i * 3 + 1, none⟩ = some (.bool x.t) ∧ w.cell? ⟨g, o + i * 3 + 2, none⟩ = some (.int .u64 x.i) := by
  obtain ⟨g, o, h1, h2⟩ := h i x hi
  exact ⟨g, o, h1, h2 0 _ rfl, h2 1 _ rfl, h2 2 _ rfl⟩
set_option maxRecDepth 100000 in
theorem info_rf : (Try.prog.info? 32).map (fun i => (i.zero, i.size, i.bytes)) = some (some (.agg #[.string ByteArray.empty, .bool false, .int .u64 0]), 3, 32) := by kernel_rfl
theorem app_rf {O : Nat → Prop} {W : World} {v : Value} {l xs : List Rf} {y : Addr} {cp : Nat} (h : Row O W 32 3 v l.length (gcells cRf l)) (hn : l.length + xs.length ≤ 100000000) (hr : RdG cRf 3 W (some y) xs) :
    ∃ v' w', (Builtin.append_ #[22, 22] 22 #[v, .slice (some y) xs.length cp]).run Try.prog W = .ok v' w' ∧ Row (fun g => O g ∨ g = W.heap.size) w' 32 3 v' (l ++ xs).length (gcells cRf (l ++ xs)) ∧ Onl (fun g => v.ownBlock = some g) W w' ∧ ∀ g, v'.ownBlock = some g → v.ownBlock = some g ∨ g = W.heap.size :=
  app_G cRf_len (by decide) cRf_one Try.underlying22 info_rf (by rfl) (by decide) h hn hr
/-- refs by Name, each once -/
structure Rok (l : List Rf) : Prop where
  rise : l.Pairwise (fun a b => sLt a.n b.n = true)
  len : l.length ≤ 40
theorem getR_at {l : List Rf} {n : ByteArray} {k : Nat} {c : Rf} (h : l[k]? = some c) (hc : c.n = n) (hb : ∀ j x, j < k → l[j]? = some x → x.n ≠ n) : getR l n = some c ∧ atR l n = (k : Int) := by
  unfold getR atR
  have h1 : l.findIdx? (fun r => decide (r.n = n)) = some k := by
    rw [List.findIdx?_eq_some_iff_getElem]
    obtain ⟨hlt, hv⟩ := List.getElem?_eq_some_iff.1 h
    refine ⟨hlt, by simp [hv, hc], fun j hj => ?_⟩
    have := hb j l[j] hj (List.getElem?_eq_getElem _)
    simpa using this
  refine ⟨?_, by rw [h1]⟩
  rw [List.find?_eq_some_iff_getElem]
  obtain ⟨hlt, hv⟩ := List.getElem?_eq_some_iff.1 h
  refine ⟨by simp [hc], k, hlt, hv, fun j hj => ?_⟩
  have := hb j l[j] hj (List.getElem?_eq_getElem _)
  simpa using this
theorem getR_no {l : List Rf} {n : ByteArray} (hb : ∀ x ∈ l, x.n ≠ n) : getR l n = none ∧ atR l n = -1 := by
  unfold getR atR
  have h1 : l.findIdx? (fun r => decide (r.n = n)) = none := by
    rw [List.findIdx?_eq_none_iff]
    intro x hx
    simpa using hb x hx
  refine ⟨?_, by rw [h1]⟩
  rw [List.find?_eq_none]
  intro x hx
  simpa using hb x hx
theorem at_casesR (l : List Rf) (n : ByteArray) : (∃ (i : Nat) (c : Rf), l[i]? = some c ∧ c.n = n ∧ (∀ j x, j < i → l[j]? = some x → x.n ≠ n) ∧ getR l n = some c ∧ atR l n = (i : Int)) ∨ (getR l n = none ∧ atR l n = -1 ∧ ∀ x ∈ l, x.n ≠ n) := by
  cases h : l.findIdx? (fun r => decide (r.n = n)) with
  | none =>
    right
    rw [List.findIdx?_eq_none_iff] at h
    have h2 : ∀ x ∈ l, x.n ≠ n := fun x hx => by simpa using h x hx
    exact ⟨(getR_no h2).1, (getR_no h2).2, h2⟩
  | some k =>
    left
    rw [List.findIdx?_eq_some_iff_getElem] at h
    obtain ⟨hlt, h1, h2⟩ := h
    have h3 : ∀ j x, j < k → l[j]? = some x → x.n ≠ n := fun j x hj hx => by
      have := h2 j hj
      obtain ⟨hl, hv⟩ := List.getElem?_eq_some_iff.1 hx
      rw [← hv]
      simpa using this
    have := getR_at (n := n) (List.getElem?_eq_getElem hlt) (by simpa using h1) h3
    exact ⟨k, l[k], List.getElem?_eq_getElem _, by simpa using h1, h3, this.1, this.2⟩
theorem insR_le (l : List Rf) (n : ByteArray) : insR l n ≤ l.length := (List.takeWhile_sublist _).length_le
theorem insR_is {l : List Rf} {n : ByteArray} {k : Nat} (hk : k ≤ l.length) (hb : ∀ j x, j < k → l[j]? = some x → sLt x.n n = true) (hn : ∀ x, l[k]? = some x → sLt x.n n = false) : insR l n = k := by
  have hs : l = l.take k ++ l.drop k := (List.take_append_drop k l).symm
  have h1 : ∀ x ∈ l.take k, sLt x.n n = true := by
    intro x hx
    obtain ⟨j, hj, hv⟩ := List.getElem_of_mem hx
    rw [List.getElem_take] at hv
    exact hb j x (by simp at hj; omega) (by rw [← hv]; exact List.getElem?_eq_getElem _)
  have h2 : (l.drop k).takeWhile (fun r => sLt r.n n) = [] := by
    cases hd : l.drop k with
    | nil => rfl
    | cons x r =>
      have hx : l[k]? = some x := by
        have := congrArg (fun z : List Rf => z[0]?) hd
        simpa using this
      rw [List.takeWhile_cons_of_neg (by rw [hn x hx]; simp)]
  unfold insR
  rw [hs, List.takeWhile_append_of_pos h1, h2, List.append_nil, List.length_take]
  omega
end Go.Proofs.Yticofadpbpcejaa
