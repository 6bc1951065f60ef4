/- Get as laws meet it. Over the translation. -/
import Derived.Test.YtmkafoidfgaokaaQB1
import Derived.Test.YtmkafoidfgaokaaQA7
namespace Go.Proofs.Ytmkafoidfgaokaa
open Go.RowKit Apo
theorem Gp.sz {w : World} {p b : Nat} {X : List CmA} {l : List Cm} (h : Gp w p b X l) {c : Cm} (hc : c ∈ l) : c.Sz ∧ c.ps.length ≤ 2 ∧ c.tx.size ≤ 9223372036854775807 := by
  obtain ⟨x, hx, rfl⟩ := h.mem hc
  exact ⟨(h.cs.cm x hx).sz, (h.cs.sm x hx).2, (h.cs.cm x hx).txt⟩
theorem Gp.idb {w : World} {p b : Nat} {X : List CmA} {l : List Cm} (h : Gp w p b X l) {z : Int} {c : Cm} (hc : getG l z = some c) : 0 ≤ z ∧ z ≤ 18446744073709551615 := by
  obtain ⟨h1, h2⟩ := getG_mem hc
  have := (h.sz h1).1.1
  omega
/-- of one that is there -/
theorem getl_is {w : World} {p b : Nat} {X : List CmA} {l : List Cm} (h : Gp w p b X l) {z : Int} {c : Cm} (hc : getG l z = some c) :
    Calls Try.prog 12 #[.pointer (some ⟨p, 0, none⟩), .int .u64 z] w fun e w' => ∃ (ya : Option Addr) (np yc : Nat), e = .returned (.tuple #[.agg #[.int .u64 c.id, .slice ya np yc, .int .u64 c.gen, .int .u64 c.root, .string c.tx], .bool true]) ∧ np = c.ps.length ∧ CmR w' c ya yc ∧ Below w.heap.size w w' := by
  have hb := h.idb hc
  have hg := h.get z
  rw [hc] at hg
  refine (getp_any h hb.1 hb.2).mono ?_
  rintro e w' ⟨y, rfl, y1, y2, _, hw⟩
  cases hq : fX X z with
  | none => rw [hq] at hg; cases hg
  | some x =>
    rw [hq] at hg y1
    injection hg with hg
    have e1 : y.c = c := by rw [y1, hg]; rfl
    obtain ⟨yc, ya, ycap⟩ := y
    simp only at e1 y2
    subst e1
    exact ⟨ya, _, ycap, rfl, rfl, y2, hw⟩
/-- of one that isn't -/
theorem getl_no {w : World} {p b : Nat} {X : List CmA} {l : List Cm} (h : Gp w p b X l) {z : Int} (h0 : 0 ≤ z) (h1 : z ≤ 18446744073709551615) (hc : getG l z = none) :
    Calls Try.prog 12 #[.pointer (some ⟨p, 0, none⟩), .int .u64 z] w fun e w' => ∃ (ya : Option Addr) (yc : Nat), e = .returned (.tuple #[.agg #[.int .u64 0, .slice ya 0 yc, .int .u64 0, .int .u64 0, .string ⟨#[]⟩], .bool false]) ∧ CmR w' zeroCm ya yc ∧ Below w.heap.size w w' := by
  have hg := h.get z
  rw [hc] at hg
  refine (getp_any h h0 h1).mono ?_
  rintro e w' ⟨y, rfl, y1, y2, _, hw⟩
  cases hq : fX X z with
  | some x => rw [hq] at hg; cases hg
  | none =>
    rw [hq] at y1
    obtain ⟨yc, ya, ycap⟩ := y
    simp only [Option.getD_none] at y1 y2
    subst y1
    exact ⟨ya, ycap, rfl, y2, hw⟩
theorem getG_ids {l : List Cm} (h : l.Pairwise (fun a b => a.id < b.id)) {k : Nat} {z : Int} (hk : (l.map Cm.id)[k]? = some z) : ∃ c ∈ l, c.id = z ∧ getG l z = some c := by
  rw [List.getElem?_map] at hk
  cases hq : l[k]? with
  | none => rw [hq] at hk; cases hk
  | some c =>
    rw [hq] at hk
    injection hk with hk
    have hm := List.mem_of_getElem? hq
    exact ⟨c, hm, hk, by rw [← hk]; exact getG_is h hm⟩
theorem genUp_cons {l : List Cm} {p : Int} {ps : List Int} {g : Int} {d : Cm} (h : getG l p = some d) : genUp l (p :: ps) g = genUp l ps (if g < d.gen then d.gen else g) := by
  simp only [genUp]
  rw [h]
end Go.Proofs.Ytmkafoidfgaokaa
