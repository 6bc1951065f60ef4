/- merge.values, over the translation. -/
import Derived.Test.YtoneedobhopkkaaMPr
import Derived.Test.YtoneedobhopkkaaHMs
namespace Go.Proofs.Ytoneedobhopkkaa
open Go.RowKit Apo
open Classical in
/-- what a map of the language has, of entries laid into it one by one -/
noncomputable def vM (es : List En) : ByteArray → Option Value := fun s => match es.reverse.find? (fun e => decide (e.k = s)) with
  | some e => some (.agg #[.bool true, .string e.v])
  | none => none
theorem vM_nil : vM [] = fun _ => none := rfl
theorem vM_snoc (es : List En) (e : En) : vM (es ++ [e]) = updS (vM es) e.k (some (.agg #[.bool true, .string e.v])) := by
  funext s
  unfold vM
  rw [List.reverse_append, List.reverse_singleton, List.singleton_append, List.find?_cons]
  by_cases h : e.k = s
  · subst h
    rw [updS_same]
    simp
  · rw [updS_other _ _ (fun q => h q.symm)]
    simp [h]
theorem vM_has (es : List En) (s : ByteArray) : (vM es s).isSome = true ↔ s ∈ es.map En.k := by
  unfold vM
  cases h : es.reverse.find? (fun e => decide (e.k = s)) with
  | some e =>
    have h1 := List.find?_some h
    have h2 := List.mem_of_find?_eq_some h
    simp only [Option.isSome_some, true_iff, List.mem_map]
    exact ⟨e, by simpa using h2, by simpa using h1⟩
  | none =>
    have := List.find?_eq_none.1 h
    simp only [Option.isSome_none, Bool.false_eq_true, false_iff, List.mem_map, not_exists, not_and]
    intro e he q
    exact absurd (this e (by simpa using he)) (by simp [q])
theorem vM_is {es : List En} (hr : RiseE es) (s : ByteArray) : (vM es s).getD (.agg #[.bool false, .string ⟨#[]⟩]) = .agg #[.bool (gS es s).b, .string (gS es s).v] := by
  unfold vM
  cases h : es.reverse.find? (fun e => decide (e.k = s)) with
  | some e =>
    have h1 := List.find?_some h
    have h2 := List.mem_of_find?_eq_some h
    simp only [decide_eq_true_eq] at h1
    subst h1
    rw [gS_some hr (by simpa using h2)]
    rfl
  | none =>
    have := List.find?_eq_none.1 h
    rw [gS_none (fun e he q => absurd (this e (by simpa using he)) (by simp [q]))]
    rfl
def MvP (es : List En) (w : World) (e : Ending) (w' : World) : Prop := ∃ b, e = .returned (.map (some b)) ∧ Ms Try.prog 9 w' b es.length (vM es) ∧ Below w.heap.size w w'
set_option maxRecDepth 100000 in
set_option maxHeartbeats 4000000 in
theorem values_any (w : World) (a : Option Addr) (c : Nat) (es : List En) (h : RdEn w a es) (hl : es.length ≤ 100000) (hs : ∀ e ∈ es, e.k.size ≤ maxLen) :
    Calls Try.prog 21 #[.slice a es.length c] w (MvP es w) := by
  obtain ⟨n, hn⟩ : ∃ n, n = es.length := ⟨_, rfl⟩
  have hk : Try.prog.underlying 9 = some .string := by rfl
  have hmm := @run_makeMap Try.prog
  obtain ⟨W0, hW0⟩ : ∃ W0, W0 = w.alloc (.map #[] 0) := ⟨_, rfl⟩
  have m0 : Ms Try.prog 9 W0 w.heap.size 0 (fun _ => none) := by rw [hW0]; exact Ms.made w Try.prog 9
  have b0 : Below w.heap.size w W0 := by rw [hW0]; exact (Below.refl _ w).alloc (Nat.le_refl _) _
  have HN := hide hn
  have HR := hide h
  have HS := hide hs
  have HM0 := hide m0
  have HB0 := hide b0
  rw [← hn] at hl ⊢
  clear h hn hs m0 b0
  go_enter Try.func21, Try.ntmps21
  go_wp2
  rw [← hW0]
  clear hW0
  go_loopw [9] (fun i wr => ∃ j : Nat, j ≤ n ∧ i = .int .i64 j ∧ Hid (Ms Try.prog 9 wr w.heap.size j (vM (es.take j))) ∧ Hid (Below w.heap.size w wr)) (fun i _ => n - (intOf i).toNat)
  case atStart => exact ⟨0, Nat.zero_le _, rfl, HM0, HB0⟩
  case round =>
    obtain ⟨j, hj, rfl, HM, HB⟩ := hrel
    by_cases hjn : j < n
    · obtain ⟨⟨ek, ev⟩, hx⟩ : ∃ x, es[j]? = some x := ⟨es[j]'(by have := HN.out; omega), List.getElem?_eq_getElem _⟩
      obtain ⟨g, o, rfl, p1, p2⟩ := (HR.out.below HB.out) j _ hx
      simp only at p1 p2
      obtain ⟨W1, hW1⟩ : ∃ W1, W1 = wr.alloc (.cells #[.string ek, .string ev] 47) := ⟨_, rfl⟩
      have b1 : Below wr.heap.size wr W1 := by rw [hW1]; exact (Below.refl _ wr).alloc (Nat.le_refl _) _
      have k1 : Ob W1 wr.heap.size 47 [.string ek, .string ev] := by rw [hW1]; exact Ob.new wr [.string ek, .string ev] 47
      obtain ⟨w2, R, m2, t2⟩ := (HM.out.below b1).store (t := 42) hk (by rfl) (by omega) (HS.out _ (List.mem_of_getElem? hx)) (.agg #[.bool true, .string ev])
      have htk : es.take (j + 1) = es.take j ++ [⟨ek, ev⟩] := by rw [List.take_add_one, hx]; rfl
      rw [← vM_snoc (es.take j) ⟨ek, ev⟩, ← htk] at m2
      have hB2 : Below w.heap.size w w2 := Below.onl (HB.out.trans (b1.mono HB.out.size)) (turned_onl t2) (fun i hi => by rw [hi]; exact Nat.le_refl _) (Nat.le_refl _)
      have HM2 := hide m2
      have HB2 := hide hB2
      rw [hW1] at R
      clear m2 t2 hB2 hx htk k1 hW1 b1
      go_wp2
      go_roundw
      case rel => exact ⟨j + 1, by omega, by simp, HM2, HB2⟩
      case measure => simp [intOf]; omega
    · have HF : Hid (MvP es w (.returned (.map (some w.heap.size))) wr) := by
        have hm := HM.out
        obtain rfl : j = n := by omega
        rw [List.take_of_length_le (by have := HN.out; omega)] at hm
        rw [HN.out] at hm
        exact hide ⟨_, rfl, hm, HB.out⟩
      clear HM
      go_wp2
      go_ret
      exact HF.out
end Go.Proofs.Ytoneedobhopkkaa
