/- Maps keyed by texts, in memory: what each key has, whatever the elements are. Of no program. -/
import Derived.Test.YticofadpbpcejaaHMp
import Derived.StringKeys
namespace Apo
open Go Go.RowKit
open Go.MapKept
open Go.Maps (Keyed)
def kS (s : ByteArray) : Lit := .string s.data.toList
theorem kS_inj {s t : ByteArray} (h : kS s = kS t) : s = t := by
  simp only [kS, Lit.string.injEq] at h
  exact ByteArray.ext (Array.ext' h)
theorem kS_key (s : ByteArray) : WideAt.IsKeyLit (kS s) := trivial
/-- the datum D has at each key what M says -/
structure MsD (D : DataW Value) (M : ByteArray → Option Value) : Prop where
  has : ∀ s, s.size ≤ maxLen → Maps.has D (kS s) = (M s).isSome
  get : ∀ s v, M s = some v → ∀ z, D.atKey (kS s) z = .held v
def Ms (P : Program) (k : TypeId) (w : World) (b c : Nat) (M : ByteArray → Option Value) : Prop := ∃ D : DataW Value, w.ownsMap P k heldR b (Maps.size D) D ∧ MsD D M ∧ Maps.size D ≤ c
open Classical in
noncomputable def updS (M : ByteArray → Option Value) (s : ByteArray) (v : Option Value) : ByteArray → Option Value := fun t => if t = s then v else M t
theorem updS_same (M : ByteArray → Option Value) (s : ByteArray) (v : Option Value) : updS M s v s = v := if_pos rfl
theorem updS_other (M : ByteArray → Option Value) {s t : ByteArray} (v : Option Value) (h : t ≠ s) : updS M s v t = M t := if_neg h
section
variable {P : Program} {k t e : TypeId} {w w' : World} {b c : Nat} {M : ByteArray → Option Value}
theorem Ms.lt (h : Ms P k w b c M) : b < w.heap.size := by obtain ⟨D, h, _⟩ := h; exact h.lt
theorem Ms.onl {F : Nat → Prop} (h : Ms P k w b c M) (o : Onl F w w') (hb : ¬ F b) : Ms P k w' b c M := by
  have hl := h.lt
  obtain ⟨D, ⟨es, c, h1, h2⟩, m⟩ := h
  exact ⟨D, ⟨es, c, (o.block b hl hb).trans h1, h2⟩, m⟩
theorem Ms.below (h : Ms P k w b c M) (o : Below w.heap.size w w') : Ms P k w' b c M := h.onl (F := fun _ => False) (Onl.ofBelow o) id
theorem Ms.made (w : World) (P : Program) (k : TypeId) : Ms P k (w.alloc (.map #[] 0)) w.heap.size 0 (fun _ => none) :=
  ⟨.map [], World.ownsMap_made w P k heldR, ⟨fun _ _ => rfl, fun _ _ h => by simp at h⟩, by simp [Maps.size_eq]⟩
theorem Ms.look2 (h : Ms P k w b c M) (hk : P.underlying k = some .string) (ht : P.underlying t = some (.map k e)) {z : Value} (hz : ∀ W, (zeroValue e).run P W = .ok z W) {s : ByteArray} (hs : s.size ≤ maxLen) :
    (Instr.lookup t (.map (some b)) (.string s) true).run P w = .ok (.tuple #[(M s).getD z, .bool (M s).isSome]) w := by
  obtain ⟨D, h, m, _⟩ := h
  obtain ⟨v, ps, h1, h2⟩ := h.look_ok (Maps.string_keyed hk) ht (hz w) (zd := .held z) (zp := []) rfl (Go.WideMaps.keyOf_string_mk hk hs)
  have h3 : DataW.held v = D.atKey (kS s) (.held z) := by simp [heldR] at h2; exact h2.1
  have hh : Maps.has D (kS s) = (M s).isSome := m.has s hs
  rw [show (Lit.string s.data.toList) = kS s from rfl] at h1
  rw [h1, hh]
  cases hM : M s with
  | none =>
    have := m.has s hs
    rw [hM] at this
    rw [Maps.atKey_of_not_has (by simpa using this)] at h3
    cases h3
    rfl
  | some u =>
    rw [m.get s u hM] at h3
    cases h3
    rfl
theorem Ms.look (h : Ms P k w b c M) (hk : P.underlying k = some .string) (ht : P.underlying t = some (.map k e)) {z : Value} (hz : ∀ W, (zeroValue e).run P W = .ok z W) {s : ByteArray} (hs : s.size ≤ maxLen) :
    (Instr.lookup t (.map (some b)) (.string s) false).run P w = .ok ((M s).getD z) w := by
  obtain ⟨D, h, m, _⟩ := h
  obtain ⟨v, ps, h1, h2⟩ := h.lookup (Maps.string_keyed hk) ht (hz w) (zd := .held z) (zp := []) rfl (Go.WideMaps.keyOf_string_mk hk hs)
  have h3 : DataW.held v = D.atKey (kS s) (.held z) := by simp [heldR] at h2; exact h2.1
  rw [h1]
  cases hM : M s with
  | none =>
    have := m.has s hs
    rw [hM] at this
    rw [Maps.atKey_of_not_has (by simpa using this)] at h3
    cases h3
    rfl
  | some u =>
    rw [m.get s u hM] at h3
    cases h3
    rfl
theorem MsD.put {D : DataW Value} (m : MsD D M) (hD : Maps.IsMap D) (s : ByteArray) (v : Value) : MsD (D.put (kS s) (.held v)) (updS M s (some v)) := by
  refine ⟨fun j hj => ?_, fun j u hu z => ?_⟩
  · by_cases q : j = s
    · subst q
      rw [updS_same, Maps.has_put_same hD (kS_key _)]
      rfl
    · rw [updS_other _ _ q, Maps.has_put_other (fun e => q (kS_inj e)), m.has j hj]
  · by_cases q : j = s
    · subst q
      rw [updS_same] at hu
      cases hu
      exact Maps.atKey_put_same hD (kS_key _) _ _
    · rw [updS_other _ _ q] at hu
      rw [Maps.atKey_put_other (fun e => q (kS_inj e)), m.get j u hu]
theorem Ms.store (h : Ms P k w b c M) (hk : P.underlying k = some .string) (ht : P.underlying t = some (.map k e)) (hc : c < 1000000) {s : ByteArray} (hs : s.size ≤ maxLen) (v : Value) :
    ∃ w', (Instr.mapUpdate t (.map (some b)) (.string s) v).run P w = .ok () w' ∧ Ms P k w' b (c + 1) (updS M s (some v)) ∧ w.mapTurned w' b := by
  obtain ⟨D, h, m, hl⟩ := h
  have hK := Maps.string_keyed hk
  obtain ⟨w', h1, h2, h3⟩ := h.store hK ht (show Maps.size D < maxLen by unfold maxLen; omega) (Go.WideMaps.keyOf_string_mk hk hs) (val := v) (d := .held v) (ps := []) rfl
  have hput : MsD (D.put (.string s.data.toList) (.held v)) (updS M s (some v)) := m.put h.isMap s v
  refine ⟨w', h1, ⟨_, ?_, hput, ?_⟩, h3⟩
  · obtain ⟨es, c, q1, q2, q3, q4⟩ := h2
    refine ⟨es, c, q1, q2, ?_, q4⟩
    rw [q4]
    simp [Maps.size, length_sorted]
  · have ht := h.tidy hK
    rw [Maps.size_put ht]
    split <;> omega
end
end Apo
