/- Maps keyed by texts: a key dropped, and how many there are. Of no program. -/
import Derived.Test.YticofadpbpcejaaHMs
namespace Apo
open Go Go.RowKit
open Go.MapKept
open Go.WideElems (Fit rd rg pl rd_key rd_val rg_of)
open Go.Maps (Keyed)
section
variable {P : Program} {k t e : TypeId} {w w' : World} {b c : Nat} {M : ByteArray → Option Value}
theorem keysS {D : DataW Value} {n : Nat} (h : w.ownsMap P k heldR b n D) (hk : P.underlying k = some .string) : ∃ es, D = .map es ∧ es.Pairwise (fun p q => p.1 ≠ q.1) ∧ ∀ p ∈ es, ∃ s : ByteArray, p.1 = kS s ∧ s.size ≤ maxLen := by
  have hK := Maps.string_keyed hk
  obtain ⟨es, hD, hp, _⟩ := h.entries hK
  refine ⟨es, hD, hp, fun p hpm => ?_⟩
  obtain ⟨es0, c, _, F, _, hD2⟩ := h
  rw [hD] at hD2
  injection hD2 with hD2
  rw [hD2] at hpm
  obtain ⟨x, hx, rfl⟩ := List.mem_map.1 (mem_sorted.1 hpm)
  obtain ⟨y, hy⟩ := F.reads x hx
  rw [rg_of hy]
  obtain ⟨s, _, ha, hw⟩ := Go.WideMaps.string_of_keyOf hk (rd_key hy)
  exact ⟨s, ha, hw⟩
theorem nodup_leS : ∀ (l L : List ByteArray), l.Nodup → (∀ x ∈ l, x ∈ L) → l.length ≤ L.length
  | [], _, _, _ => by simp
  | x :: l, L, h, hs => by
    have hx := hs x (by simp)
    rw [List.nodup_cons] at h
    obtain ⟨A, B, rfl⟩ := List.append_of_mem hx
    have := nodup_leS l (A ++ B) h.2 (fun y hy => by
      have h1 := hs y (by simp [hy])
      rw [List.mem_append, List.mem_cons] at h1
      rw [List.mem_append]
      rcases h1 with q | q | q
      · exact .inl q
      · exact absurd (q ▸ hy) h.1
      · exact .inr q)
    simp at this ⊢
    omega
def txOf : Lit → ByteArray
  | .string a => ⟨a.toArray⟩
  | _ => ⟨#[]⟩
theorem txOf_kS (s : ByteArray) : txOf (kS s) = s := rfl
theorem txs_nodup {es : List (Lit × DataW Value)} (h : es.Pairwise (fun p q => p.1 ≠ q.1)) (hk : ∀ p ∈ es, ∃ s : ByteArray, p.1 = kS s ∧ s.size ≤ maxLen) : (es.map (fun p => txOf p.1)).Nodup := by
  rw [List.nodup_iff_pairwise_ne, List.pairwise_map]
  refine h.imp_of_mem (fun {p q} hp hq hne e => hne ?_)
  obtain ⟨i, hi, _⟩ := hk p hp
  obtain ⟨j, hj, _⟩ := hk q hq
  rw [hi, hj, txOf_kS, txOf_kS] at e
  rw [hi, hj, e]
theorem mem_hasS {es : List (Lit × DataW Value)} (hk : ∀ p ∈ es, ∃ s : ByteArray, p.1 = kS s ∧ s.size ≤ maxLen) (s : ByteArray) : s ∈ es.map (fun p => txOf p.1) ↔ Maps.has (.map es) (kS s) = true := by
  rw [Maps.has_eq, List.any_eq_true, List.mem_map]
  constructor
  · rintro ⟨p, hp, rfl⟩
    obtain ⟨i, hi, _⟩ := hk p hp
    exact ⟨p, hp, by rw [hi, txOf_kS]; exact WideAt.sameKey_self (kS_key i)⟩
  · rintro ⟨p, hp, hs⟩
    refine ⟨p, hp, ?_⟩
    rw [WideAt.sameKey_eq hs, txOf_kS]
theorem Ms.size_eq {D : DataW Value} (h : w.ownsMap P k heldR b (Maps.size D) D) (m : MsD D M) (hk : P.underlying k = some .string) {L : List ByteArray} (hL : ∀ s, s.size ≤ maxLen → ((M s).isSome = true ↔ s ∈ L)) (hs : ∀ s ∈ L, s.size ≤ maxLen) (hN : L.Nodup) : Maps.size D = L.length := by
  obtain ⟨es, rfl, hp, hn⟩ := keysS h hk
  rw [Maps.size_eq]
  apply Nat.le_antisymm
  · have := nodup_leS _ L (txs_nodup hp hn) (fun i hi => by
      have h2 := (mem_hasS hn i).1 hi
      obtain ⟨p, hp', rfl⟩ := List.mem_map.1 hi
      obtain ⟨j, hj, hj2⟩ := hn p hp'
      rw [hj, txOf_kS] at h2 ⊢
      rw [m.has j hj2] at h2
      exact (hL j hj2).1 h2)
    simpa using this
  · have := nodup_leS L (es.map (fun p => txOf p.1)) hN (fun i hi => by
      rw [mem_hasS hn, m.has i (hs i hi)]
      exact (hL i (hs i hi)).2 hi)
    simpa using this
theorem Ms.len (h : Ms P k w b c M) (hk : P.underlying k = some .string) (ht : P.underlying t = some (.map k e)) {L : List ByteArray} (hL : ∀ s, s.size ≤ maxLen → ((M s).isSome = true ↔ s ∈ L)) (hs : ∀ s ∈ L, s.size ≤ maxLen) (hN : L.Nodup) (ty : TypeId) : (Builtin.len_ #[t] ty #[.map (some b)]).run P w = .ok (.int .i64 L.length) w := by
  obtain ⟨D, h, m, _⟩ := h
  rw [h.len ht, Ms.size_eq h m hk hL hs hN]
/-- the bound is how many there are -/
theorem Ms.fit (h : Ms P k w b c M) (hk : P.underlying k = some .string) {L : List ByteArray} (hL : ∀ s, s.size ≤ maxLen → ((M s).isSome = true ↔ s ∈ L)) (hs : ∀ s ∈ L, s.size ≤ maxLen) (hN : L.Nodup) : Ms P k w b L.length M := by
  obtain ⟨D, h, m, _⟩ := h
  exact ⟨D, h, m, by rw [Ms.size_eq h m hk hL hs hN]; exact Nat.le_refl _⟩
theorem MsD.del {D : DataW Value} (m : MsD D M) (s : ByteArray) : MsD (D.del (kS s)) (updS M s none) := by
  refine ⟨fun j hj => ?_, fun j u hu z => ?_⟩
  · by_cases q : j = s
    · subst q
      rw [updS_same, Maps.has_del_same]
      rfl
    · rw [updS_other _ _ q, Maps.has_del_other (fun e => q (kS_inj e)), m.has j hj]
  · by_cases q : j = s
    · subst q
      rw [updS_same] at hu
      cases hu
    · rw [updS_other _ _ q] at hu
      rw [Maps.atKey_del_other (fun e => q (kS_inj e)), m.get j u hu]
theorem Ms.drop (h : Ms P k w b c M) (hk : P.underlying k = some .string) (ht : P.underlying t = some (.map k e)) {s : ByteArray} (hs : s.size ≤ maxLen) (ty : TypeId) :
    ∃ w' c', (Builtin.delete_ #[t, k] ty #[.map (some b), .string s]).run P w = .ok (.tuple #[]) w' ∧ Ms P k w' b c' (updS M s none) ∧ w.mapTurned w' b := by
  obtain ⟨D, h, m, hl⟩ := h
  have hK := Maps.string_keyed hk
  obtain ⟨w', h1, h2, h3⟩ := h.drop hK ht (Go.WideMaps.keyOf_string_mk hk hs) ty
  have hdel : MsD (D.del (.string s.data.toList)) (updS M s none) := m.del s
  refine ⟨w', Maps.size (D.del (.string s.data.toList)), h1, ⟨_, ?_, hdel, Nat.le_refl _⟩, h3⟩
  obtain ⟨es, c, q1, q2, q3, q4⟩ := h2
  refine ⟨es, c, q1, q2, ?_, q4⟩
  rw [q4]
  simp [Maps.size, length_sorted]
end
end Apo
