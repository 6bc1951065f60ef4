/- Maps keyed by 64-bit numbers, in memory: what each key has, whatever the elements are. Of no program. -/
import Derived.Maps.OwnSet
import Derived.Maps.RangeWalk
import Derived.Test.YticofadpbpcejaaGBa
namespace Apo
open Go Go.RowKit
open Go.MapKept
open Go.WideElems (Fit rd rg pl rd_key rd_val rg_of)
open Go.Maps (Keyed keyOf_int_mk)

/-- an element is told as it is -/
def heldR : Value → Option (DataW Value × List MemPlace) := fun v => some (.held v, [])
def k64 (i : Nat) : Lit := .int .u64 i
/-- the datum D has at each key what M says -/
structure MpD (D : DataW Value) (M : Nat → Option Value) : Prop where
  has : ∀ i, i < 18446744073709551616 → Maps.has D (k64 i) = (M i).isSome
  get : ∀ i v, M i = some v → ∀ z, D.atKey (k64 i) z = .held v
  big : ∀ i, 18446744073709551616 ≤ i → M i = none
def Mp (P : Program) (k : TypeId) (w : World) (b : Nat) (M : Nat → Option Value) : Prop := ∃ D : DataW Value, w.ownsMap P k heldR b (Maps.size D) D ∧ MpD D M
def upd {α : Type} (M : Nat → α) (i : Nat) (v : α) : Nat → α := fun j => if j = i then v else M j
theorem upd_same {α : Type} (M : Nat → α) (i : Nat) (v : α) : upd M i v i = v := by simp [upd]
theorem upd_other {α : Type} (M : Nat → α) {i j : Nat} (v : α) (h : j ≠ i) : upd M i v j = M j := by simp [upd, h]
theorem k64_inj {i j : Nat} (h : k64 i = k64 j) : i = j := by simp [k64] at h; omega
theorem k64_key (i : Nat) : WideAt.IsKeyLit (k64 i) := trivial

section
variable {P : Program} {k t e : TypeId} {w w' : World} {b : Nat} {M : Nat → Option Value}
theorem wf64 {i : Nat} (h : i < 18446744073709551616) : (Lit.int .u64 (i : Int)).wf = true := by
  exact WalkArith.wf_u64 (by omega)
theorem key64 (hk : P.underlying k = some (.int .u64)) {i : Nat} (h : i < 18446744073709551616) : keyOf P k (.int .u64 (i : Int)) = some (k64 i) := keyOf_int_mk hk (wf64 h)
theorem Mp.lt (h : Mp P k w b M) : b < w.heap.size := by obtain ⟨D, h, _⟩ := h; exact h.lt
theorem Mp.onl {F : Nat → Prop} (h : Mp P k w b M) (o : Onl F w w') (hb : ¬ F b) : Mp P k w' b M := by
  have hl := h.lt
  obtain ⟨D, ⟨es, c, h1, h2⟩, m⟩ := h
  exact ⟨D, ⟨es, c, (o.block b hl hb).trans h1, h2⟩, m⟩
theorem Mp.below (h : Mp P k w b M) (o : Below w.heap.size w w') : Mp P k w' b M := h.onl (F := fun _ => False) (Onl.ofBelow o) id
theorem Mp.made (w : World) (P : Program) (k : TypeId) : Mp P k (w.alloc (.map #[] 0)) w.heap.size (fun _ => none) :=
  ⟨.map [], World.ownsMap_made w P k heldR, ⟨fun _ _ => rfl, fun _ _ h => by simp at h, fun _ _ => rfl⟩⟩
theorem turned_onl {b : Nat} (h : w.mapTurned w' b) : Onl (fun i => i = b) w w' := (Onl.refl _ w).grown h.grown (fun j hj => .inl (by cases hj; rfl))
/-- a look-up -/
theorem Mp.look (h : Mp P k w b M) (hk : P.underlying k = some (.int .u64)) (ht : P.underlying t = some (.map k e)) {z : Value} (hz : ∀ W, (zeroValue e).run P W = .ok z W) {i : Nat} (hi : i < 18446744073709551616) :
    (Instr.lookup t (.map (some b)) (.int .u64 (i : Int)) false).run P w = .ok ((M i).getD z) w := by
  obtain ⟨D, h, m⟩ := h
  obtain ⟨v, ps, h1, h2⟩ := h.lookup (Maps.int_keyed hk) ht (hz w) (zd := .held z) (zp := []) rfl (key64 hk hi)
  have h3 : DataW.held v = D.atKey (k64 i) (.held z) := by simp [heldR] at h2; exact h2.1
  rw [h1]
  cases hM : M i with
  | none =>
    have := m.has i hi
    rw [hM] at this
    rw [Maps.atKey_of_not_has (by simpa using this)] at h3
    cases h3
    rfl
  | some u =>
    rw [m.get i u hM] at h3
    cases h3
    rfl
theorem Mp.look2 (h : Mp P k w b M) (hk : P.underlying k = some (.int .u64)) (ht : P.underlying t = some (.map k e)) {z : Value} (hz : ∀ W, (zeroValue e).run P W = .ok z W) {i : Nat} (hi : i < 18446744073709551616) :
    (Instr.lookup t (.map (some b)) (.int .u64 (i : Int)) true).run P w = .ok (.tuple #[(M i).getD z, .bool (M i).isSome]) w := by
  obtain ⟨D, h, m⟩ := h
  obtain ⟨v, ps, h1, h2⟩ := h.look_ok (Maps.int_keyed hk) ht (hz w) (zd := .held z) (zp := []) rfl (key64 hk hi)
  have h3 : DataW.held v = D.atKey (k64 i) (.held z) := by simp [heldR] at h2; exact h2.1
  rw [h1, m.has i hi]
  cases hM : M i with
  | none =>
    have := m.has i hi
    rw [hM] at this
    rw [Maps.atKey_of_not_has (by simpa using this)] at h3
    cases h3
    rfl
  | some u =>
    rw [m.get i u hM] at h3
    cases h3
    rfl
/-- the keys of the datum are those numbers -/
theorem keys64 {D : DataW Value} {n : Nat} (h : w.ownsMap P k heldR b n D) (hk : P.underlying k = some (.int .u64)) : ∃ es, D = .map es ∧ es.Pairwise (fun p q => p.1 ≠ q.1) ∧ ∀ p ∈ es, ∃ i : Nat, p.1 = k64 i ∧ i < 18446744073709551616 := by
  have hK := Maps.int_keyed hk
  obtain ⟨es, hD, hp, _⟩ := h.entries hK
  refine ⟨es, hD, hp, fun p hpm => ?_⟩
  obtain ⟨es0, c, _, F, _, hD2⟩ := h
  rw [hD] at hD2
  injection hD2 with hD2
  rw [hD2] at hpm
  obtain ⟨x, hx, rfl⟩ := List.mem_map.1 (mem_sorted.1 hpm)
  obtain ⟨y, hy⟩ := F.reads x hx
  rw [rg_of hy]
  obtain ⟨a, _, ha, hw⟩ := Maps.keyOf_int_inv hk (rd_key hy)
  refine ⟨a.toNat, ?_, ?_⟩
  · rw [ha]
    unfold k64
    have := bounds_u64 hw
    congr 1
    omega
  · have := bounds_u64 hw
    omega
theorem nodup_le : ∀ (l L : List Nat), l.Nodup → (∀ x ∈ l, x ∈ L) → l.length ≤ L.length
  | [], _, _, _ => by simp
  | x :: l, L, h, hs => by
    have hx := hs x (by simp)
    rw [List.nodup_cons] at h
    have := nodup_le l (L.erase x) h.2 (fun y hy => (List.mem_erase_of_ne (fun e => h.1 (by rw [← e]; exact hy))).2 (hs y (by simp [hy])))
    rw [List.length_erase_of_mem hx] at this
    have : 0 < L.length := List.length_pos_of_mem hx
    simp
    omega
def natOf : Lit → Nat
  | .int _ a => a.toNat
  | _ => 0
theorem natOf_k64 (i : Nat) : natOf (k64 i) = i := by simp [natOf, k64]
theorem nats_nodup {es : List (Lit × DataW Value)} (h : es.Pairwise (fun p q => p.1 ≠ q.1)) (hk : ∀ p ∈ es, ∃ i : Nat, p.1 = k64 i ∧ i < 18446744073709551616) : (es.map (fun p => natOf p.1)).Nodup := by
  rw [List.nodup_iff_pairwise_ne, List.pairwise_map]
  refine h.imp_of_mem (fun {p q} hp hq hne e => hne ?_)
  obtain ⟨i, hi, _⟩ := hk p hp
  obtain ⟨j, hj, _⟩ := hk q hq
  rw [hi, hj, natOf_k64, natOf_k64] at e
  rw [hi, hj, e]
theorem mem_has {es : List (Lit × DataW Value)} (hk : ∀ p ∈ es, ∃ i : Nat, p.1 = k64 i ∧ i < 18446744073709551616) (i : Nat) : i ∈ es.map (fun p => natOf p.1) ↔ Maps.has (.map es) (k64 i) = true := by
  rw [Maps.has_eq, List.any_eq_true, List.mem_map]
  constructor
  · rintro ⟨p, hp, rfl⟩
    obtain ⟨i, hi, _⟩ := hk p hp
    exact ⟨p, hp, by rw [hi, natOf_k64]; exact WideAt.sameKey_self (k64_key i)⟩
  · rintro ⟨p, hp, hs⟩
    refine ⟨p, hp, ?_⟩
    rw [WideAt.sameKey_eq hs, natOf_k64]
/-- how many there are -/
theorem Mp.size {D : DataW Value} (h : w.ownsMap P k heldR b (Maps.size D) D) (m : MpD D M) (hk : P.underlying k = some (.int .u64)) {L : List Nat} (hL : ∀ i, M i ≠ none → i ∈ L) : Maps.size D ≤ L.length := by
  obtain ⟨es, rfl, hp, hn⟩ := keys64 h hk
  rw [Maps.size_eq]
  have := nodup_le _ L (nats_nodup hp hn) (fun i hi => hL i (fun e => by
    obtain ⟨p, hp', rfl⟩ := List.mem_map.1 hi
    obtain ⟨j, hj, hj2⟩ := hn p hp'
    have h2 := (mem_has hn _).1 hi
    rw [hj, natOf_k64] at h2 e
    rw [m.has j hj2, e] at h2
    simp at h2))
  simpa using this
theorem Mp.size_eq {D : DataW Value} (h : w.ownsMap P k heldR b (Maps.size D) D) (m : MpD D M) (hk : P.underlying k = some (.int .u64)) {L : List Nat} (hL : ∀ i, M i ≠ none ↔ i ∈ L) (hN : L.Nodup) : Maps.size D = L.length := by
  apply Nat.le_antisymm (Mp.size h m hk (fun i hi => (hL i).1 hi))
  obtain ⟨es, rfl, hp, hn⟩ := keys64 h hk
  rw [Maps.size_eq]
  have := nodup_le L (es.map (fun p => natOf p.1)) hN (fun i hi => by
    have h1 := (hL i).2 hi
    have h2 : i < 18446744073709551616 := by
      by_cases q : i < 18446744073709551616
      · exact q
      · exact absurd (m.big i (by omega)) h1
    rw [mem_has hn, m.has i h2]
    cases hM : M i
    · exact absurd hM h1
    · rfl)
  simpa using this
theorem Mp.len (h : Mp P k w b M) (hk : P.underlying k = some (.int .u64)) (ht : P.underlying t = some (.map k e)) {L : List Nat} (hL : ∀ i, M i ≠ none ↔ i ∈ L) (hN : L.Nodup) (ty : TypeId) : (Builtin.len_ #[t] ty #[.map (some b)]).run P w = .ok (.int .i64 L.length) w := by
  obtain ⟨D, h, m⟩ := h
  rw [h.len ht, Mp.size_eq h m hk hL hN]
theorem MpD.put {D : DataW Value} (m : MpD D M) (hD : Maps.IsMap D) {i : Nat} (hi : i < 18446744073709551616) (v : Value) : MpD (D.put (k64 i) (.held v)) (upd M i (some v)) := by
  refine ⟨fun j hj => ?_, fun j u hu z => ?_, fun j hj => ?_⟩
  · by_cases q : j = i
    · subst q
      rw [upd_same, Maps.has_put_same hD (k64_key _)]
      rfl
    · rw [upd_other _ _ q, Maps.has_put_other (fun e => q (k64_inj e)), m.has j hj]
  · by_cases q : j = i
    · subst q
      rw [upd_same] at hu
      cases hu
      exact Maps.atKey_put_same hD (k64_key _) _ _
    · rw [upd_other _ _ q] at hu
      rw [Maps.atKey_put_other (fun e => q (k64_inj e)), m.get j u hu]
  · rw [upd_other _ _ (by omega)]
    exact m.big j hj
theorem MpD.del {D : DataW Value} (m : MpD D M) (i : Nat) : MpD (D.del (k64 i)) (upd M i none) := by
  refine ⟨fun j hj => ?_, fun j u hu z => ?_, fun j hj => ?_⟩
  · by_cases q : j = i
    · subst q
      rw [upd_same, Maps.has_del_same]
      rfl
    · rw [upd_other _ _ q, Maps.has_del_other (fun e => q (k64_inj e)), m.has j hj]
  · by_cases q : j = i
    · subst q
      rw [upd_same] at hu
      cases hu
    · rw [upd_other _ _ q] at hu
      rw [Maps.atKey_del_other (fun e => q (k64_inj e)), m.get j u hu]
  · by_cases q : j = i
    · subst q; exact upd_same _ _ _
    · rw [upd_other _ _ q]
      exact m.big j hj
theorem Mp.store (h : Mp P k w b M) (hk : P.underlying k = some (.int .u64)) (ht : P.underlying t = some (.map k e)) {L : List Nat} (hL : ∀ i, M i ≠ none → i ∈ L) (hl : L.length < maxLen) {i : Nat} (hi : i < 18446744073709551616) (v : Value) :
    ∃ w', (Instr.mapUpdate t (.map (some b)) (.int .u64 (i : Int)) v).run P w = .ok () w' ∧ Mp P k w' b (upd M i (some v)) ∧ w.mapTurned w' b := by
  obtain ⟨D, h, m⟩ := h
  have hK := Maps.int_keyed hk
  have hs := Mp.size h m hk hL
  obtain ⟨w', h1, h2, h3⟩ := h.store hK ht (Nat.lt_of_le_of_lt hs hl) (key64 hk hi) (val := v) (d := .held v) (ps := []) rfl
  refine ⟨w', h1, ⟨_, ?_, m.put h.isMap hi v⟩, h3⟩
  obtain ⟨es, c, q1, q2, q3, q4⟩ := h2
  refine ⟨es, c, q1, q2, ?_, q4⟩
  rw [q4]
  simp [Maps.size, length_sorted]
theorem Mp.drop (h : Mp P k w b M) (hk : P.underlying k = some (.int .u64)) (ht : P.underlying t = some (.map k e)) {i : Nat} (hi : i < 18446744073709551616) (ty : TypeId) :
    ∃ w', (Builtin.delete_ #[t, k] ty #[.map (some b), .int .u64 (i : Int)]).run P w = .ok (.tuple #[]) w' ∧ Mp P k w' b (upd M i none) ∧ w.mapTurned w' b := by
  obtain ⟨D, h, m⟩ := h
  have hK := Maps.int_keyed hk
  obtain ⟨w', h1, h2, h3⟩ := h.drop hK ht (key64 hk hi) ty
  refine ⟨w', h1, ⟨_, ?_, m.del i⟩, h3⟩
  obtain ⟨es, c, q1, q2, q3, q4⟩ := h2
  refine ⟨es, c, q1, q2, ?_, q4⟩
  rw [q4]
  simp [Maps.size, length_sorted]
end
end Apo
