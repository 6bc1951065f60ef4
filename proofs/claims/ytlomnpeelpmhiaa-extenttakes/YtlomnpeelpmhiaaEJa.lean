/- join, all ways together, over the translation. -/
import Derived.Test.YtlomnpeelpmhiaaEJz
import Derived.Test.YtlomnpeelpmhiaaEJy
import Derived.Test.YtlomnpeelpmhiaaEJn
namespace Go.Proofs.Ytlomnpeelpmhiaa
open Go.RowKit Apo

theorem beq_no {a b : Int} (h : a ≠ b) : (a == b) = false := by simpa using h
set_option maxHeartbeats 1000000 in
theorem join_any {O : Nat → Prop} {w : World} {p : Nat} {f : Fr} (h : CFr O w p f) (hO : ∀ i, O i → i < w.heap.size) {s : Spn} (hs : f.all s false = true) :
    Calls Try.prog 33 #[.pointer (some ⟨p, 0, none⟩), .agg #[.int .i64 s.a, .int .i64 s.k]] w fun e w' => e = .returned (.tuple #[]) ∧ CFr (Gro O w w') w' p (f.put s true) ∧ Onl O w w' := by
  obtain ⟨v, m0, r0⟩ := h.mem
  have hp := h.own
  have hok := h.ok
  obtain ⟨s1, s2, s3, _⟩ := all_iff.1 hs
  have hlen := hok.len
  have hsa : 0 ≤ s.a ∧ s.a ≤ 16384 ∧ 1 ≤ s.k ∧ s.k ≤ 16384 := by omega
  have hrl := crows_len hok
  have K0 : Jn O w p f v s.a s.k (w.alloc (.cells #[.int .i64 s.a, .int .i64 s.k] 29)) :=
    ⟨m0.alloc _, r0.onl (F := fun _ => False) ((Onl.refl _ w).alloc _) (fun _ _ q => q), Ob.new w [.int .i64 s.a, .int .i64 s.k] 29, (Below.refl _ w).alloc (Nat.le_refl _) _⟩
  have hF : ∀ W, Jn O w p f v s.a s.k W → Calls Try.prog 26 #[.pointer (some ⟨p, 0, none⟩), .func (.func 39) #[.agg #[.int .i64 s.a, .int .i64 s.k]] #[]] W fun e W' => e = .returned (.int .i64 (idx (ahb s) f.rows)) ∧ Below W.heap.size W W' :=
    fun W K => find_any ⟨hok, hp, v, K.m, K.r⟩ (tells_ahead s f.rows)
  have hxo := crow_ok hok
  have hah : ∀ y, ahb s y = true ↔ s.a < (y.1 : Int) := fun y => by unfold ahb; exact decide_eq_true_iff
  have hahn : ∀ y, ahb s y = false → (y.1 : Int) ≤ s.a := fun y q => by
    unfold ahb at q
    have := of_decide_eq_false q
    omega
  rcases idx_cases (ahb s) f.rows with ⟨i, z, he, hz, hpz, hno⟩ | ⟨he, hno⟩
  · -- there is a row behind it
    have hil := (List.getElem?_eq_some_iff.1 hz).1
    have hA : ∀ j y, j < i → f.rows[j]? = some y → (y.1 : Int) ≤ s.a := fun j y hj hy => hahn y (hno j y hj hy)
    have hB : ∀ j y, i ≤ j → f.rows[j]? = some y → s.a < (y.1 : Int) := fun j y hj hy => by
      have h1 := (hah z).1 hpz
      rcases Nat.eq_or_lt_of_le hj with rfl | q
      · rw [hz] at hy
        cases hy
        exact h1
      · have := rows_lt hz hy q
        omega
    have hzx := hxo z (List.mem_of_getElem? hz)
    obtain ⟨g, cap, rfl, _⟩ := row_cell r0 hz
    rw [he] at hF
    have J := fun lo' hi' st en => join_all (lo := i) (lo' := lo') (hi' := hi') (st := st) (en := en) hs (Nat.le_of_lt hil) hA hB
    by_cases hi0 : i = 0
    · subst hi0
      by_cases hze : (z.1 : Int) = s.a + s.k
      · exact join_zero_yes hO hp hok hs hsa K0 hF hz hzx hze hil (st := s.a.toNat) (en := z.1 + z.2) (by omega) (by omega)
          (J 0 1 _ _ (.inl ⟨rfl, by omega, fun _ q => by omega⟩) (.inr ⟨rfl, z, hz, hze, rfl⟩))
      · exact join_zero_no hO hp hok hs hsa K0 hF hz hzx (beq_no hze) hil (st := s.a.toNat) (en := (s.a + s.k).toNat) (by omega) (by omega)
          (J 0 0 _ _ (.inl ⟨rfl, by omega, fun _ q => by omega⟩) (.inl ⟨rfl, by omega, fun z' hz' => by rw [hz] at hz'; cases hz'; exact hze⟩))
    · have hl1 : i - 1 < f.rows.length := by omega
      have hy : f.rows[i - 1]? = some f.rows[i - 1] := List.getElem?_eq_getElem hl1
      have hyx := hxo _ (List.getElem_mem hl1)
      generalize f.rows[i - 1] = y at hy hyx
      have wy : IntKind.i64.wrap ((i : Int) - 1) = ((i - 1 : Nat) : Int) := wrap_nat (by omega) (by omega)
      by_cases hye : (y.1 : Int) + y.2 = s.a
      · by_cases hze : (z.1 : Int) = s.a + s.k
        · exact join_yes_yes hO hp hok hs hsa K0 hF hil (by omega) (ly := i - 1) (by omega) hy hyx wy hz hzx hye hze (st := y.1) (en := z.1 + z.2) rfl (by omega)
            (J (i - 1) (i + 1) _ _ (.inr ⟨by omega, rfl, y, hy, hye, rfl⟩) (.inr ⟨rfl, z, hz, hze, rfl⟩))
        · exact join_yes_no hO hp hok hs hsa K0 hF hil (by omega) (ly := i - 1) (by omega) hy hyx wy hz hzx hye (beq_no hze) (st := y.1) (en := (s.a + s.k).toNat) rfl (by omega)
            (J (i - 1) i _ _ (.inr ⟨by omega, rfl, y, hy, hye, rfl⟩) (.inl ⟨rfl, by omega, fun z' hz' => by rw [hz] at hz'; cases hz'; exact hze⟩))
      · by_cases hze : (z.1 : Int) = s.a + s.k
        · exact join_no_yes hO hp hok hs hsa K0 hF hil (by omega) (ly := i - 1) (by omega) hy hyx wy hz hzx (beq_no hye) hze (st := s.a.toNat) (en := z.1 + z.2) (by omega) (by omega)
            (J i (i + 1) _ _ (.inl ⟨rfl, by omega, fun y' _ hy' => by rw [hy] at hy'; cases hy'; exact hye⟩) (.inr ⟨rfl, z, hz, hze, rfl⟩))
        · exact join_no_no hO hp hok hs hsa K0 hF hil (by omega) (ly := i - 1) (by omega) hy hyx wy hz hzx (beq_no hye) (beq_no hze) (st := s.a.toNat) (en := (s.a + s.k).toNat) (by omega) (by omega)
            (J i i _ _ (.inl ⟨rfl, by omega, fun y' _ hy' => by rw [hy] at hy'; cases hy'; exact hye⟩) (.inl ⟨rfl, by omega, fun z' hz' => by rw [hz] at hz'; cases hz'; exact hze⟩))
  · -- there is none
    have hA : ∀ j y, j < f.rows.length → f.rows[j]? = some y → (y.1 : Int) ≤ s.a := fun j y _ hy => hahn y (hno y (List.mem_of_getElem? hy))
    have hB : ∀ j y, f.rows.length ≤ j → f.rows[j]? = some y → s.a < (y.1 : Int) := fun j y hj hy => by
      have := (List.getElem?_eq_some_iff.1 hy).1
      omega
    have J := fun lo' st en => join_all (lo := f.rows.length) (lo' := lo') (hi' := f.rows.length) (st := st) (en := en) hs (Nat.le_refl _) hA hB
    have hn : ∀ z', f.rows[f.rows.length]? = some z' → (z'.1 : Int) ≠ s.a + s.k := fun z' hz' => by
      have := (List.getElem?_eq_some_iff.1 hz').1
      omega
    rw [he] at hF
    by_cases h0 : f.rows.length = 0
    · obtain ⟨va, vc, e⟩ := own_len2 r0.1
      subst e
      have J0 := J 0 s.a.toNat (s.a + s.k).toNat (.inl ⟨by omega, by omega, fun _ q => by omega⟩) (.inl ⟨rfl, by omega, hn⟩)
      rw [h0] at K0 hF
      have e0 : f.rows.drop f.rows.length = f.rows.drop 0 := by rw [h0]
      rw [e0] at J0
      exact join_zero_none hO hp hok hs hsa h0 K0 hF (st := s.a.toNat) (en := (s.a + s.k).toNat) (by omega) (by omega) ⟨J0.1, Nat.le_refl _, by omega, J0.2.2.2⟩
    · have hl1 : f.rows.length - 1 < f.rows.length := by omega
      have hy : f.rows[f.rows.length - 1]? = some f.rows[f.rows.length - 1] := List.getElem?_eq_getElem hl1
      have hyx := hxo _ (List.getElem_mem hl1)
      generalize f.rows[f.rows.length - 1] = y at hy hyx
      obtain ⟨g, cap, rfl, _⟩ := row_cell r0 hy
      have wy : IntKind.i64.wrap ((f.rows.length : Int) - 1) = ((f.rows.length - 1 : Nat) : Int) := wrap_nat (by omega) (by omega)
      by_cases hye : (y.1 : Int) + y.2 = s.a
      · exact join_yes_none hO hp hok hs hsa K0 hF rfl (by omega) (ly := f.rows.length - 1) (by omega) hy hyx wy hye (st := y.1) (en := (s.a + s.k).toNat) rfl (by omega)
          (J (f.rows.length - 1) _ _ (.inr ⟨by omega, rfl, y, hy, hye, rfl⟩) (.inl ⟨rfl, by omega, hn⟩))
      · exact join_no_none hO hp hok hs hsa K0 hF rfl (by omega) (ly := f.rows.length - 1) (by omega) hy hyx wy (beq_no hye) (st := s.a.toNat) (en := (s.a + s.k).toNat) (by omega) (by omega)
          (J f.rows.length _ _ (.inl ⟨rfl, by omega, fun y' _ hy' => by rw [hy] at hy'; cases hy'; exact hye⟩) (.inl ⟨rfl, by omega, hn⟩))
end Go.Proofs.Ytlomnpeelpmhiaa
