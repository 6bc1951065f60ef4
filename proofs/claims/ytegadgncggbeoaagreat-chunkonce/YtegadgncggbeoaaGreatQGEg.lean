/- join, all ways together, over the translation. New, Take, Claim and Has of the program's Free, over the translation. Give of the program's Free, over the translation. -/
import Derived.Test.YtegadgncggbeoaaGreatQEJz
import Derived.Test.YtegadgncggbeoaaGreatQEJy
import Derived.Test.YtegadgncggbeoaaGreatQEJn
import Derived.Test.YtegadgncggbeoaaGreatQECu
namespace Go.Proofs.YtegadgncggbeoaaGreat
open Go.RowKit Apo

set_option maxRecDepth 100000 in
theorem beq_no {a b : Int} (h : a ≠ b) : (a == b) = false := by simpa using h
set_option maxRecDepth 100000 in
set_option maxHeartbeats 1000000 in
theorem join_any {O : Nat → Prop} {w : World} {p : Nat} {f : Fr} (h : CFr O w p f) (hO : ∀ i, O i → i < w.heap.size) {s : Spn} (hs : f.all s false = true) :
    Calls Tryz.prog 131 #[.pointer (some ⟨p, 0, none⟩), .agg #[.int .i64 s.a, .int .i64 s.k]] w fun e w' => e = .returned (.tuple #[]) ∧ CFr (Gro O w w') w' p (f.put s true) ∧ Onl O w w' := by
  obtain ⟨v, m0, r0⟩ := h.mem
  have hp := h.own
  have hok := h.ok
  obtain ⟨s1, s2, s3, _⟩ := all_iff.1 hs
  have hlen := hok.len
  have hsa : 0 ≤ s.a ∧ s.a ≤ 16384 ∧ 1 ≤ s.k ∧ s.k ≤ 16384 := by omega
  have hrl := crows_len hok
  have K0 : Jn O w p f v s.a s.k (w.alloc (.cells #[.int .i64 s.a, .int .i64 s.k] 84)) :=
    ⟨m0.alloc _, r0.onl (F := fun _ => False) ((Onl.refl _ w).alloc _) (fun _ _ q => q), Ob.new w [.int .i64 s.a, .int .i64 s.k] 84, (Below.refl _ w).alloc (Nat.le_refl _) _⟩
  have hF : ∀ W, Jn O w p f v s.a s.k W → Calls Tryz.prog 104 #[.pointer (some ⟨p, 0, none⟩), .func (.func 147) #[.agg #[.int .i64 s.a, .int .i64 s.k]] #[]] W fun e W' => e = .returned (.int .i64 (idx (ahb s) f.rows)) ∧ Below W.heap.size W W' :=
    fun W K => find_any ⟨hok, hp, v, K.m, K.r⟩ (tells_ahead s f.rows)
  have hxo := crow_ok hok
  have hah : ∀ y, ahb s y = true ↔ s.a < (y.1 : Int) := fun y => by unfold ahb; exact decide_eq_true_iff
  have hahn : ∀ y, ahb s y = false → (y.1 : Int) ≤ s.a := fun y q => by
    unfold ahb at q
    have := of_decide_eq_false q
    omega
  rcases idx_cases (ahb s) f.rows with ⟨i, z, he, hz, hpz, hno⟩ | ⟨he, hno⟩
  · -- there is a row behind it
    have hil := (List.getElem?_eq_some_iff.1 hz).1
    have hA : ∀ j y, j < i → f.rows[j]? = some y → (y.1 : Int) ≤ s.a := fun j y hj hy => hahn y (hno j y hj hy)
    have hB : ∀ j y, i ≤ j → f.rows[j]? = some y → s.a < (y.1 : Int) := fun j y hj hy => by
      have h1 := (hah z).1 hpz
      rcases Nat.eq_or_lt_of_le hj with rfl | q
      · rw [hz] at hy
        cases hy
        exact h1
      · have := rows_lt hz hy q
        omega
    have hzx := hxo z (List.mem_of_getElem? hz)
    obtain ⟨g, cap, rfl, _⟩ := row_cell r0 hz
    rw [he] at hF
    have J := fun lo' hi' st en => join_all (lo := i) (lo' := lo') (hi' := hi') (st := st) (en := en) hs (Nat.le_of_lt hil) hA hB
    by_cases hi0 : i = 0
    · subst hi0
      by_cases hze : (z.1 : Int) = s.a + s.k
      · exact join_zero_yes hO hp hok hs hsa K0 hF hz hzx hze hil (st := s.a.toNat) (en := z.1 + z.2) (by omega) (by omega)
          (J 0 1 _ _ (.inl ⟨rfl, by omega, fun _ q => by omega⟩) (.inr ⟨rfl, z, hz, hze, rfl⟩))
      · exact join_zero_no hO hp hok hs hsa K0 hF hz hzx (beq_no hze) hil (st := s.a.toNat) (en := (s.a + s.k).toNat) (by omega) (by omega)
          (J 0 0 _ _ (.inl ⟨rfl, by omega, fun _ q => by omega⟩) (.inl ⟨rfl, by omega, fun z' hz' => by rw [hz] at hz'; cases hz'; exact hze⟩))
    · have hl1 : i - 1 < f.rows.length := by omega
      have hy : f.rows[i - 1]? = some f.rows[i - 1] := List.getElem?_eq_getElem hl1
      have hyx := hxo _ (List.getElem_mem hl1)
      generalize f.rows[i - 1] = y at hy hyx
      have wy : IntKind.i64.wrap ((i : Int) - 1) = ((i - 1 : Nat) : Int) := wrap_nat (by omega) (by omega)
      by_cases hye : (y.1 : Int) + y.2 = s.a
      · by_cases hze : (z.1 : Int) = s.a + s.k
        · exact join_yes_yes hO hp hok hs hsa K0 hF hil (by omega) (ly := i - 1) (by omega) hy hyx wy hz hzx hye hze (st := y.1) (en := z.1 + z.2) rfl (by omega)
            (J (i - 1) (i + 1) _ _ (.inr ⟨by omega, rfl, y, hy, hye, rfl⟩) (.inr ⟨rfl, z, hz, hze, rfl⟩))
        · exact join_yes_no hO hp hok hs hsa K0 hF hil (by omega) (ly := i - 1) (by omega) hy hyx wy hz hzx hye (beq_no hze) (st := y.1) (en := (s.a + s.k).toNat) rfl (by omega)
            (J (i - 1) i _ _ (.inr ⟨by omega, rfl, y, hy, hye, rfl⟩) (.inl ⟨rfl, by omega, fun z' hz' => by rw [hz] at hz'; cases hz'; exact hze⟩))
      · by_cases hze : (z.1 : Int) = s.a + s.k
        · exact join_no_yes hO hp hok hs hsa K0 hF hil (by omega) (ly := i - 1) (by omega) hy hyx wy hz hzx (beq_no hye) hze (st := s.a.toNat) (en := z.1 + z.2) (by omega) (by omega)
            (J i (i + 1) _ _ (.inl ⟨rfl, by omega, fun y' _ hy' => by rw [hy] at hy'; cases hy'; exact hye⟩) (.inr ⟨rfl, z, hz, hze, rfl⟩))
        · exact join_no_no hO hp hok hs hsa K0 hF hil (by omega) (ly := i - 1) (by omega) hy hyx wy hz hzx (beq_no hye) (beq_no hze) (st := s.a.toNat) (en := (s.a + s.k).toNat) (by omega) (by omega)
            (J i i _ _ (.inl ⟨rfl, by omega, fun y' _ hy' => by rw [hy] at hy'; cases hy'; exact hye⟩) (.inl ⟨rfl, by omega, fun z' hz' => by rw [hz] at hz'; cases hz'; exact hze⟩))
  · -- there is none
    have hA : ∀ j y, j < f.rows.length → f.rows[j]? = some y → (y.1 : Int) ≤ s.a := fun j y _ hy => hahn y (hno y (List.mem_of_getElem? hy))
    have hB : ∀ j y, f.rows.length ≤ j → f.rows[j]? = some y → s.a < (y.1 : Int) := fun j y hj hy => by
      have := (List.getElem?_eq_some_iff.1 hy).1
      omega
    have J := fun lo' st en => join_all (lo := f.rows.length) (lo' := lo') (hi' := f.rows.length) (st := st) (en := en) hs (Nat.le_refl _) hA hB
    have hn : ∀ z', f.rows[f.rows.length]? = some z' → (z'.1 : Int) ≠ s.a + s.k := fun z' hz' => by
      have := (List.getElem?_eq_some_iff.1 hz').1
      omega
    rw [he] at hF
    by_cases h0 : f.rows.length = 0
    · obtain ⟨va, vc, e⟩ := own_len2 r0.1
      subst e
      have J0 := J 0 s.a.toNat (s.a + s.k).toNat (.inl ⟨by omega, by omega, fun _ q => by omega⟩) (.inl ⟨rfl, by omega, hn⟩)
      rw [h0] at K0 hF
      have e0 : f.rows.drop f.rows.length = f.rows.drop 0 := by rw [h0]
      rw [e0] at J0
      exact join_zero_none hO hp hok hs hsa h0 K0 hF (st := s.a.toNat) (en := (s.a + s.k).toNat) (by omega) (by omega) ⟨J0.1, Nat.le_refl _, by omega, J0.2.2.2⟩
    · have hl1 : f.rows.length - 1 < f.rows.length := by omega
      have hy : f.rows[f.rows.length - 1]? = some f.rows[f.rows.length - 1] := List.getElem?_eq_getElem hl1
      have hyx := hxo _ (List.getElem_mem hl1)
      generalize f.rows[f.rows.length - 1] = y at hy hyx
      obtain ⟨g, cap, rfl, _⟩ := row_cell r0 hy
      have wy : IntKind.i64.wrap ((f.rows.length : Int) - 1) = ((f.rows.length - 1 : Nat) : Int) := wrap_nat (by omega) (by omega)
      by_cases hye : (y.1 : Int) + y.2 = s.a
      · exact join_yes_none hO hp hok hs hsa K0 hF rfl (by omega) (ly := f.rows.length - 1) (by omega) hy hyx wy hye (st := y.1) (en := (s.a + s.k).toNat) rfl (by omega)
          (J (f.rows.length - 1) _ _ (.inr ⟨by omega, rfl, y, hy, hye, rfl⟩) (.inl ⟨rfl, by omega, hn⟩))
      · exact join_no_none hO hp hok hs hsa K0 hF rfl (by omega) (ly := f.rows.length - 1) (by omega) hy hyx wy (beq_no hye) (st := s.a.toNat) (en := (s.a + s.k).toNat) (by omega) (by omega)
          (J f.rows.length _ _ (.inl ⟨rfl, by omega, fun y' _ hy' => by rw [hy] at hy'; cases hy'; exact hye⟩) (.inl ⟨rfl, by omega, hn⟩))
end Go.Proofs.YtegadgncggbeoaaGreat
namespace Go.Proofs.YtegadgncggbeoaaGreat
open Go.RowKit Apo

set_option maxRecDepth 100000 in
theorem CFr.since {O : Nat → Prop} {w W W' : World} {p : Nat} {f : Fr} (hb : Below w.heap.size w W) (h : CFr (Gro O W W') W' p f) (ho : Onl O W W') : CFr (Gro O w W') W' p f ∧ Onl O w W' :=
  ⟨h.mono (fun _ hi => hi.elim (fun q => .inl q) (fun q => .inr ⟨Nat.le_trans hb.size q.1, q.2⟩)), (Onl.ofBelow hb).trans ho⟩
set_option maxRecDepth 100000 in
theorem CFr.still {O : Nat → Prop} {w W : World} {p : Nat} {f : Fr} (h : CFr O w p f) (hb : Below w.heap.size w W) : CFr (Gro O w W) W p f ∧ Onl O w W := ⟨(h.below hb).mono (fun _ hi => .inl hi), Onl.ofBelow hb⟩
set_option maxRecDepth 100000 in
theorem hxp_of {n : Int} {x : Nat × Nat} (h : ftb n x = true) : wnb ⟨(x.1 : Int), n⟩ x = true := by
  obtain ⟨h1, h2⟩ := ftb_iff.1 h
  exact wnb_iff.2 ⟨h1, Int.le_refl _, by simp only; omega⟩
set_option maxRecDepth 100000 in
theorem take_some {f : Fr} {n : Int} {i : Nat} (h : f.first n = some i) : f.take n = (((i : Int), true), f.put ⟨i, n⟩ false) := by unfold Fr.take; rw [h]
set_option maxRecDepth 100000 in
theorem take_none {f : Fr} {n : Int} (h : f.first n = none) : f.take n = ((0, false), f) := by unfold Fr.take; rw [h]

set_option maxRecDepth 100000 in
set_option maxHeartbeats 1000000 in
theorem ctake_any {O : Nat → Prop} {w : World} {p : Nat} {f : Fr} (h : CFr O w p f) (hO : ∀ i, O i → i < w.heap.size) (n : Int) :
    Calls Tryz.prog 73 #[.pointer (some ⟨p, 0, none⟩), .int .i64 n] w fun e w' => e = .returned (.tuple #[.int .i64 (f.take n).1.1, .bool (f.take n).1.2]) ∧ CFr (Gro O w w') w' p (f.take n).2 ∧ Onl O w w' := by
  have C := find_any h (tells_fits n f.rows)
  have HH := hide h
  rcases idx_cases (ftb n) f.rows with ⟨i, x, he, hx, hpx, hno⟩ | ⟨he, hno⟩
  · rw [take_some (find_first h.ok hx hpx hno)]
    rw [he] at C
    have hxp := hxp_of hpx
    have hil := (List.getElem?_eq_some_iff.1 hx).1
    have HX := hide hx
    have HO := hide hO
    clear hx hpx hno he hO h
    go_enter Tryz.func73, Tryz.ntmps73
    go_wp2_with fail
    refine C.mono ?_
    rintro e W1 ⟨rfl, b⟩
    have c1 := HH.out.below b
    obtain ⟨v, m1, r1⟩ := c1.mem
    obtain ⟨g, cap, rfl, _, k1, k2, _⟩ := row_cell r1 HX.out
    have kp := m1.cell 3
    simp only [List.getElem?_cons_succ, List.getElem?_cons_zero] at kp
    have CC := cut_any c1 (fun i hi => Nat.lt_of_lt_of_le (HO.out i hi) b.size) (s := ⟨(x.1 : Int), n⟩) HX.out hxp
    have HB := hide b
    clear c1 m1 r1 b C
    go_wp2_with fail
    refine CC.mono ?_
    rintro e W2 ⟨rfl, c2, o2⟩
    have HR := hide (CFr.since HB.out c2 o2)
    clear c2 o2
    go_wp2
    refine bodyPost_ret (by simp [results, Tryz.results73, go_sem]; rfl) rfl ?_
    exact ⟨rfl, HR.out⟩
  · rw [take_none (find_none h.ok hno)]
    rw [he] at C
    clear hno he hO h
    go_enter Tryz.func73, Tryz.ntmps73
    go_wp2_with fail
    refine C.mono ?_
    rintro e W1 ⟨rfl, b⟩
    have HR := hide (CFr.still HH.out b)
    clear b C
    go_wp2
    refine bodyPost_ret (by simp [results, Tryz.results73, go_sem]; rfl) rfl ?_
    exact ⟨rfl, HR.out⟩
set_option maxRecDepth 100000 in
set_option maxHeartbeats 1000000 in
theorem cclaim_any {O : Nat → Prop} {w : World} {p : Nat} {f : Fr} (h : CFr O w p f) (hO : ∀ i, O i → i < w.heap.size) (s : Spn) (hs : Spn.Ok s) :
    Calls Tryz.prog 74 #[.pointer (some ⟨p, 0, none⟩), .agg #[.int .i64 s.a, .int .i64 s.k]] w fun e w' => e = .returned (.bool (f.claim s).1) ∧ CFr (Gro O w w') w' p (f.claim s).2 ∧ Onl O w w' := by
  have b0 := (Below.refl w.heap.size w).alloc (Nat.le_refl _) (.cells #[.int .i64 s.a, .int .i64 s.k] 84)
  have C := find_any (h.below b0) (tells_within s hs (crow_ok h.ok))
  have k0 := Ob.new w [.int .i64 s.a, .int .i64 s.k] 84
  have HH := hide h
  have HB0 := hide b0
  have hall := all_rows h.ok s
  rcases idx_cases (wnb s) f.rows with ⟨i, x, he, hx, hpx, hno⟩ | ⟨he, hno⟩
  · have hc : f.claim s = (true, f.put s false) := by
      unfold Fr.claim
      rw [if_pos]
      rw [hall, List.any_eq_true]
      exact ⟨x, List.mem_of_getElem? hx, hpx⟩
    rw [hc]
    rw [he] at C
    have HX := hide hx
    have HO := hide hO
    have HP := hide hpx
    have HK := hide k0
    clear hx hpx hno he hO h b0 hc hall k0
    go_enter Tryz.func74, Tryz.ntmps74
    go_wp2_with fail
    refine C.mono ?_
    rintro e W1 ⟨rfl, b⟩
    have B1 := HB0.out.trans (b.mono HB0.out.size)
    have k1 := HK.out.old b
    have x0 := k1.cell 0
    have x1 := k1.cell 1
    simp only [List.getElem?_cons_succ, List.getElem?_cons_zero] at x0 x1
    have CC := cut_any (HH.out.below B1) (fun i hi => Nat.lt_of_lt_of_le (HO.out i hi) B1.size) (s := s) HX.out HP.out
    have HB := hide B1
    clear b B1 C k1
    go_wp2_with fail
    refine CC.mono ?_
    rintro e W2 ⟨rfl, c2, o2⟩
    have HR := hide (CFr.since HB.out c2 o2)
    clear c2 o2
    go_wp2
    go_ret
    exact ⟨rfl, HR.out⟩
  · have hc : f.claim s = (false, f) := by
      unfold Fr.claim
      rw [if_neg]
      rw [hall, List.any_eq_true]
      rintro ⟨x, hx, q⟩
      rw [hno x hx] at q
      cases q
    rw [hc]
    rw [he] at C
    clear hno he hO h b0 hc hall k0
    go_enter Tryz.func74, Tryz.ntmps74
    go_wp2_with fail
    refine C.mono ?_
    rintro e W1 ⟨rfl, b⟩
    have HR := hide (CFr.still HH.out (HB0.out.trans (b.mono HB0.out.size)))
    clear b C
    go_wp2
    go_ret
    exact ⟨rfl, HR.out⟩
end Go.Proofs.YtegadgncggbeoaaGreat
namespace Go.Proofs.YtegadgncggbeoaaGreat
open Go.RowKit Apo

/-- what Give has in its variables -/
structure Gv (O : Nat → Prop) (w : World) (p : Nat) (f : Fr) (s : Spn) (W : World) : Prop where
  c : CFr O W p f
  o : Ob W w.heap.size 84 [.int .i64 s.a, .int .i64 s.k]
  b : Below w.heap.size w W
section
variable {O : Nat → Prop} {w W W' : World} {p : Nat} {f : Fr} {s : Spn}
set_option maxRecDepth 100000 in
theorem Gv.old (h : Gv O w p f s W) (b : Below W.heap.size W W') : Gv O w p f s W' := ⟨h.c.below b, h.o.old b, h.b.trans (b.mono h.b.size)⟩
set_option maxRecDepth 100000 in
theorem Gv.drew (h : Gv O w p f s W) : Gv O w p f s W.drew := h.old ((Below.refl _ W).drew)
set_option maxRecDepth 100000 in
theorem Gv.cells (h : Gv O w p f s W) : W.cell? ⟨w.heap.size, 0, none⟩ = some (.int .i64 s.a) ∧ W.cell? ⟨w.heap.size, 1, none⟩ = some (.int .i64 s.k) ∧ W.cell? ⟨p, 1, none⟩ = some (.int .i64 (f.whole.1 : Int)) ∧ W.cell? ⟨p, 2, none⟩ = some (.int .i64 (f.whole.2 : Int)) := by
  obtain ⟨v, m, _⟩ := h.c.mem
  exact ⟨h.o.cell 0, h.o.cell 1, m.cell 1, m.cell 2⟩
end
set_option maxRecDepth 100000 in
set_option maxHeartbeats 1000000 in
theorem give_out {O : Nat → Prop} {w : World} {p : Nat} {f : Fr} {s : Spn} (h : CFr O w p f) (CW : ∀ W, Calls Tryz.prog 107 #[.agg #[.int .i64 s.a, .int .i64 s.k], .agg #[.int .i64 (f.whole.1 : Int), .int .i64 (f.whole.2 : Int)]] W fun e W' => e = .returned (.bool false) ∧ Below W.heap.size W W')
    (K0 : Gv O w p f s (w.alloc (.cells #[.int .i64 s.a, .int .i64 s.k] 84))) :
    Calls Tryz.prog 97 #[.pointer (some ⟨p, 0, none⟩), .agg #[.int .i64 s.a, .int .i64 s.k]] w fun e w' => e = .returned (.bool false) ∧ CFr (Gro O w w') w' p f ∧ Onl O w w' := by
  have HH := hide h
  clear h
  go_enter Tryz.func97, Tryz.ntmps97
  go_wp2_with fail
  generalize w.alloc (.cells #[.int .i64 s.a, .int .i64 s.k] 84) = W0 at *
  obtain ⟨c0, c1, c2, c3⟩ := K0.cells
  have HG := hide K0
  clear K0
  refine wp_region_held_drew (S := (fun W' => W'.cell? ⟨w.heap.size, 0, none⟩ = some (.int .i64 s.a) ∧ W'.cell? ⟨w.heap.size, 1, none⟩ = some (.int .i64 s.k) ∧ W'.cell? ⟨p, 1, none⟩ = some (.int .i64 (f.whole.1 : Int)) ∧ W'.cell? ⟨p, 2, none⟩ = some (.int .i64 (f.whole.2 : Int)))) (by kernel_rfl) ?_ (fun hHeld => ?_)
  · exact HG.out.drew.cells
  first
    | (refine wpAnyH_take (i := 0) (v := ?_) rfl (by kernel_rfl) (by kernel_rfl) (by kernel_rfl) (fun _ _ _ h => h) (Or.inl ⟨by rfl, ?_⟩) (by assumption) ?_; rotate_left; (intro wx hSx; obtain ⟨q0, q1, q2, q3⟩ := hSx; go_simp; first | done | with_reducible rfl))
    | (refine wpAnyH_take (i := 0) (v := undef) rfl (by kernel_rfl) (by kernel_rfl) (by kernel_rfl) (fun _ _ _ h => h) (Or.inr ⟨by rfl, rfl⟩) (by assumption) ?_)
  simp only [Act.put, List.getElem_toArray, List.getElem_cons_zero, List.setIfInBounds_toArray, List.set_cons_zero, List.set_cons_succ]
  first
    | (refine wpAnyH_take (i := 1) (v := ?_) rfl (by kernel_rfl) (by kernel_rfl) (by kernel_rfl) (fun _ _ _ h => h) (Or.inl ⟨by rfl, ?_⟩) (by assumption) ?_; rotate_left; (intro wx hSx; obtain ⟨q0, q1, q2, q3⟩ := hSx; go_simp; first | done | with_reducible rfl))
    | (refine wpAnyH_take (i := 1) (v := undef) rfl (by kernel_rfl) (by kernel_rfl) (by kernel_rfl) (fun _ _ _ h => h) (Or.inr ⟨by rfl, rfl⟩) (by assumption) ?_)
  simp only [Act.put, List.getElem_toArray, List.getElem_cons_succ, List.getElem_cons_zero, List.setIfInBounds_toArray, List.set_cons_zero, List.set_cons_succ]
  first
    | (refine wpAnyH_take (i := 2) (v := ?_) rfl (by kernel_rfl) (by kernel_rfl) (by kernel_rfl) (fun _ _ _ h => h) (Or.inl ⟨by rfl, ?_⟩) (by assumption) ?_; rotate_left; (intro wx hSx; obtain ⟨q0, q1, q2, q3⟩ := hSx; go_simp; first | done | with_reducible rfl))
    | (refine wpAnyH_take (i := 2) (v := undef) rfl (by kernel_rfl) (by kernel_rfl) (by kernel_rfl) (fun _ _ _ h => h) (Or.inr ⟨by rfl, rfl⟩) (by assumption) ?_)
  simp only [Act.put, List.getElem_toArray, List.getElem_cons_succ, List.getElem_cons_zero, List.setIfInBounds_toArray, List.set_cons_zero, List.set_cons_succ]
  first
    | (refine wpAnyH_take (i := 3) (v := ?_) rfl (by kernel_rfl) (by kernel_rfl) (by kernel_rfl) (fun _ _ _ h => h) (Or.inl ⟨by rfl, ?_⟩) (by assumption) ?_; rotate_left; (intro wx hSx; obtain ⟨q0, q1, q2, q3⟩ := hSx; go_simp; first | done | with_reducible rfl))
    | (refine wpAnyH_take (i := 3) (v := undef) rfl (by kernel_rfl) (by kernel_rfl) (by kernel_rfl) (fun _ _ _ h => h) (Or.inr ⟨by rfl, rfl⟩) (by assumption) ?_)
  simp only [Act.put, List.getElem_toArray, List.getElem_cons_succ, List.getElem_cons_zero, List.setIfInBounds_toArray, List.set_cons_zero, List.set_cons_succ]
  first
    | (refine wpAnyH_take (i := 4) (v := ?_) rfl (by kernel_rfl) (by kernel_rfl) (by kernel_rfl) (fun _ _ _ h => h) (Or.inl ⟨by rfl, ?_⟩) (by assumption) ?_; rotate_left; (intro wx hSx; obtain ⟨q0, q1, q2, q3⟩ := hSx; go_simp; first | done | with_reducible rfl))
    | (refine wpAnyH_take (i := 4) (v := undef) rfl (by kernel_rfl) (by kernel_rfl) (by kernel_rfl) (fun _ _ _ h => h) (Or.inr ⟨by rfl, rfl⟩) (by assumption) ?_)
  simp only [Act.put, List.getElem_toArray, List.getElem_cons_succ, List.getElem_cons_zero, List.setIfInBounds_toArray, List.set_cons_zero, List.set_cons_succ]
  first
    | (refine wpAnyH_take (i := 5) (v := ?_) rfl (by kernel_rfl) (by kernel_rfl) (by kernel_rfl) (fun _ _ _ h => h) (Or.inl ⟨by rfl, ?_⟩) (by assumption) ?_; rotate_left; (intro wx hSx; obtain ⟨q0, q1, q2, q3⟩ := hSx; go_simp; first | done | with_reducible rfl))
    | (refine wpAnyH_take (i := 5) (v := undef) rfl (by kernel_rfl) (by kernel_rfl) (by kernel_rfl) (fun _ _ _ h => h) (Or.inr ⟨by rfl, rfl⟩) (by assumption) ?_)
  simp only [Act.put, List.getElem_toArray, List.getElem_cons_succ, List.getElem_cons_zero, List.setIfInBounds_toArray, List.set_cons_zero, List.set_cons_succ]
  first
    | (refine wpAnyH_take (i := 6) (v := ?_) rfl (by kernel_rfl) (by kernel_rfl) (by kernel_rfl) (fun _ _ _ h => h) (Or.inl ⟨by rfl, ?_⟩) (by assumption) ?_; rotate_left; (intro wx hSx; obtain ⟨q0, q1, q2, q3⟩ := hSx; go_simp; first | done | with_reducible rfl))
    | (refine wpAnyH_take (i := 6) (v := undef) rfl (by kernel_rfl) (by kernel_rfl) (by kernel_rfl) (fun _ _ _ h => h) (Or.inr ⟨by rfl, rfl⟩) (by assumption) ?_)
  simp only [Act.put, List.getElem_toArray, List.getElem_cons_succ, List.getElem_cons_zero, List.setIfInBounds_toArray, List.set_cons_zero, List.set_cons_succ]
  first
    | (refine wpAnyH_take (i := 7) (v := ?_) rfl (by kernel_rfl) (by kernel_rfl) (by kernel_rfl) (fun _ _ _ h => h) (Or.inl ⟨by rfl, ?_⟩) (by assumption) ?_; rotate_left; (intro wx hSx; obtain ⟨q0, q1, q2, q3⟩ := hSx; go_simp; first | done | with_reducible rfl))
    | (refine wpAnyH_take (i := 7) (v := undef) rfl (by kernel_rfl) (by kernel_rfl) (by kernel_rfl) (fun _ _ _ h => h) (Or.inr ⟨by rfl, rfl⟩) (by assumption) ?_)
  simp only [Act.put, List.getElem_toArray, List.getElem_cons_succ, List.getElem_cons_zero, List.setIfInBounds_toArray, List.set_cons_zero, List.set_cons_succ]
  refine wpAnyH_ready (rs := [8]) (by kernel_rfl) (by simp) ?_
  refine AllReadyH.cons rfl (fun K hK => ?_) AllReadyH.nil
  go_simp
  go_at_call 107
  refine (CW _).mono ?_
  rintro e W1 ⟨rfl, b⟩
  have T := HG.out.drew.old b
  obtain ⟨c0, c1, c2, c3⟩ := T.cells
  have HG1 := hide T
  clear b T
  go_wp2_with fail
  refine hK.out _ _ ?_ (fun hHeld => ?_)
  · exact HG1.out.cells
  clear hK K
  first
    | (refine wpAnyH_take (i := 9) (v := ?_) rfl (by kernel_rfl) (by kernel_rfl) (by kernel_rfl) (fun _ _ _ h => h) (Or.inl ⟨by rfl, ?_⟩) (by assumption) ?_; rotate_left; (intro wx hSx; obtain ⟨q0, q1, q2, q3⟩ := hSx; go_simp; first | done | with_reducible rfl))
    | (refine wpAnyH_take (i := 9) (v := undef) rfl (by kernel_rfl) (by kernel_rfl) (by kernel_rfl) (fun _ _ _ h => h) (Or.inr ⟨by rfl, rfl⟩) (by assumption) ?_)
  simp only [Act.put, List.getElem_toArray, List.getElem_cons_succ, List.getElem_cons_zero, List.setIfInBounds_toArray, List.set_cons_zero, List.set_cons_succ]
  first
    | (refine wpAnyH_take (i := 10) (v := ?_) rfl (by kernel_rfl) (by kernel_rfl) (by kernel_rfl) (fun _ _ _ h => h) (Or.inl ⟨by rfl, ?_⟩) (by assumption) ?_; rotate_left; (intro wx hSx; obtain ⟨q0, q1, q2, q3⟩ := hSx; go_simp; first | done | with_reducible rfl))
    | (refine wpAnyH_take (i := 10) (v := undef) rfl (by kernel_rfl) (by kernel_rfl) (by kernel_rfl) (fun _ _ _ h => h) (Or.inr ⟨by rfl, rfl⟩) (by assumption) ?_)
  simp only [Act.put, List.getElem_toArray, List.getElem_cons_succ, List.getElem_cons_zero, List.setIfInBounds_toArray, List.set_cons_zero, List.set_cons_succ]
  first
    | (refine wpAnyH_take (i := 11) (v := ?_) rfl (by kernel_rfl) (by kernel_rfl) (by kernel_rfl) (fun _ _ _ h => h) (Or.inl ⟨by rfl, ?_⟩) (by assumption) ?_; rotate_left; (intro wx hSx; obtain ⟨q0, q1, q2, q3⟩ := hSx; go_simp; first | done | with_reducible rfl))
    | (refine wpAnyH_take (i := 11) (v := undef) rfl (by kernel_rfl) (by kernel_rfl) (by kernel_rfl) (fun _ _ _ h => h) (Or.inr ⟨by rfl, rfl⟩) (by assumption) ?_)
  simp only [Act.put, List.getElem_toArray, List.getElem_cons_succ, List.getElem_cons_zero, List.setIfInBounds_toArray, List.set_cons_zero, List.set_cons_succ]
  first
    | (refine wpAnyH_take (i := 12) (v := ?_) rfl (by kernel_rfl) (by kernel_rfl) (by kernel_rfl) (fun _ _ _ h => h) (Or.inl ⟨by rfl, ?_⟩) (by assumption) ?_; rotate_left; (intro wx hSx; obtain ⟨q0, q1, q2, q3⟩ := hSx; go_simp; first | done | with_reducible rfl))
    | (refine wpAnyH_take (i := 12) (v := undef) rfl (by kernel_rfl) (by kernel_rfl) (by kernel_rfl) (fun _ _ _ h => h) (Or.inr ⟨by rfl, rfl⟩) (by assumption) ?_)
  simp only [Act.put, List.getElem_toArray, List.getElem_cons_succ, List.getElem_cons_zero, List.setIfInBounds_toArray, List.set_cons_zero, List.set_cons_succ]
  first
    | (refine wpAnyH_take (i := 13) (v := ?_) rfl (by kernel_rfl) (by kernel_rfl) (by kernel_rfl) (fun _ _ _ h => h) (Or.inl ⟨by rfl, ?_⟩) (by assumption) ?_; rotate_left; (intro wx hSx; obtain ⟨q0, q1, q2, q3⟩ := hSx; go_simp; first | done | with_reducible rfl))
    | (refine wpAnyH_take (i := 13) (v := undef) rfl (by kernel_rfl) (by kernel_rfl) (by kernel_rfl) (fun _ _ _ h => h) (Or.inr ⟨by rfl, rfl⟩) (by assumption) ?_)
  simp only [Act.put, List.getElem_toArray, List.getElem_cons_succ, List.getElem_cons_zero, List.setIfInBounds_toArray, List.set_cons_zero, List.set_cons_succ]
  first
    | (refine wpAnyH_take (i := 14) (v := ?_) rfl (by kernel_rfl) (by kernel_rfl) (by kernel_rfl) (fun _ _ _ h => h) (Or.inl ⟨by rfl, ?_⟩) (by assumption) ?_; rotate_left; (intro wx hSx; obtain ⟨q0, q1, q2, q3⟩ := hSx; go_simp; first | done | with_reducible rfl))
    | (refine wpAnyH_take (i := 14) (v := undef) rfl (by kernel_rfl) (by kernel_rfl) (by kernel_rfl) (fun _ _ _ h => h) (Or.inr ⟨by rfl, rfl⟩) (by assumption) ?_)
  simp only [Act.put, List.getElem_toArray, List.getElem_cons_succ, List.getElem_cons_zero, List.setIfInBounds_toArray, List.set_cons_zero, List.set_cons_succ]
  first
    | (refine wpAnyH_take (i := 15) (v := ?_) rfl (by kernel_rfl) (by kernel_rfl) (by kernel_rfl) (fun _ _ _ h => h) (Or.inl ⟨by rfl, ?_⟩) (by assumption) ?_; rotate_left; (intro wx hSx; obtain ⟨q0, q1, q2, q3⟩ := hSx; go_simp; first | done | with_reducible rfl))
    | (refine wpAnyH_take (i := 15) (v := undef) rfl (by kernel_rfl) (by kernel_rfl) (by kernel_rfl) (fun _ _ _ h => h) (Or.inr ⟨by rfl, rfl⟩) (by assumption) ?_)
  simp only [Act.put, List.getElem_toArray, List.getElem_cons_succ, List.getElem_cons_zero, List.setIfInBounds_toArray, List.set_cons_zero, List.set_cons_succ]
  first
    | (refine wpAnyH_take (i := 16) (v := ?_) rfl (by kernel_rfl) (by kernel_rfl) (by kernel_rfl) (fun _ _ _ h => h) (Or.inl ⟨by rfl, ?_⟩) (by assumption) ?_; rotate_left; (intro wx hSx; obtain ⟨q0, q1, q2, q3⟩ := hSx; go_simp; first | done | with_reducible rfl))
    | (refine wpAnyH_take (i := 16) (v := undef) rfl (by kernel_rfl) (by kernel_rfl) (by kernel_rfl) (fun _ _ _ h => h) (Or.inr ⟨by rfl, rfl⟩) (by assumption) ?_)
  simp only [Act.put, List.getElem_toArray, List.getElem_cons_succ, List.getElem_cons_zero, List.setIfInBounds_toArray, List.set_cons_zero, List.set_cons_succ]
  first
    | (refine wpAnyH_take (i := 17) (v := ?_) rfl (by kernel_rfl) (by kernel_rfl) (by kernel_rfl) (fun _ _ _ h => h) (Or.inl ⟨by rfl, ?_⟩) (by assumption) ?_; rotate_left; (intro wx hSx; obtain ⟨q0, q1, q2, q3⟩ := hSx; go_simp; first | done | with_reducible rfl))
    | (refine wpAnyH_take (i := 17) (v := undef) rfl (by kernel_rfl) (by kernel_rfl) (by kernel_rfl) (fun _ _ _ h => h) (Or.inr ⟨by rfl, rfl⟩) (by assumption) ?_)
  simp only [Act.put, List.getElem_toArray, List.getElem_cons_succ, List.getElem_cons_zero, List.setIfInBounds_toArray, List.set_cons_zero, List.set_cons_succ]
  refine wpAnyH_done (by kernel_rfl) ?_ _
  go_wp2
  go_ret
  exact ⟨rfl, HH.out.still HG1.out.b⟩
set_option maxRecDepth 100000 in
set_option maxHeartbeats 1000000 in
theorem give_met {O : Nat → Prop} {w : World} {p : Nat} {f : Fr} {s : Spn} (h : CFr O w p f) (CW : ∀ W, Calls Tryz.prog 107 #[.agg #[.int .i64 s.a, .int .i64 s.k], .agg #[.int .i64 (f.whole.1 : Int), .int .i64 (f.whole.2 : Int)]] W fun e W' => e = .returned (.bool true) ∧ Below W.heap.size W W') {i : Nat} (CF : ∀ W, Gv O w p f s W → Calls Tryz.prog 104 #[.pointer (some ⟨p, 0, none⟩), .func (.func 130) #[.agg #[.int .i64 s.a, .int .i64 s.k]] #[]] W fun e W' => e = .returned (.int .i64 (i : Int)) ∧ Below W.heap.size W W')
    (K0 : Gv O w p f s (w.alloc (.cells #[.int .i64 s.a, .int .i64 s.k] 84))) :
    Calls Tryz.prog 97 #[.pointer (some ⟨p, 0, none⟩), .agg #[.int .i64 s.a, .int .i64 s.k]] w fun e w' => e = .returned (.bool false) ∧ CFr (Gro O w w') w' p f ∧ Onl O w w' := by
  have HH := hide h
  have hd : decide ((0 : Int) ≤ (i : Int)) = true := decide_eq_true (by omega)
  clear h
  go_enter Tryz.func97, Tryz.ntmps97
  go_wp2_with fail
  generalize w.alloc (.cells #[.int .i64 s.a, .int .i64 s.k] 84) = W0 at *
  obtain ⟨c0, c1, c2, c3⟩ := K0.cells
  have HG := hide K0
  clear K0
  refine wp_region_held_drew (S := (fun W' => W'.cell? ⟨w.heap.size, 0, none⟩ = some (.int .i64 s.a) ∧ W'.cell? ⟨w.heap.size, 1, none⟩ = some (.int .i64 s.k) ∧ W'.cell? ⟨p, 1, none⟩ = some (.int .i64 (f.whole.1 : Int)) ∧ W'.cell? ⟨p, 2, none⟩ = some (.int .i64 (f.whole.2 : Int)))) (by kernel_rfl) ?_ (fun hHeld => ?_)
  · exact HG.out.drew.cells
  first
    | (refine wpAnyH_take (i := 0) (v := ?_) rfl (by kernel_rfl) (by kernel_rfl) (by kernel_rfl) (fun _ _ _ h => h) (Or.inl ⟨by rfl, ?_⟩) (by assumption) ?_; rotate_left; (intro wx hSx; obtain ⟨q0, q1, q2, q3⟩ := hSx; go_simp; first | done | with_reducible rfl))
    | (refine wpAnyH_take (i := 0) (v := undef) rfl (by kernel_rfl) (by kernel_rfl) (by kernel_rfl) (fun _ _ _ h => h) (Or.inr ⟨by rfl, rfl⟩) (by assumption) ?_)
  simp only [Act.put, List.getElem_toArray, List.getElem_cons_zero, List.setIfInBounds_toArray, List.set_cons_zero, List.set_cons_succ]
  first
    | (refine wpAnyH_take (i := 1) (v := ?_) rfl (by kernel_rfl) (by kernel_rfl) (by kernel_rfl) (fun _ _ _ h => h) (Or.inl ⟨by rfl, ?_⟩) (by assumption) ?_; rotate_left; (intro wx hSx; obtain ⟨q0, q1, q2, q3⟩ := hSx; go_simp; first | done | with_reducible rfl))
    | (refine wpAnyH_take (i := 1) (v := undef) rfl (by kernel_rfl) (by kernel_rfl) (by kernel_rfl) (fun _ _ _ h => h) (Or.inr ⟨by rfl, rfl⟩) (by assumption) ?_)
  simp only [Act.put, List.getElem_toArray, List.getElem_cons_succ, List.getElem_cons_zero, List.setIfInBounds_toArray, List.set_cons_zero, List.set_cons_succ]
  first
    | (refine wpAnyH_take (i := 2) (v := ?_) rfl (by kernel_rfl) (by kernel_rfl) (by kernel_rfl) (fun _ _ _ h => h) (Or.inl ⟨by rfl, ?_⟩) (by assumption) ?_; rotate_left; (intro wx hSx; obtain ⟨q0, q1, q2, q3⟩ := hSx; go_simp; first | done | with_reducible rfl))
    | (refine wpAnyH_take (i := 2) (v := undef) rfl (by kernel_rfl) (by kernel_rfl) (by kernel_rfl) (fun _ _ _ h => h) (Or.inr ⟨by rfl, rfl⟩) (by assumption) ?_)
  simp only [Act.put, List.getElem_toArray, List.getElem_cons_succ, List.getElem_cons_zero, List.setIfInBounds_toArray, List.set_cons_zero, List.set_cons_succ]
  first
    | (refine wpAnyH_take (i := 3) (v := ?_) rfl (by kernel_rfl) (by kernel_rfl) (by kernel_rfl) (fun _ _ _ h => h) (Or.inl ⟨by rfl, ?_⟩) (by assumption) ?_; rotate_left; (intro wx hSx; obtain ⟨q0, q1, q2, q3⟩ := hSx; go_simp; first | done | with_reducible rfl))
    | (refine wpAnyH_take (i := 3) (v := undef) rfl (by kernel_rfl) (by kernel_rfl) (by kernel_rfl) (fun _ _ _ h => h) (Or.inr ⟨by rfl, rfl⟩) (by assumption) ?_)
  simp only [Act.put, List.getElem_toArray, List.getElem_cons_succ, List.getElem_cons_zero, List.setIfInBounds_toArray, List.set_cons_zero, List.set_cons_succ]
  first
    | (refine wpAnyH_take (i := 4) (v := ?_) rfl (by kernel_rfl) (by kernel_rfl) (by kernel_rfl) (fun _ _ _ h => h) (Or.inl ⟨by rfl, ?_⟩) (by assumption) ?_; rotate_left; (intro wx hSx; obtain ⟨q0, q1, q2, q3⟩ := hSx; go_simp; first | done | with_reducible rfl))
    | (refine wpAnyH_take (i := 4) (v := undef) rfl (by kernel_rfl) (by kernel_rfl) (by kernel_rfl) (fun _ _ _ h => h) (Or.inr ⟨by rfl, rfl⟩) (by assumption) ?_)
  simp only [Act.put, List.getElem_toArray, List.getElem_cons_succ, List.getElem_cons_zero, List.setIfInBounds_toArray, List.set_cons_zero, List.set_cons_succ]
  first
    | (refine wpAnyH_take (i := 5) (v := ?_) rfl (by kernel_rfl) (by kernel_rfl) (by kernel_rfl) (fun _ _ _ h => h) (Or.inl ⟨by rfl, ?_⟩) (by assumption) ?_; rotate_left; (intro wx hSx; obtain ⟨q0, q1, q2, q3⟩ := hSx; go_simp; first | done | with_reducible rfl))
    | (refine wpAnyH_take (i := 5) (v := undef) rfl (by kernel_rfl) (by kernel_rfl) (by kernel_rfl) (fun _ _ _ h => h) (Or.inr ⟨by rfl, rfl⟩) (by assumption) ?_)
  simp only [Act.put, List.getElem_toArray, List.getElem_cons_succ, List.getElem_cons_zero, List.setIfInBounds_toArray, List.set_cons_zero, List.set_cons_succ]
  first
    | (refine wpAnyH_take (i := 6) (v := ?_) rfl (by kernel_rfl) (by kernel_rfl) (by kernel_rfl) (fun _ _ _ h => h) (Or.inl ⟨by rfl, ?_⟩) (by assumption) ?_; rotate_left; (intro wx hSx; obtain ⟨q0, q1, q2, q3⟩ := hSx; go_simp; first | done | with_reducible rfl))
    | (refine wpAnyH_take (i := 6) (v := undef) rfl (by kernel_rfl) (by kernel_rfl) (by kernel_rfl) (fun _ _ _ h => h) (Or.inr ⟨by rfl, rfl⟩) (by assumption) ?_)
  simp only [Act.put, List.getElem_toArray, List.getElem_cons_succ, List.getElem_cons_zero, List.setIfInBounds_toArray, List.set_cons_zero, List.set_cons_succ]
  first
    | (refine wpAnyH_take (i := 7) (v := ?_) rfl (by kernel_rfl) (by kernel_rfl) (by kernel_rfl) (fun _ _ _ h => h) (Or.inl ⟨by rfl, ?_⟩) (by assumption) ?_; rotate_left; (intro wx hSx; obtain ⟨q0, q1, q2, q3⟩ := hSx; go_simp; first | done | with_reducible rfl))
    | (refine wpAnyH_take (i := 7) (v := undef) rfl (by kernel_rfl) (by kernel_rfl) (by kernel_rfl) (fun _ _ _ h => h) (Or.inr ⟨by rfl, rfl⟩) (by assumption) ?_)
  simp only [Act.put, List.getElem_toArray, List.getElem_cons_succ, List.getElem_cons_zero, List.setIfInBounds_toArray, List.set_cons_zero, List.set_cons_succ]
  refine wpAnyH_ready (rs := [8]) (by kernel_rfl) (by simp) ?_
  refine AllReadyH.cons rfl (fun K hK => ?_) AllReadyH.nil
  go_simp
  go_at_call 107
  refine (CW _).mono ?_
  rintro e W1 ⟨rfl, b⟩
  have T := HG.out.drew.old b
  obtain ⟨c0, c1, c2, c3⟩ := T.cells
  have HG1 := hide T
  clear b T
  go_wp2_with fail
  refine hK.out _ _ ?_ (fun hHeld => ?_)
  · exact HG1.out.cells
  clear hK K
  first
    | (refine wpAnyH_take (i := 9) (v := ?_) rfl (by kernel_rfl) (by kernel_rfl) (by kernel_rfl) (fun _ _ _ h => h) (Or.inl ⟨by rfl, ?_⟩) (by assumption) ?_; rotate_left; (intro wx hSx; obtain ⟨q0, q1, q2, q3⟩ := hSx; go_simp; first | done | with_reducible rfl))
    | (refine wpAnyH_take (i := 9) (v := undef) rfl (by kernel_rfl) (by kernel_rfl) (by kernel_rfl) (fun _ _ _ h => h) (Or.inr ⟨by rfl, rfl⟩) (by assumption) ?_)
  simp only [Act.put, List.getElem_toArray, List.getElem_cons_succ, List.getElem_cons_zero, List.setIfInBounds_toArray, List.set_cons_zero, List.set_cons_succ]
  first
    | (refine wpAnyH_take (i := 10) (v := ?_) rfl (by kernel_rfl) (by kernel_rfl) (by kernel_rfl) (fun _ _ _ h => h) (Or.inl ⟨by rfl, ?_⟩) (by assumption) ?_; rotate_left; (intro wx hSx; obtain ⟨q0, q1, q2, q3⟩ := hSx; go_simp; first | done | with_reducible rfl))
    | (refine wpAnyH_take (i := 10) (v := undef) rfl (by kernel_rfl) (by kernel_rfl) (by kernel_rfl) (fun _ _ _ h => h) (Or.inr ⟨by rfl, rfl⟩) (by assumption) ?_)
  simp only [Act.put, List.getElem_toArray, List.getElem_cons_succ, List.getElem_cons_zero, List.setIfInBounds_toArray, List.set_cons_zero, List.set_cons_succ]
  first
    | (refine wpAnyH_take (i := 11) (v := ?_) rfl (by kernel_rfl) (by kernel_rfl) (by kernel_rfl) (fun _ _ _ h => h) (Or.inl ⟨by rfl, ?_⟩) (by assumption) ?_; rotate_left; (intro wx hSx; obtain ⟨q0, q1, q2, q3⟩ := hSx; go_simp; first | done | with_reducible rfl))
    | (refine wpAnyH_take (i := 11) (v := undef) rfl (by kernel_rfl) (by kernel_rfl) (by kernel_rfl) (fun _ _ _ h => h) (Or.inr ⟨by rfl, rfl⟩) (by assumption) ?_)
  simp only [Act.put, List.getElem_toArray, List.getElem_cons_succ, List.getElem_cons_zero, List.setIfInBounds_toArray, List.set_cons_zero, List.set_cons_succ]
  first
    | (refine wpAnyH_take (i := 12) (v := ?_) rfl (by kernel_rfl) (by kernel_rfl) (by kernel_rfl) (fun _ _ _ h => h) (Or.inl ⟨by rfl, ?_⟩) (by assumption) ?_; rotate_left; (intro wx hSx; obtain ⟨q0, q1, q2, q3⟩ := hSx; go_simp; first | done | with_reducible rfl))
    | (refine wpAnyH_take (i := 12) (v := undef) rfl (by kernel_rfl) (by kernel_rfl) (by kernel_rfl) (fun _ _ _ h => h) (Or.inr ⟨by rfl, rfl⟩) (by assumption) ?_)
  simp only [Act.put, List.getElem_toArray, List.getElem_cons_succ, List.getElem_cons_zero, List.setIfInBounds_toArray, List.set_cons_zero, List.set_cons_succ]
  first
    | (refine wpAnyH_take (i := 13) (v := ?_) rfl (by kernel_rfl) (by kernel_rfl) (by kernel_rfl) (fun _ _ _ h => h) (Or.inl ⟨by rfl, ?_⟩) (by assumption) ?_; rotate_left; (intro wx hSx; obtain ⟨q0, q1, q2, q3⟩ := hSx; go_simp; first | done | with_reducible rfl))
    | (refine wpAnyH_take (i := 13) (v := undef) rfl (by kernel_rfl) (by kernel_rfl) (by kernel_rfl) (fun _ _ _ h => h) (Or.inr ⟨by rfl, rfl⟩) (by assumption) ?_)
  simp only [Act.put, List.getElem_toArray, List.getElem_cons_succ, List.getElem_cons_zero, List.setIfInBounds_toArray, List.set_cons_zero, List.set_cons_succ]
  first
    | (refine wpAnyH_take (i := 14) (v := ?_) rfl (by kernel_rfl) (by kernel_rfl) (by kernel_rfl) (fun _ _ _ h => h) (Or.inl ⟨by rfl, ?_⟩) (by assumption) ?_; rotate_left; (intro wx hSx; obtain ⟨q0, q1, q2, q3⟩ := hSx; go_simp; first | done | with_reducible rfl))
    | (refine wpAnyH_take (i := 14) (v := undef) rfl (by kernel_rfl) (by kernel_rfl) (by kernel_rfl) (fun _ _ _ h => h) (Or.inr ⟨by rfl, rfl⟩) (by assumption) ?_)
  simp only [Act.put, List.getElem_toArray, List.getElem_cons_succ, List.getElem_cons_zero, List.setIfInBounds_toArray, List.set_cons_zero, List.set_cons_succ]
  refine wpAnyH_ready (rs := [15]) (by kernel_rfl) (by simp) ?_
  refine AllReadyH.cons rfl (fun K hK => ?_) AllReadyH.nil
  go_simp
  go_at_call 104
  refine (CF W1 HG1.out).mono ?_
  rintro e W2 ⟨rfl, b⟩
  have T := HG1.out.old b
  obtain ⟨c0, c1, c2, c3⟩ := T.cells
  have HG2 := hide T
  clear b T
  go_wp2_with fail
  refine hK.out _ _ ?_ (fun hHeld => ?_)
  · exact HG2.out.cells
  clear hK K
  first
    | (refine wpAnyH_take (i := 16) (v := ?_) rfl (by kernel_rfl) (by kernel_rfl) (by kernel_rfl) (fun _ _ _ h => h) (Or.inl ⟨by rfl, ?_⟩) (by assumption) ?_; rotate_left; (intro wx hSx; obtain ⟨q0, q1, q2, q3⟩ := hSx; go_simp; first | done | with_reducible rfl))
    | (refine wpAnyH_take (i := 16) (v := undef) rfl (by kernel_rfl) (by kernel_rfl) (by kernel_rfl) (fun _ _ _ h => h) (Or.inr ⟨by rfl, rfl⟩) (by assumption) ?_)
  simp only [Act.put, List.getElem_toArray, List.getElem_cons_succ, List.getElem_cons_zero, List.setIfInBounds_toArray, List.set_cons_zero, List.set_cons_succ]
  first
    | (refine wpAnyH_take (i := 17) (v := ?_) rfl (by kernel_rfl) (by kernel_rfl) (by kernel_rfl) (fun _ _ _ h => h) (Or.inl ⟨by rfl, ?_⟩) (by assumption) ?_; rotate_left; (intro wx hSx; obtain ⟨q0, q1, q2, q3⟩ := hSx; go_simp; first | done | with_reducible rfl))
    | (refine wpAnyH_take (i := 17) (v := undef) rfl (by kernel_rfl) (by kernel_rfl) (by kernel_rfl) (fun _ _ _ h => h) (Or.inr ⟨by rfl, rfl⟩) (by assumption) ?_)
  simp only [Act.put, List.getElem_toArray, List.getElem_cons_succ, List.getElem_cons_zero, List.setIfInBounds_toArray, List.set_cons_zero, List.set_cons_succ]
  refine wpAnyH_done (by kernel_rfl) ?_ _
  go_wp2
  go_ret
  exact ⟨rfl, HH.out.still HG2.out.b⟩
set_option maxRecDepth 100000 in
set_option maxHeartbeats 1000000 in
theorem give_in {O : Nat → Prop} {w : World} {p : Nat} {f : Fr} {s : Spn} (_ : CFr O w p f) (hO : ∀ i, O i → i < w.heap.size) (hs : f.all s false = true) (CW : ∀ W, Calls Tryz.prog 107 #[.agg #[.int .i64 s.a, .int .i64 s.k], .agg #[.int .i64 (f.whole.1 : Int), .int .i64 (f.whole.2 : Int)]] W fun e W' => e = .returned (.bool true) ∧ Below W.heap.size W W') (CF : ∀ W, Gv O w p f s W → Calls Tryz.prog 104 #[.pointer (some ⟨p, 0, none⟩), .func (.func 130) #[.agg #[.int .i64 s.a, .int .i64 s.k]] #[]] W fun e W' => e = .returned (.int .i64 (-1)) ∧ Below W.heap.size W W')
    (K0 : Gv O w p f s (w.alloc (.cells #[.int .i64 s.a, .int .i64 s.k] 84))) :
    Calls Tryz.prog 97 #[.pointer (some ⟨p, 0, none⟩), .agg #[.int .i64 s.a, .int .i64 s.k]] w fun e w' => e = .returned (.bool true) ∧ CFr (Gro O w w') w' p (f.put s true) ∧ Onl O w w' := by
  have HO := hide hO
  have HS := hide hs
  clear hO hs
  go_enter Tryz.func97, Tryz.ntmps97
  go_wp2_with fail
  generalize w.alloc (.cells #[.int .i64 s.a, .int .i64 s.k] 84) = W0 at *
  obtain ⟨c0, c1, c2, c3⟩ := K0.cells
  have HG := hide K0
  clear K0
  refine wp_region_held_drew (S := (fun W' => W'.cell? ⟨w.heap.size, 0, none⟩ = some (.int .i64 s.a) ∧ W'.cell? ⟨w.heap.size, 1, none⟩ = some (.int .i64 s.k) ∧ W'.cell? ⟨p, 1, none⟩ = some (.int .i64 (f.whole.1 : Int)) ∧ W'.cell? ⟨p, 2, none⟩ = some (.int .i64 (f.whole.2 : Int)))) (by kernel_rfl) ?_ (fun hHeld => ?_)
  · exact HG.out.drew.cells
  first
    | (refine wpAnyH_take (i := 0) (v := ?_) rfl (by kernel_rfl) (by kernel_rfl) (by kernel_rfl) (fun _ _ _ h => h) (Or.inl ⟨by rfl, ?_⟩) (by assumption) ?_; rotate_left; (intro wx hSx; obtain ⟨q0, q1, q2, q3⟩ := hSx; go_simp; first | done | with_reducible rfl))
    | (refine wpAnyH_take (i := 0) (v := undef) rfl (by kernel_rfl) (by kernel_rfl) (by kernel_rfl) (fun _ _ _ h => h) (Or.inr ⟨by rfl, rfl⟩) (by assumption) ?_)
  simp only [Act.put, List.getElem_toArray, List.getElem_cons_zero, List.setIfInBounds_toArray, List.set_cons_zero, List.set_cons_succ]
  first
    | (refine wpAnyH_take (i := 1) (v := ?_) rfl (by kernel_rfl) (by kernel_rfl) (by kernel_rfl) (fun _ _ _ h => h) (Or.inl ⟨by rfl, ?_⟩) (by assumption) ?_; rotate_left; (intro wx hSx; obtain ⟨q0, q1, q2, q3⟩ := hSx; go_simp; first | done | with_reducible rfl))
    | (refine wpAnyH_take (i := 1) (v := undef) rfl (by kernel_rfl) (by kernel_rfl) (by kernel_rfl) (fun _ _ _ h => h) (Or.inr ⟨by rfl, rfl⟩) (by assumption) ?_)
  simp only [Act.put, List.getElem_toArray, List.getElem_cons_succ, List.getElem_cons_zero, List.setIfInBounds_toArray, List.set_cons_zero, List.set_cons_succ]
  first
    | (refine wpAnyH_take (i := 2) (v := ?_) rfl (by kernel_rfl) (by kernel_rfl) (by kernel_rfl) (fun _ _ _ h => h) (Or.inl ⟨by rfl, ?_⟩) (by assumption) ?_; rotate_left; (intro wx hSx; obtain ⟨q0, q1, q2, q3⟩ := hSx; go_simp; first | done | with_reducible rfl))
    | (refine wpAnyH_take (i := 2) (v := undef) rfl (by kernel_rfl) (by kernel_rfl) (by kernel_rfl) (fun _ _ _ h => h) (Or.inr ⟨by rfl, rfl⟩) (by assumption) ?_)
  simp only [Act.put, List.getElem_toArray, List.getElem_cons_succ, List.getElem_cons_zero, List.setIfInBounds_toArray, List.set_cons_zero, List.set_cons_succ]
  first
    | (refine wpAnyH_take (i := 3) (v := ?_) rfl (by kernel_rfl) (by kernel_rfl) (by kernel_rfl) (fun _ _ _ h => h) (Or.inl ⟨by rfl, ?_⟩) (by assumption) ?_; rotate_left; (intro wx hSx; obtain ⟨q0, q1, q2, q3⟩ := hSx; go_simp; first | done | with_reducible rfl))
    | (refine wpAnyH_take (i := 3) (v := undef) rfl (by kernel_rfl) (by kernel_rfl) (by kernel_rfl) (fun _ _ _ h => h) (Or.inr ⟨by rfl, rfl⟩) (by assumption) ?_)
  simp only [Act.put, List.getElem_toArray, List.getElem_cons_succ, List.getElem_cons_zero, List.setIfInBounds_toArray, List.set_cons_zero, List.set_cons_succ]
  first
    | (refine wpAnyH_take (i := 4) (v := ?_) rfl (by kernel_rfl) (by kernel_rfl) (by kernel_rfl) (fun _ _ _ h => h) (Or.inl ⟨by rfl, ?_⟩) (by assumption) ?_; rotate_left; (intro wx hSx; obtain ⟨q0, q1, q2, q3⟩ := hSx; go_simp; first | done | with_reducible rfl))
    | (refine wpAnyH_take (i := 4) (v := undef) rfl (by kernel_rfl) (by kernel_rfl) (by kernel_rfl) (fun _ _ _ h => h) (Or.inr ⟨by rfl, rfl⟩) (by assumption) ?_)
  simp only [Act.put, List.getElem_toArray, List.getElem_cons_succ, List.getElem_cons_zero, List.setIfInBounds_toArray, List.set_cons_zero, List.set_cons_succ]
  first
    | (refine wpAnyH_take (i := 5) (v := ?_) rfl (by kernel_rfl) (by kernel_rfl) (by kernel_rfl) (fun _ _ _ h => h) (Or.inl ⟨by rfl, ?_⟩) (by assumption) ?_; rotate_left; (intro wx hSx; obtain ⟨q0, q1, q2, q3⟩ := hSx; go_simp; first | done | with_reducible rfl))
    | (refine wpAnyH_take (i := 5) (v := undef) rfl (by kernel_rfl) (by kernel_rfl) (by kernel_rfl) (fun _ _ _ h => h) (Or.inr ⟨by rfl, rfl⟩) (by assumption) ?_)
  simp only [Act.put, List.getElem_toArray, List.getElem_cons_succ, List.getElem_cons_zero, List.setIfInBounds_toArray, List.set_cons_zero, List.set_cons_succ]
  first
    | (refine wpAnyH_take (i := 6) (v := ?_) rfl (by kernel_rfl) (by kernel_rfl) (by kernel_rfl) (fun _ _ _ h => h) (Or.inl ⟨by rfl, ?_⟩) (by assumption) ?_; rotate_left; (intro wx hSx; obtain ⟨q0, q1, q2, q3⟩ := hSx; go_simp; first | done | with_reducible rfl))
    | (refine wpAnyH_take (i := 6) (v := undef) rfl (by kernel_rfl) (by kernel_rfl) (by kernel_rfl) (fun _ _ _ h => h) (Or.inr ⟨by rfl, rfl⟩) (by assumption) ?_)
  simp only [Act.put, List.getElem_toArray, List.getElem_cons_succ, List.getElem_cons_zero, List.setIfInBounds_toArray, List.set_cons_zero, List.set_cons_succ]
  first
    | (refine wpAnyH_take (i := 7) (v := ?_) rfl (by kernel_rfl) (by kernel_rfl) (by kernel_rfl) (fun _ _ _ h => h) (Or.inl ⟨by rfl, ?_⟩) (by assumption) ?_; rotate_left; (intro wx hSx; obtain ⟨q0, q1, q2, q3⟩ := hSx; go_simp; first | done | with_reducible rfl))
    | (refine wpAnyH_take (i := 7) (v := undef) rfl (by kernel_rfl) (by kernel_rfl) (by kernel_rfl) (fun _ _ _ h => h) (Or.inr ⟨by rfl, rfl⟩) (by assumption) ?_)
  simp only [Act.put, List.getElem_toArray, List.getElem_cons_succ, List.getElem_cons_zero, List.setIfInBounds_toArray, List.set_cons_zero, List.set_cons_succ]
  refine wpAnyH_ready (rs := [8]) (by kernel_rfl) (by simp) ?_
  refine AllReadyH.cons rfl (fun K hK => ?_) AllReadyH.nil
  go_simp
  go_at_call 107
  refine (CW _).mono ?_
  rintro e W1 ⟨rfl, b⟩
  have T := HG.out.drew.old b
  obtain ⟨c0, c1, c2, c3⟩ := T.cells
  have HG1 := hide T
  clear b T
  go_wp2_with fail
  refine hK.out _ _ ?_ (fun hHeld => ?_)
  · exact HG1.out.cells
  clear hK K
  first
    | (refine wpAnyH_take (i := 9) (v := ?_) rfl (by kernel_rfl) (by kernel_rfl) (by kernel_rfl) (fun _ _ _ h => h) (Or.inl ⟨by rfl, ?_⟩) (by assumption) ?_; rotate_left; (intro wx hSx; obtain ⟨q0, q1, q2, q3⟩ := hSx; go_simp; first | done | with_reducible rfl))
    | (refine wpAnyH_take (i := 9) (v := undef) rfl (by kernel_rfl) (by kernel_rfl) (by kernel_rfl) (fun _ _ _ h => h) (Or.inr ⟨by rfl, rfl⟩) (by assumption) ?_)
  simp only [Act.put, List.getElem_toArray, List.getElem_cons_succ, List.getElem_cons_zero, List.setIfInBounds_toArray, List.set_cons_zero, List.set_cons_succ]
  first
    | (refine wpAnyH_take (i := 10) (v := ?_) rfl (by kernel_rfl) (by kernel_rfl) (by kernel_rfl) (fun _ _ _ h => h) (Or.inl ⟨by rfl, ?_⟩) (by assumption) ?_; rotate_left; (intro wx hSx; obtain ⟨q0, q1, q2, q3⟩ := hSx; go_simp; first | done | with_reducible rfl))
    | (refine wpAnyH_take (i := 10) (v := undef) rfl (by kernel_rfl) (by kernel_rfl) (by kernel_rfl) (fun _ _ _ h => h) (Or.inr ⟨by rfl, rfl⟩) (by assumption) ?_)
  simp only [Act.put, List.getElem_toArray, List.getElem_cons_succ, List.getElem_cons_zero, List.setIfInBounds_toArray, List.set_cons_zero, List.set_cons_succ]
  first
    | (refine wpAnyH_take (i := 11) (v := ?_) rfl (by kernel_rfl) (by kernel_rfl) (by kernel_rfl) (fun _ _ _ h => h) (Or.inl ⟨by rfl, ?_⟩) (by assumption) ?_; rotate_left; (intro wx hSx; obtain ⟨q0, q1, q2, q3⟩ := hSx; go_simp; first | done | with_reducible rfl))
    | (refine wpAnyH_take (i := 11) (v := undef) rfl (by kernel_rfl) (by kernel_rfl) (by kernel_rfl) (fun _ _ _ h => h) (Or.inr ⟨by rfl, rfl⟩) (by assumption) ?_)
  simp only [Act.put, List.getElem_toArray, List.getElem_cons_succ, List.getElem_cons_zero, List.setIfInBounds_toArray, List.set_cons_zero, List.set_cons_succ]
  first
    | (refine wpAnyH_take (i := 12) (v := ?_) rfl (by kernel_rfl) (by kernel_rfl) (by kernel_rfl) (fun _ _ _ h => h) (Or.inl ⟨by rfl, ?_⟩) (by assumption) ?_; rotate_left; (intro wx hSx; obtain ⟨q0, q1, q2, q3⟩ := hSx; go_simp; first | done | with_reducible rfl))
    | (refine wpAnyH_take (i := 12) (v := undef) rfl (by kernel_rfl) (by kernel_rfl) (by kernel_rfl) (fun _ _ _ h => h) (Or.inr ⟨by rfl, rfl⟩) (by assumption) ?_)
  simp only [Act.put, List.getElem_toArray, List.getElem_cons_succ, List.getElem_cons_zero, List.setIfInBounds_toArray, List.set_cons_zero, List.set_cons_succ]
  first
    | (refine wpAnyH_take (i := 13) (v := ?_) rfl (by kernel_rfl) (by kernel_rfl) (by kernel_rfl) (fun _ _ _ h => h) (Or.inl ⟨by rfl, ?_⟩) (by assumption) ?_; rotate_left; (intro wx hSx; obtain ⟨q0, q1, q2, q3⟩ := hSx; go_simp; first | done | with_reducible rfl))
    | (refine wpAnyH_take (i := 13) (v := undef) rfl (by kernel_rfl) (by kernel_rfl) (by kernel_rfl) (fun _ _ _ h => h) (Or.inr ⟨by rfl, rfl⟩) (by assumption) ?_)
  simp only [Act.put, List.getElem_toArray, List.getElem_cons_succ, List.getElem_cons_zero, List.setIfInBounds_toArray, List.set_cons_zero, List.set_cons_succ]
  first
    | (refine wpAnyH_take (i := 14) (v := ?_) rfl (by kernel_rfl) (by kernel_rfl) (by kernel_rfl) (fun _ _ _ h => h) (Or.inl ⟨by rfl, ?_⟩) (by assumption) ?_; rotate_left; (intro wx hSx; obtain ⟨q0, q1, q2, q3⟩ := hSx; go_simp; first | done | with_reducible rfl))
    | (refine wpAnyH_take (i := 14) (v := undef) rfl (by kernel_rfl) (by kernel_rfl) (by kernel_rfl) (fun _ _ _ h => h) (Or.inr ⟨by rfl, rfl⟩) (by assumption) ?_)
  simp only [Act.put, List.getElem_toArray, List.getElem_cons_succ, List.getElem_cons_zero, List.setIfInBounds_toArray, List.set_cons_zero, List.set_cons_succ]
  refine wpAnyH_ready (rs := [15]) (by kernel_rfl) (by simp) ?_
  refine AllReadyH.cons rfl (fun K hK => ?_) AllReadyH.nil
  go_simp
  go_at_call 104
  refine (CF W1 HG1.out).mono ?_
  rintro e W2 ⟨rfl, b⟩
  have T := HG1.out.old b
  obtain ⟨c0, c1, c2, c3⟩ := T.cells
  have HG2 := hide T
  clear b T
  go_wp2_with fail
  refine hK.out _ _ ?_ (fun hHeld => ?_)
  · exact HG2.out.cells
  clear hK K
  first
    | (refine wpAnyH_take (i := 16) (v := ?_) rfl (by kernel_rfl) (by kernel_rfl) (by kernel_rfl) (fun _ _ _ h => h) (Or.inl ⟨by rfl, ?_⟩) (by assumption) ?_; rotate_left; (intro wx hSx; obtain ⟨q0, q1, q2, q3⟩ := hSx; go_simp; first | done | with_reducible rfl))
    | (refine wpAnyH_take (i := 16) (v := undef) rfl (by kernel_rfl) (by kernel_rfl) (by kernel_rfl) (fun _ _ _ h => h) (Or.inr ⟨by rfl, rfl⟩) (by assumption) ?_)
  simp only [Act.put, List.getElem_toArray, List.getElem_cons_succ, List.getElem_cons_zero, List.setIfInBounds_toArray, List.set_cons_zero, List.set_cons_succ]
  first
    | (refine wpAnyH_take (i := 17) (v := ?_) rfl (by kernel_rfl) (by kernel_rfl) (by kernel_rfl) (fun _ _ _ h => h) (Or.inl ⟨by rfl, ?_⟩) (by assumption) ?_; rotate_left; (intro wx hSx; obtain ⟨q0, q1, q2, q3⟩ := hSx; go_simp; first | done | with_reducible rfl))
    | (refine wpAnyH_take (i := 17) (v := undef) rfl (by kernel_rfl) (by kernel_rfl) (by kernel_rfl) (fun _ _ _ h => h) (Or.inr ⟨by rfl, rfl⟩) (by assumption) ?_)
  simp only [Act.put, List.getElem_toArray, List.getElem_cons_succ, List.getElem_cons_zero, List.setIfInBounds_toArray, List.set_cons_zero, List.set_cons_succ]
  refine wpAnyH_done (by kernel_rfl) ?_ _
  obtain ⟨c0, c1, c2, c3⟩ := HG2.out.cells
  have CJ := join_any HG2.out.c (fun i hi => Nat.lt_of_lt_of_le (HO.out i hi) HG2.out.b.size) HS.out
  go_wp2_with fail
  refine CJ.mono ?_
  rintro e W3 ⟨rfl, c3, o3⟩
  have HR := hide (CFr.since HG2.out.b c3 o3)
  clear c3 o3
  go_wp2
  go_ret
  exact ⟨rfl, HR.out⟩
set_option maxRecDepth 100000 in
theorem cgive_any {O : Nat → Prop} {w : World} {p : Nat} {f : Fr} (h : CFr O w p f) (hO : ∀ i, O i → i < w.heap.size) (s : Spn) (hs : Spn.Ok s) :
    Calls Tryz.prog 97 #[.pointer (some ⟨p, 0, none⟩), .agg #[.int .i64 s.a, .int .i64 s.k]] w fun e w' => e = .returned (.bool (f.give s).1) ∧ CFr (Gro O w w') w' p (f.give s).2 ∧ Onl O w w' := by
  have b0 := (Below.refl w.heap.size w).alloc (Nat.le_refl _) (.cells #[.int .i64 s.a, .int .i64 s.k] 84)
  have K0 : Gv O w p f s (w.alloc (.cells #[.int .i64 s.a, .int .i64 s.k] 84)) := ⟨h.below b0, Ob.new w [.int .i64 s.a, .int .i64 s.k] 84, b0⟩
  have hw := whole_ok h.ok
  have CW := fun W => within_any s hs f.whole hw W
  have hall := all_none (f := f) s
  cases hb : wnb s f.whole with
  | false =>
    have hg : f.give s = (false, f) := by unfold Fr.give; rw [if_neg]; rw [hall, hb]; simp
    rw [hb] at CW
    rw [hg]
    exact give_out h CW K0
  | true =>
    rw [hb] at CW
    obtain ⟨s1, s2, s3⟩ := wnb_iff.1 hb
    obtain ⟨w1, w2⟩ := hw
    have hl := h.ok.len
    have hwl : f.whole.1 + f.whole.2 ≤ 16384 := by unfold Fr.whole; split <;> simp only <;> omega
    have CF := fun W (K : Gv O w p f s W) => find_any K.c (tells_meets s ⟨by omega, by omega, by omega, by omega⟩ (crow_ok h.ok))
    rcases idx_cases (mtb s) f.rows with ⟨i, x, he, hx, hpx, _⟩ | ⟨he, hno⟩
    · have hg : f.give s = (false, f) := by
        unfold Fr.give
        rw [if_neg]
        rw [hall, hb, List.any_eq_true.2 ⟨x, List.mem_of_getElem? hx, hpx⟩]
        simp
      rw [he] at CF
      rw [hg]
      exact give_met h CW CF K0
    · have hq : f.all s false = true := by
        rw [hall, hb, List.any_eq_false.2 (fun x hx => by rw [hno x hx]; simp)]
        rfl
      have hg : f.give s = (true, f.put s true) := by unfold Fr.give; rw [if_pos hq]
      rw [he] at CF
      rw [hg]
      exact give_in h hO hq CW CF K0
end Go.Proofs.YtegadgncggbeoaaGreat
