/- New, Take, Claim and Has of the program's Free, over the translation. -/
import Derived.Test.YtlomnpeelpmhiaaECu
namespace Go.Proofs.Ytlomnpeelpmhiaa
open Go.RowKit Apo

theorem CFr.since {O : Nat → Prop} {w W W' : World} {p : Nat} {f : Fr} (hb : Below w.heap.size w W) (h : CFr (Gro O W W') W' p f) (ho : Onl O W W') : CFr (Gro O w W') W' p f ∧ Onl O w W' :=
  ⟨h.mono (fun _ hi => hi.elim (fun q => .inl q) (fun q => .inr ⟨Nat.le_trans hb.size q.1, q.2⟩)), (Onl.ofBelow hb).trans ho⟩
theorem CFr.still {O : Nat → Prop} {w W : World} {p : Nat} {f : Fr} (h : CFr O w p f) (hb : Below w.heap.size w W) : CFr (Gro O w W) W p f ∧ Onl O w W := ⟨(h.below hb).mono (fun _ hi => .inl hi), Onl.ofBelow hb⟩
theorem hxp_of {n : Int} {x : Nat × Nat} (h : ftb n x = true) : wnb ⟨(x.1 : Int), n⟩ x = true := by
  obtain ⟨h1, h2⟩ := ftb_iff.1 h
  exact wnb_iff.2 ⟨h1, Int.le_refl _, by simp only; omega⟩
theorem take_some {f : Fr} {n : Int} {i : Nat} (h : f.first n = some i) : f.take n = (((i : Int), true), f.put ⟨i, n⟩ false) := by unfold Fr.take; rw [h]
theorem take_none {f : Fr} {n : Int} (h : f.first n = none) : f.take n = ((0, false), f) := by unfold Fr.take; rw [h]

set_option maxRecDepth 100000 in
set_option maxHeartbeats 1000000 in
theorem ctake_any {O : Nat → Prop} {w : World} {p : Nat} {f : Fr} (h : CFr O w p f) (hO : ∀ i, O i → i < w.heap.size) (n : Int) :
    Calls Try.prog 9 #[.pointer (some ⟨p, 0, none⟩), .int .i64 n] w fun e w' => e = .returned (.tuple #[.int .i64 (f.take n).1.1, .bool (f.take n).1.2]) ∧ CFr (Gro O w w') w' p (f.take n).2 ∧ Onl O w w' := by
  have C := find_any h (tells_fits n f.rows)
  have HH := hide h
  rcases idx_cases (ftb n) f.rows with ⟨i, x, he, hx, hpx, hno⟩ | ⟨he, hno⟩
  · rw [take_some (find_first h.ok hx hpx hno)]
    rw [he] at C
    have hxp := hxp_of hpx
    have hil := (List.getElem?_eq_some_iff.1 hx).1
    have HX := hide hx
    have HO := hide hO
    clear hx hpx hno he hO h
    go_enter Try.func9, Try.ntmps9
    go_wp2_with fail
    refine C.mono ?_
    rintro e W1 ⟨rfl, b⟩
    have c1 := HH.out.below b
    obtain ⟨v, m1, r1⟩ := c1.mem
    obtain ⟨g, cap, rfl, _, k1, k2, _⟩ := row_cell r1 HX.out
    have kp := m1.cell 3
    simp only [List.getElem?_cons_succ, List.getElem?_cons_zero] at kp
    have CC := cut_any c1 (fun i hi => Nat.lt_of_lt_of_le (HO.out i hi) b.size) (s := ⟨(x.1 : Int), n⟩) HX.out hxp
    have HB := hide b
    clear c1 m1 r1 b C
    go_wp2_with fail
    refine CC.mono ?_
    rintro e W2 ⟨rfl, c2, o2⟩
    have HR := hide (CFr.since HB.out c2 o2)
    clear c2 o2
    go_wp2
    refine bodyPost_ret (by simp [results, Try.results9, go_sem]; rfl) rfl ?_
    exact ⟨rfl, HR.out⟩
  · rw [take_none (find_none h.ok hno)]
    rw [he] at C
    clear hno he hO h
    go_enter Try.func9, Try.ntmps9
    go_wp2_with fail
    refine C.mono ?_
    rintro e W1 ⟨rfl, b⟩
    have HR := hide (CFr.still HH.out b)
    clear b C
    go_wp2
    refine bodyPost_ret (by simp [results, Try.results9, go_sem]; rfl) rfl ?_
    exact ⟨rfl, HR.out⟩
set_option maxRecDepth 100000 in
set_option maxHeartbeats 1000000 in
theorem cclaim_any {O : Nat → Prop} {w : World} {p : Nat} {f : Fr} (h : CFr O w p f) (hO : ∀ i, O i → i < w.heap.size) (s : Spn) (hs : Spn.Ok s) :
    Calls Try.prog 11 #[.pointer (some ⟨p, 0, none⟩), .agg #[.int .i64 s.a, .int .i64 s.k]] w fun e w' => e = .returned (.bool (f.claim s).1) ∧ CFr (Gro O w w') w' p (f.claim s).2 ∧ Onl O w w' := by
  have b0 := (Below.refl w.heap.size w).alloc (Nat.le_refl _) (.cells #[.int .i64 s.a, .int .i64 s.k] 29)
  have C := find_any (h.below b0) (tells_within s hs (crow_ok h.ok))
  have k0 := Ob.new w [.int .i64 s.a, .int .i64 s.k] 29
  have HH := hide h
  have HB0 := hide b0
  have hall := all_rows h.ok s
  rcases idx_cases (wnb s) f.rows with ⟨i, x, he, hx, hpx, hno⟩ | ⟨he, hno⟩
  · have hc : f.claim s = (true, f.put s false) := by
      unfold Fr.claim
      rw [if_pos]
      rw [hall, List.any_eq_true]
      exact ⟨x, List.mem_of_getElem? hx, hpx⟩
    rw [hc]
    rw [he] at C
    have HX := hide hx
    have HO := hide hO
    have HP := hide hpx
    have HK := hide k0
    clear hx hpx hno he hO h b0 hc hall k0
    go_enter Try.func11, Try.ntmps11
    go_wp2_with fail
    refine C.mono ?_
    rintro e W1 ⟨rfl, b⟩
    have B1 := HB0.out.trans (b.mono HB0.out.size)
    have k1 := HK.out.old b
    have x0 := k1.cell 0
    have x1 := k1.cell 1
    simp only [List.getElem?_cons_succ, List.getElem?_cons_zero] at x0 x1
    have CC := cut_any (HH.out.below B1) (fun i hi => Nat.lt_of_lt_of_le (HO.out i hi) B1.size) (s := s) HX.out HP.out
    have HB := hide B1
    clear b B1 C k1
    go_wp2_with fail
    refine CC.mono ?_
    rintro e W2 ⟨rfl, c2, o2⟩
    have HR := hide (CFr.since HB.out c2 o2)
    clear c2 o2
    go_wp2
    go_ret
    exact ⟨rfl, HR.out⟩
  · have hc : f.claim s = (false, f) := by
      unfold Fr.claim
      rw [if_neg]
      rw [hall, List.any_eq_true]
      rintro ⟨x, hx, q⟩
      rw [hno x hx] at q
      cases q
    rw [hc]
    rw [he] at C
    clear hno he hO h b0 hc hall k0
    go_enter Try.func11, Try.ntmps11
    go_wp2_with fail
    refine C.mono ?_
    rintro e W1 ⟨rfl, b⟩
    have HR := hide (CFr.still HH.out (HB0.out.trans (b.mono HB0.out.size)))
    clear b C
    go_wp2
    go_ret
    exact ⟨rfl, HR.out⟩
set_option maxRecDepth 100000 in
set_option maxHeartbeats 1000000 in
theorem chas_any {O : Nat → Prop} {w : World} {p : Nat} {f : Fr} (h : CFr O w p f) (s : Spn) (hs : Spn.Ok s) :
    Calls Try.prog 15 #[.pointer (some ⟨p, 0, none⟩), .agg #[.int .i64 s.a, .int .i64 s.k]] w fun e w' => e = .returned (.bool (f.all s true)) ∧ CFr (Gro O w w') w' p f ∧ Onl O w w' := by
  have b0 := (Below.refl w.heap.size w).alloc (Nat.le_refl _) (.cells #[.int .i64 s.a, .int .i64 s.k] 29)
  have C := find_any (h.below b0) (tells_within s hs (crow_ok h.ok))
  have HH := hide h
  have HB0 := hide b0
  have hall := all_rows h.ok s
  have hb : ∀ I : Int, idx (wnb s) f.rows = I → f.all s true = decide (0 ≤ I) := by
    intro I hI
    rw [hall]
    rcases idx_cases (wnb s) f.rows with ⟨i, x, he, hx, hpx, hno⟩ | ⟨he, hno⟩
    · rw [← hI, he, decide_eq_true (by omega), List.any_eq_true]
      exact ⟨x, List.mem_of_getElem? hx, hpx⟩
    · rw [← hI, he, decide_eq_false (by omega), List.any_eq_false]
      intro x hx
      rw [hno x hx]
      simp
  generalize idx (wnb s) f.rows = I at *
  rw [hb I rfl]
  clear h b0 hall hb
  go_enter Try.func15, Try.ntmps15
  go_wp2_with fail
  refine C.mono ?_
  rintro e W1 ⟨rfl, b⟩
  have HR := hide (CFr.still HH.out (HB0.out.trans (b.mono HB0.out.size)))
  clear b C
  go_wp2
  go_ret
  exact ⟨rfl, HR.out⟩
end Go.Proofs.Ytlomnpeelpmhiaa
