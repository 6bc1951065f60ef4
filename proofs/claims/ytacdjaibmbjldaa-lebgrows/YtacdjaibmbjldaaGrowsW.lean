/- What the statement LebGrows answers, over the translation. -/
import Derived.Test.YtacdjaibmbjldaaAwake
namespace Go.Proofs.Ytacdjaibmbjldaa
open Go.RowKit Apo

theorem own_len {w : World} {base e : Nat} {v : Value} {n : Nat} {xs : List Value} (h : w.ownsRow base e 1 v n xs) :
    ∃ a cap, v = .slice a n cap := by
  rcases h.2 with ⟨rfl, hz⟩ | ⟨g, cap, cur, rfl, _⟩
  · exact ⟨none, 0, by rw [hz]⟩
  · exact ⟨_, cap, rfl⟩

set_option maxHeartbeats 1000000 in
theorem growsLaw (a b : Int) (w : World) (h0 : 0 ≤ a) (h1 : a ≤ 18446744073709551615) (h2 : 0 ≤ b) (h3 : b ≤ 18446744073709551615) :
    Calls Try.prog 7 #[.int .u64 a, .int .u64 b] w fun e w' => e = .returned (.bool true) ∧ Below w.heap.size w w' := by
  have la := enc_len a.toNat
  have lb := enc_len b.toNat
  have hu : Hid (InU [a, b]) := by
    intro z hz
    simp at hz
    omega
  rcases (by omega : b < a ∨ a < b ∨ a = b) with hab | hab | hab
  · have hm := enc_mono (a := b.toNat) (b := a.toNat) (by omega)
    have hE : Hid ((encs [a, b]).length = (enc b.toNat).length + (enc a.toNat).length) := by
      show _ = _
      simp only [encs, List.append_nil, List.length_append]
      omega
    have sm : ∀ w, Calls Try.prog 11 #[.int .u64 b] w fun e w' => e = .returned (.int .i64 ((enc b.toNat).length : Nat)) ∧ w = w' := fun w => size_any b w (by omega) (by omega)
    have sM : ∀ w, Calls Try.prog 11 #[.int .u64 a] w fun e w' => e = .returned (.int .i64 ((enc a.toNat).length : Nat)) ∧ w = w' := fun w => size_any a w (by omega) (by omega)
    generalize (enc b.toNat).length = p at *
    generalize (enc a.toNat).length = q at *
    have Sm : Hid _ := sm
    have SM : Hid _ := sM
    clear sm sM
    go_enter Try.func7, Try.ntmps7
    go_wp2_with fail
    refine (awake_any _).mono ?_
    rintro e w1 ⟨rfl, hb⟩
    go_wp2_with fail
    refine (Sm.out _).mono ?_
    rintro e w2 ⟨rfl, rfl⟩
    go_wp2_with fail
    refine (SM.out _).mono ?_
    rintro e w2 ⟨rfl, rfl⟩
    go_wp2_with fail
    refine (put_any none 0 [] (some ⟨w1.heap.size, 0, none⟩) 2 [a, b] (w1.alloc (.cells #[.int .u64 a, .int .u64 b] 24)) (Rd.nil _ _ _) (fun _ => rfl) (rd_lit2 _ _ _ _ _) hu.out (by decide) (by simp)).mono ?_
    rintro e w2 ⟨v, rfl, hown, hb2⟩
    rw [List.nil_append, hE.out] at hown
    obtain ⟨x, cap, hv⟩ := own_len hown
    have hb3 : Below w.heap.size w w2 := (hb.alloc hb.size _).trans (hb2.mono (by have := hb.size; simp; omega))
    clear hown hb2
    rw [hv]
    go_wp2
    go_ret
    exact ⟨rfl, hb3⟩
  · have hm := enc_mono (a := a.toNat) (b := b.toNat) (by omega)
    have hE : Hid ((encs [a, b]).length = (enc a.toNat).length + (enc b.toNat).length) := by
      show _ = _
      simp only [encs, List.append_nil, List.length_append]
    have sm : ∀ w, Calls Try.prog 11 #[.int .u64 a] w fun e w' => e = .returned (.int .i64 ((enc a.toNat).length : Nat)) ∧ w = w' := fun w => size_any a w (by omega) (by omega)
    have sM : ∀ w, Calls Try.prog 11 #[.int .u64 b] w fun e w' => e = .returned (.int .i64 ((enc b.toNat).length : Nat)) ∧ w = w' := fun w => size_any b w (by omega) (by omega)
    generalize (enc a.toNat).length = p at *
    generalize (enc b.toNat).length = q at *
    have Sm : Hid _ := sm
    have SM : Hid _ := sM
    clear sm sM
    go_enter Try.func7, Try.ntmps7
    go_wp2_with fail
    refine (awake_any _).mono ?_
    rintro e w1 ⟨rfl, hb⟩
    go_wp2_with fail
    refine (Sm.out _).mono ?_
    rintro e w2 ⟨rfl, rfl⟩
    go_wp2_with fail
    refine (SM.out _).mono ?_
    rintro e w2 ⟨rfl, rfl⟩
    go_wp2_with fail
    refine (put_any none 0 [] (some ⟨w1.heap.size, 0, none⟩) 2 [a, b] (w1.alloc (.cells #[.int .u64 a, .int .u64 b] 24)) (Rd.nil _ _ _) (fun _ => rfl) (rd_lit2 _ _ _ _ _) hu.out (by decide) (by simp)).mono ?_
    rintro e w2 ⟨v, rfl, hown, hb2⟩
    rw [List.nil_append, hE.out] at hown
    obtain ⟨x, cap, hv⟩ := own_len hown
    have hb3 : Below w.heap.size w w2 := (hb.alloc hb.size _).trans (hb2.mono (by have := hb.size; simp; omega))
    clear hown hb2
    rw [hv]
    go_wp2
    go_ret
    exact ⟨rfl, hb3⟩
  · subst hab
    have hm := enc_mono (a := a.toNat) (b := a.toNat) (by omega)
    have hE : Hid ((encs [a, a]).length = (enc a.toNat).length + (enc a.toNat).length) := by
      show _ = _
      simp only [encs, List.append_nil, List.length_append]
    have sm : ∀ w, Calls Try.prog 11 #[.int .u64 a] w fun e w' => e = .returned (.int .i64 ((enc a.toNat).length : Nat)) ∧ w = w' := fun w => size_any a w (by omega) (by omega)
    have sM : ∀ w, Calls Try.prog 11 #[.int .u64 a] w fun e w' => e = .returned (.int .i64 ((enc a.toNat).length : Nat)) ∧ w = w' := fun w => size_any a w (by omega) (by omega)
    generalize (enc a.toNat).length = p at *
    have Sm : Hid _ := sm
    have SM : Hid _ := sM
    clear sm sM
    go_enter Try.func7, Try.ntmps7
    go_wp2_with fail
    refine (awake_any _).mono ?_
    rintro e w1 ⟨rfl, hb⟩
    go_wp2_with fail
    refine (Sm.out _).mono ?_
    rintro e w2 ⟨rfl, rfl⟩
    go_wp2_with fail
    refine (SM.out _).mono ?_
    rintro e w2 ⟨rfl, rfl⟩
    go_wp2_with fail
    refine (put_any none 0 [] (some ⟨w1.heap.size, 0, none⟩) 2 [a, a] (w1.alloc (.cells #[.int .u64 a, .int .u64 a] 24)) (Rd.nil _ _ _) (fun _ => rfl) (rd_lit2 _ _ _ _ _) hu.out (by decide) (by simp)).mono ?_
    rintro e w2 ⟨v, rfl, hown, hb2⟩
    rw [List.nil_append, hE.out] at hown
    obtain ⟨x, cap, hv⟩ := own_len hown
    have hb3 : Below w.heap.size w w2 := (hb.alloc hb.size _).trans (hb2.mono (by have := hb.size; simp; omega))
    clear hown hb2
    rw [hv]
    go_wp2
    go_ret
    exact ⟨rfl, hb3⟩
end Go.Proofs.Ytacdjaibmbjldaa
