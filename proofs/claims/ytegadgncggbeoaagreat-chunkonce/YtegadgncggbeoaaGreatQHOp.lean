/- The Store's Open of a device without a root, over the translation. -/
import Derived.Test.YtegadgncggbeoaaGreatQHPu
import Derived.Test.YtegadgncggbeoaaGreatQPMg
import Derived.Test.YtegadgncggbeoaaGreatQPgA
namespace Go.Proofs.YtegadgncggbeoaaGreat
open Go.RowKit Apo
/-- a Store without chunks -/
def cs1 (c : Cg) (st : Sd) : Cs := ⟨c, st, fun _ => none, 1, [], 1, fun _ => none, false⟩
set_option maxRecDepth 100000 in
theorem neq_span0 (W : World) : (binOp .neq 84 (.agg #[.int .i64 0, .int .i64 0]) (.agg #[.int .i64 0, .int .i64 0])).run Tryz.prog W = .ok (.bool false) W := by
  kernel_rfl
def OpenP (O : Nat → Prop) (w : World) (d : Nat) (S : Cs) (e : Ending) (w' : World) : Prop := ∃ s, e = .returned (.tuple #[.pointer (some ⟨s, 0, none⟩), .int .i64 0]) ∧ CSx (Gro O w w') w' s d S ∧ Onl O w w'
open Classical in
set_option maxRecDepth 100000 in
set_option maxHeartbeats 8000000 in
theorem hopen_new {O : Nat → Prop} {w : World} {d : Nat} {st : Sd} (h : CDev O w d st) (hO : ∀ i, O i → i < w.heap.size) (hc : st.C.length ≤ 536870000) (h1 : st.openC.2 = 50) (h2 : st.format.1 = 0) (h3 : st.format.2.openC.2 = 0) (h4 : st.format.2.openC.1.1.r = ⟨0, 0⟩) (hfc : st.format.2.C.length ≤ 536870912) :
    Calls Tryz.prog 9 #[.pointer (some ⟨d, 0, none⟩)] w (OpenP O w d (cs1 st.format.2.openC.1.1 st.format.2)) := by
  have C1 := copen_gen h hO (by omega)
  simp only [OpenTold, h1] at C1
  have HH := hide h
  have HC1 := hide C1
  obtain ⟨⟨⟨e, r, f, fw, fn, en⟩, root⟩, hcc⟩ : ∃ c, c = st.format.2.openC.1 := ⟨_, rfl⟩
  obtain ⟨st2, hst2⟩ : ∃ st2, st2 = st.format.2 := ⟨_, rfl⟩
  have HST := hide hst2
  have HCC := hide hcc
  have H3 := hide h3
  have H4 := hide h4
  have H2 := hide h2
  have HOO := hide hO
  clear h C1 hcc hst2 h3 h4 h2 h1 hO
  go_enter Tryz.func9, Tryz.ntmps9
  go_wp2_with fail
  refine HC1.out.mono ?_
  rintro e1 w1 ⟨rfl, b1⟩
  have CF := cformat_any (w := w1) (HH.out.onl (F := fun _ => False) (Onl.ofBelow b1) (fun _ _ q => q)) (fun i q => Nat.lt_of_lt_of_le (HOO.out i q) b1.size) (by omega)
  rw [H2.out] at CF
  have HCF := hide CF
  have HB1 := hide b1
  clear CF b1
  go_wp2_with fail
  refine HCF.out.mono ?_
  rintro e2 w2 ⟨rfl, d2, o2⟩
  have hO2 : ∀ i, Gro O w1 w2 i → i < w2.heap.size := Gro.lt (fun i q => Nat.lt_of_lt_of_le (HOO.out i q) HB1.out.size) o2.size
  have C2 := copen_gen d2 hO2 hfc
  simp only [OpenTold, if_pos H3.out] at C2
  have HC2 := hide C2
  have HO2 := hide o2
  clear C2 o2 d2 hO2
  go_wp2_with fail
  refine HC2.out.mono ?_
  rintro e3 w3 ⟨⟨p, v, rfl, t3, p3⟩, b3⟩
  obtain ⟨va, vc, hv, _, _, _, _⟩ := t3
  subst hv
  have hO3 : ∀ i, Gro (Gro O w1 w2) w2 w3 i → Gro O w w3 i := fun i q => by
    have z1 := HB1.out.size
    have z2 := HO2.out.size
    have z3 := b3.size
    rcases q with (q | q) | q
    · exact .inl q
    · exact .inr (by omega)
    · exact .inr (by omega)
  have p3' := p3.mono hO3
  have CN := hnew_any w3
  have hpl := p3.lt
  have HB3 := hide b3
  have HP3 := hide p3'
  have HCN := hide CN
  obtain ⟨NV, hNV⟩ : ∃ NV, NV = st.format.2.openC.1.2.length := ⟨_, rfl⟩
  rw [← hNV]
  clear p3 p3' CN b3 hO3 hNV
  go_wp2_with fail
  refine HCN.out.mono ?_
  rintro e4 w4 ⟨rfl, m1, m2, b4⟩
  have lt1 := m1.lt
  have lt2 := m2.lt
  have kS := Ob.new w4 [.pointer (some ⟨p, 0, none⟩), .map (some (w3.heap.size + 1)), .map (some (w3.heap.size + 2)), .int .u64 1, .slice none 0 0, .int .u64 0, .map none, .bool false] 82
  have b5 : Below w4.heap.size w4 (w4.alloc (.cells #[.pointer (some ⟨p, 0, none⟩), .map (some (w3.heap.size + 1)), .map (some (w3.heap.size + 2)), .int .u64 1, .slice none 0 0, .int .u64 0, .map none, .bool false] 82)) := (Below.refl _ w4).alloc (Nat.le_refl _) _
  have p5 := (HP3.out.below b4).below b5
  have CR := croot_any p5
  rw [H4.out] at CR
  simp only at CR
  have m1' := m1.below b5
  have m2' := m2.below b5
  have HCR := hide CR
  have HKS := hide kS
  have HP5 := hide p5
  have HM1 := hide m1'
  have HM2 := hide m2'
  have HB4 := hide b4
  have HB5 := hide b5
  clear CR kS p5 m1 m2 m1' m2' b4
  have hsz5 : (w4.alloc (.cells #[.pointer (some ⟨p, 0, none⟩), .map (some (w3.heap.size + 1)), .map (some (w3.heap.size + 2)), .int .u64 1, .slice none 0 0, .int .u64 0, .map none, .bool false] 82)).heap.size = w4.heap.size + 1 := by simp
  go_wp2_with fail
  refine HCR.out.mono ?_
  rintro e6 w6 ⟨rfl, b6⟩
  have k6 := HKS.out.old b6
  have CB := hbegin_ob k6
  have hn := neq_span0 w6
  have s3 := HB3.out.size
  have s4 := HB4.out.size
  have s6 := b6.size
  have s1 := HB1.out.size
  have s2 := HO2.out.size
  have HF : Hid (∀ w7, Ob w7 w4.heap.size 82 [.pointer (some ⟨p, 0, none⟩), .map (some (w3.heap.size + 1)), .map (some (w3.heap.size + 2)), .int .u64 ((1 : Nat) : Int), .slice none 0 0, .int .u64 ((1 : Nat) : Int), .map (some w6.heap.size), .bool false] → Mp Tryz.prog 31 w7 w6.heap.size (fun _ => none) → Onl (fun i => i = w4.heap.size) w6 w7 → w7.heap.size = w6.heap.size + 1 → OpenP O w d (cs1 st.format.2.openC.1.1 st.format.2) (.returned (.tuple #[.pointer (some ⟨w4.heap.size, 0, none⟩), .int .i64 0])) w7) := by
    refine hide (fun w7 k7 m7 o7 z7 => ?_)
    have o67 : Onl (fun i => i = w4.heap.size) (w4.alloc (.cells #[.pointer (some ⟨p, 0, none⟩), .map (some (w3.heap.size + 1)), .map (some (w3.heap.size + 2)), .int .u64 1, .slice none 0 0, .int .u64 0, .map none, .bool false] 82)) w7 := (Onl.ofBelow b6).trans o7
    have hU : ∀ i, i < w4.heap.size → i ≠ w4.heap.size := fun i q => by omega
    refine ⟨w4.heap.size, rfl, ⟨fun i => if i = w4.heap.size then 1 else if i = w3.heap.size + 1 then 10 else if i = w3.heap.size + 2 then 11 else if i = w6.heap.size then 5 else if Gro O w w3 i ∧ i < w3.heap.size then 2 else 0, p, w3.heap.size + 1, w3.heap.size + 2, w6.heap.size, none, 0, fun _ => [], ⟨k7, ?_, ?_, ⟨?_, ?_, ?_, fun _ => .slice none 0 0, ?_, ?_⟩, ?_, ?_, ?_, ?_, ?_, ?_, ?_⟩, ⟨?_, ?_⟩, ?_⟩, ?_⟩
    · simp
    · refine ((((HP3.out.dom (V := fun i => Gro O w w3 i ∧ i < w3.heap.size) (fun i hi q => ⟨q, hi⟩)).below HB4.out).below HB5.out).onl o67 (fun i q => by have := q.2; omega)).dom (fun i _ q => ?_)
      have := q.2
      show (if i = w4.heap.size then 1 else if i = w3.heap.size + 1 then 10 else if i = w3.heap.size + 2 then 11 else if i = w6.heap.size then 5 else if Gro O w w3 i ∧ i < w3.heap.size then 2 else 0) = 2
      rw [if_neg (by omega), if_neg (by omega), if_neg (by omega), if_neg (by omega), if_pos q]
    · exact HM1.out.onl o67 (by omega)
    · try simp only
      rw [if_neg (by omega), if_pos trivial]
    · try simp only
      rw [if_neg (by omega), if_neg (by omega), if_pos trivial]
    · exact HM2.out.onl o67 (by omega)
    · exact fun k hk => absurd rfl hk
    · exact m7
    · try simp only
      rw [if_neg (by omega), if_neg (by omega), if_neg (by omega), if_pos trivial]
    · exact fun i hi => absurd hi (by simp [cs1])
    · exact fun _ => rfl
    · simp [cs1]
    · exact fun x hx => by cases hx
    · intro i q
      try simp only at q
      split at q
      · omega
      · split at q
        · omega
        · split at q
          · omega
          · split at q
            · omega
            · split at q
              · next z => have := z.2; omega
              · exact absurd rfl q
    · intro k i
      exact ⟨fun q => by simp at q, fun ⟨c, q, _⟩ => by cases q⟩
    · intro k
      exact List.nodup_nil
    · intro i q
      try simp only at q
      split at q
      · exact .inr (by omega)
      · split at q
        · exact .inr (by omega)
        · split at q
          · exact .inr (by omega)
          · split at q
            · exact .inr (by omega)
            · split at q
              · next z =>
                rcases z.1 with y | y
                · exact .inl y
                · exact .inr (by omega)
              · exact absurd rfl q
    · refine ((((((Onl.ofBelow HB1.out).trans HO2.out).trans (Onl.ofBelow HB3.out)).trans (Onl.ofBelow HB4.out)).trans (Onl.ofBelow HB5.out)).trans (Onl.ofBelow b6)).more o7 (fun i q => .inr (by omega))
  have HCB := hide CB
  clear CB k6
  go_wp2_with fail
  refine HCB.out.mono ?_
  rintro e8 w8 ⟨rfl, k8, m8, o8, z8⟩
  have HFF := hide (HF.out w8 k8 m8 o8 z8)
  clear k8 m8 o8 z8 HF
  go_wp2
  refine bodyPost_ret (by simp [results, Tryz.results9, go_sem]; rfl) rfl ?_
  exact HFF.out
end Go.Proofs.YtegadgncggbeoaaGreat
