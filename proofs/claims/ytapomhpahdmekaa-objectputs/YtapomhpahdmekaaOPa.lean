/- Which parents of a commit may be, over the translation. -/
import Derived.Test.YtapomhpahdmekaaOTx
import Derived.Test.YtapomhpahdmekaaHSm
import Derived.Deep.LoopGhost
import Derived.WalkMore
namespace Go.Proofs.Ytapomhpahdmekaa
open Go.RowKit Apo
theorem par_step {id z : Int} : ∀ {ps : List Int} {k : Nat}, ps.length ≤ 2 → parOk id (ps.take k) = true → ps[k]? = some z → z ≠ 0 → z < id → (∀ j, j < k → ps[j]? ≠ some z) → parOk id (ps.take (k + 1)) = true
  | [], _, _, _, h, _, _, _ => by simp at h
  | [p], 0, _, _, h, h0, h1, _ => by
    simp only [List.getElem?_cons_zero, Option.some.injEq] at h
    subst h
    simp [parOk, h0, h1]
  | [_], _ + 1, _, _, h, _, _, _ => by simp at h
  | [p, q], 0, _, _, h, h0, h1, _ => by
    simp only [List.getElem?_cons_zero, Option.some.injEq] at h
    subst h
    simp [parOk, h0, h1]
  | [p, q], 1, _, hp, h, h0, h1, hj => by
    simp only [List.getElem?_cons_succ, List.getElem?_cons_zero, Option.some.injEq] at h
    subst h
    have h2 := hj 0 (by omega)
    simp only [List.getElem?_cons_zero, ne_eq, Option.some.injEq] at h2
    simp only [List.take_succ_cons, List.take_zero, parOk] at hp ⊢
    simp [hp, h0, h1, h2]
  | [_, _], _ + 2, _, _, h, _, _, _ => by simp at h
  | _ :: _ :: _ :: _, _, hl, _, _, _, _, _ => by simp at hl
theorem par_no {id z : Int} : ∀ {ps : List Int} {k : Nat}, ps.length ≤ 2 → ps[k]? = some z → (z = 0 ∨ id ≤ z ∨ ∃ j, j < k ∧ ps[j]? = some z) → parOk id ps = false
  | [], _, _, h, _ => by simp at h
  | [p], 0, _, h, hh => by
    simp only [List.getElem?_cons_zero, Option.some.injEq] at h
    subst h
    rcases hh with h0 | h1 | ⟨j, hj, _⟩
    · simp [parOk, h0]
    · simp [parOk]; omega
    · omega
  | [_], _ + 1, _, h, _ => by simp at h
  | [p, q], 0, _, h, hh => by
    simp only [List.getElem?_cons_zero, Option.some.injEq] at h
    subst h
    rcases hh with h0 | h1 | ⟨j, hj, _⟩
    · simp [parOk, h0]
    · simp [parOk]; omega
    · omega
  | [p, q], 1, _, h, hh => by
    simp only [List.getElem?_cons_succ, List.getElem?_cons_zero, Option.some.injEq] at h
    subst h
    rcases hh with h0 | h1 | ⟨j, hj, h2⟩
    · simp [parOk, h0]
    · simp [parOk]; omega
    · obtain rfl : j = 0 := by omega
      simp only [List.getElem?_cons_zero, Option.some.injEq] at h2
      simp [parOk, h2]
  | [_, _], _ + 2, _, h, _ => by simp at h
  | _ :: _ :: _ :: _, _, hl, _, _ => by simp at hl
set_option maxRecDepth 100000 in
set_option maxHeartbeats 4000000 in
theorem par_any (id : Int) (a : Option Addr) (ps : List Int) (cap : Nat) (gen root : Int) (tx : ByteArray) (w : World) (hr : Rd .u64 w a ps) (hl : ps.length ≤ cap) (_hc : cap ≤ 9223372036854775807) :
    Calls Try.prog 30 #[cmV id a ps.length cap gen root tx] w fun e w' => e = .returned (.bool (parOk id ps)) ∧ Below w.heap.size w w' := by
  obtain ⟨n, hn⟩ : ∃ n, n = ps.length := ⟨_, rfl⟩
  have HL := hide hn
  rw [← hn] at hl ⊢
  have bA := (Below.refl w.heap.size w).alloc (Nat.le_refl _) (.cells #[.int .u64 id, .slice a n cap, .int .u64 gen, .int .u64 root, .string tx] 25)
  have HB := hide bA
  have HR := hide hr
  have HK := hide (Ob.new w [.int .u64 id, .slice a n cap, .int .u64 gen, .int .u64 root, .string tx] 25)
  clear hr bA hn
  by_cases h2 : 2 < n
  · have HP : Hid (parOk id ps = false) := hide (parOk_long (by have := HL.out; omega))
    have d1 : decide ((2 : Int) < (n : Int)) = true := by simp; omega
    have d2 : decide (2 < n) = true := by simp; omega
    go_enter Try.func30, Try.ntmps30
    go_wp2
    go_step3
    go_wp2
    rw [Exit.noGoto_ret]
    go_ret
    exact ⟨by rw [HP.out]; rfl, HB.out⟩
  · have d1 : decide ((2 : Int) < (n : Int)) = false := by simp; omega
    have d2 : decide (2 < n) = false := by simp; omega
    have h3 : n ≤ 2 := by omega
    clear h2
    go_enter Try.func30, Try.ntmps30
    go_wp2
    go_step3
    go_wp2
    go_step3
    go_wp2
    go_loopg [3, 15] n (fun g s3 s15 wx => ∃ k : Nat, k + g = n ∧ s3 = .int .i64 k ∧ s15 = .int .i64 k ∧ Hid (parOk id (ps.take k) = true) ∧ Hid (Below w.heap.size w wx) ∧ Hid (Ob wx w.heap.size 25 [.int .u64 id, .slice a n cap, .int .u64 gen, .int .u64 root, .string tx]))
    case atStart => exact ⟨0, by omega, rfl, rfl, hide (by simp [parOk]), HB, HK⟩
    case round =>
      clear HB HK
      obtain ⟨k, hkg, rfl, rfl, HP, HB, HK⟩ := hrel
      have x0 := HK.out.cell 0
      have x1 := HK.out.cell 1
      simp only [List.getElem?_cons_zero, List.getElem?_cons_succ] at x0 x1
      cases gk with
      | zero =>
        obtain rfl : k = n := by omega
        have HT : Hid (parOk id ps = true) := hide (by have := HP.out; rwa [HL.out, List.take_length] at this)
        have e1 : ((k : Int) == (k : Int)) = true := by simp
        go_wp2
        rw [Exit.noGoto_ret]
        go_ret
        exact ⟨by rw [HT.out]; rfl, HB.out⟩
      | succ gj =>
        have hlt : k < n := by omega
        have d3 : decide ((k : Int) < (n : Int)) = true := by simp; omega
        obtain ⟨b, off, z, ha, hcz, hz, _⟩ := (HR.out.below HB.out).at (by have := HL.out; omega : k < ps.length)
        subst ha
        have e1 : ((k : Int) == (n : Int)) = false := by simp; omega
        have e2 : (k == n) = false := by simp; omega
        by_cases hz0 : z = 0
        · have HF : Hid (parOk id ps = false) := hide (par_no (by have := HL.out; omega) hz.out (.inl hz0))
          subst hz0
          go_wp2
          rw [Exit.noGoto_ret]
          go_ret
          exact ⟨by rw [HF.out]; rfl, HB.out⟩
        · have q1 : (z == 0) = false := by simpa using hz0
          by_cases hz1 : id ≤ z
          · have HF : Hid (parOk id ps = false) := hide (par_no (by have := HL.out; omega) hz.out (.inr (.inl hz1)))
            go_wp2
            rw [Exit.noGoto_ret]
            go_ret
            exact ⟨by rw [HF.out]; rfl, HB.out⟩
          · go_wp2
            have HZ := hz
            clear hz x0 x1 hcz
            go_loopg [33] k (fun g s33 wx => ∃ j : Nat, j + g = k ∧ s33 = .int .i64 j ∧ Hid (∀ i, i < j → ps[i]? ≠ some z) ∧ Hid (Below w.heap.size w wx) ∧ Hid (Ob wx w.heap.size 25 [.int .u64 id, .slice (some ⟨b, off, none⟩) n cap, .int .u64 gen, .int .u64 root, .string tx]))
            case atStart => exact ⟨0, by omega, rfl, hide (fun i hi => by omega), HB, HK⟩
            case round =>
              clear HB HK
              obtain ⟨j, hjg, rfl, HJ, HB, HK⟩ := hrel
              have x0 := HK.out.cell 0
              have x1 := HK.out.cell 1
              simp only [List.getElem?_cons_zero, List.getElem?_cons_succ] at x0 x1
              cases gk with
              | zero =>
                obtain rfl : j = k := by omega
                have d4 : decide ((j : Int) < (j : Int)) = false := by simp
                have HS := hide (par_step (by have := HL.out; omega) HP.out HZ.out hz0 (by omega) HJ.out)
                go_wp2
                go_roundg gj
                case rel => exact ⟨j + 1, by omega, by simp, by simp, HS, HB, HK⟩
                case measure => omega
              | succ gi =>
                have hjk : j < k := by omega
                have d4 : decide ((j : Int) < (k : Int)) = true := by simp; omega
                obtain ⟨b', off', y, ha, hcy, hy, _⟩ := (HR.out.below HB.out).at (by have := HL.out; omega : j < ps.length)
                injection ha with ha
                injection ha with ha1 ha2
                subst ha1 ha2
                by_cases hyz : y = z
                · have HF : Hid (parOk id ps = false) := hide (par_no (by have := HL.out; omega) HZ.out (.inr (.inr ⟨j, hjk, by rw [← hyz]; exact hy.out⟩)))
                  subst hyz
                  clear hy HZ
                  have q2 : (y == y) = true := by simp
                  go_wp2
                  try rw [Exit.noGoto_ret]
                  go_ret
                  exact ⟨by rw [HF.out]; rfl, HB.out⟩
                · have q2 : (y == z) = false := by simpa using hyz
                  have HS : Hid (∀ i, i < j + 1 → ps[i]? ≠ some z) := hide (fun i hi => by
                    by_cases q : i = j
                    · subst q
                      rw [hy.out]
                      intro e
                      exact hyz (Option.some.inj e)
                    · exact HJ.out i (by omega))
                  clear hy
                  go_wp2
                  go_roundg gi
                  case rel => exact ⟨j + 1, by omega, by simp, HS, HB, HK⟩
                  case measure => omega
end Go.Proofs.Ytapomhpahdmekaa
