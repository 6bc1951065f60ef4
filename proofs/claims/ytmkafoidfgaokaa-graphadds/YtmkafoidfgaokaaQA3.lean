/- A commit in memory. Texts, parents and generations of commits: which may be, over the translation. What the document's own SameNumbers answers, over the translation. Which parents of a commit may be, over the translation. What slices.Equal answers of rows of numbers, over the translation. A commit as it comes in. Whether a commit may be: object.Right, over the translation. -/
import Derived.Deep.QuietTactic
import Derived.BigQuiet
import Derived.Deep.LoopGhost
import Derived.WalkMore
import Derived.Deep.Slices
import Derived.ProofKit
import Derived.OpenShut
import Derived.Test.YtmkafoidfgaokaaRows
import Derived.Test.YtmkafoidfgaokaaQA2
import Derived.Test.YtmkafoidfgaokaaQA1
namespace Go.Proofs.Ytmkafoidfgaokaa
open Go.RowKit Apo
/-- a commit in memory: its parents are read there -/
structure CmR (w : World) (c : Cm) (a : Option Addr) (cap : Nat) : Prop where
  rd : Rd .u64 w a c.ps
  len : c.ps.length ≤ cap
  big : cap ≤ 9223372036854775807
  txt : c.tx.size ≤ 9223372036854775807
  sz : c.Sz
theorem CmR.below {w w' : World} {c : Cm} {a : Option Addr} {cap : Nat} (h : CmR w c a cap) (b : Below w.heap.size w w') : CmR w' c a cap := { h with rd := h.rd.below b }
/-- a commit as it is handed over -/
abbrev cmV (id : Int) (a : Option Addr) (n cap : Nat) (gen root : Int) (tx : ByteArray) : Value := .agg #[.int .u64 id, .slice a n cap, .int .u64 gen, .int .u64 root, .string tx]
end Go.Proofs.Ytmkafoidfgaokaa
namespace Go.Proofs.Ytmkafoidfgaokaa
open Go.RowKit Apo
theorem txt_step {s : ByteArray} {k : Nat} (h : (List.range k).all (fun k => decide (32 ≤ PlainAid.bt s k) && decide (PlainAid.bt s k ≤ 126)) = true) (h1 : 32 ≤ PlainAid.bt s k) (h2 : PlainAid.bt s k ≤ 126) : (List.range (k + 1)).all (fun k => decide (32 ≤ PlainAid.bt s k) && decide (PlainAid.bt s k ≤ 126)) = true := by
  rw [List.range_succ, List.all_append, h]
  simp [h1, h2]
theorem txt_no {s : ByteArray} {k : Nat} (hk : k < s.size) (h : ¬ (32 ≤ PlainAid.bt s k ∧ PlainAid.bt s k ≤ 126)) : txtOk s = false := by
  unfold txtOk
  rw [Bool.and_eq_false_iff]
  right
  rw [List.all_eq_false]
  exact ⟨k, List.mem_range.2 hk, by simpa using h⟩
set_option maxHeartbeats 1000000 in
theorem text_any14 (s : ByteArray) (w : World) (hs : s.size ≤ 9223372036854775807) :
    Calls Try.prog 60 #[.string s] w fun e w' => e = .returned (.bool (txtOk s)) ∧ w = w' := by
  have hb := PlainAid.get_bt s
  by_cases hl : s.size ≤ 60
  · have d1 : decide ((60 : Int) < (s.size : Int)) = false := by simp; omega
    have d2 : decide (60 < s.size) = false := by simp; omega
    go_enter Try.func60, Try.ntmps60
    go_wp2
    go_loop [9] (fun i => ∃ k : Nat, k ≤ s.size ∧ i = .int .i64 k ∧ Hid ((List.range k).all (fun k => decide (32 ≤ PlainAid.bt s k) && decide (PlainAid.bt s k ≤ 126)) = true)) (fun i => s.size - (intOf i).toNat)
    case atStart => exact ⟨0, Nat.zero_le _, rfl, hide (by simp)⟩
    case round =>
      obtain ⟨k, hk, rfl, hf⟩ := hrel
      by_cases hlt : k < s.size
      · have hz0 := PlainAid.bt_nonneg s k
        have hz1 := PlainAid.bt_le s k
        by_cases h1 : 32 ≤ PlainAid.bt s k
        · by_cases h2 : PlainAid.bt s k ≤ 126
          · have HS := hide (txt_step hf.out h1 h2)
            go_wp2
            go_round
            case rel => exact ⟨k + 1, hlt, rfl, HS⟩
            case measure => simp [intOf]; omega
          · have HN := hide (txt_no hlt (fun q => h2 q.2))
            go_wp2
            go_ret
            exact ⟨by rw [HN.out]; rfl, rfl⟩
        · have HN := hide (txt_no hlt (fun q => h1 q.1))
          go_wp2
          go_ret
          exact ⟨by rw [HN.out]; rfl, rfl⟩
      · have HY : Hid (txtOk s = true) := hide (by
          have e : k = s.size := by omega
          unfold txtOk
          rw [← e, hf.out]
          simp; omega)
        go_wp2
        go_ret
        exact ⟨by rw [HY.out]; rfl, rfl⟩
  · have d1 : decide ((60 : Int) < (s.size : Int)) = true := by simp; omega
    have d2 : decide (60 < s.size) = true := by simp; omega
    have HN : Hid (txtOk s = false) := hide (by unfold txtOk; simp [hl])
    go_enter Try.func60, Try.ntmps60
    go_wp2
    go_ret
    exact ⟨by rw [HN.out]; rfl, rfl⟩
set_option maxHeartbeats 1000000 in
theorem rtext_any14 (s : ByteArray) (w : World) (hs : s.size ≤ 9223372036854775807) :
    Calls Try.prog 61 #[.string s] w fun e w' => e = .returned (.bool (txtOk s)) ∧ w = w' := by
  have hb := PlainAid.get_bt s
  go_enter Try.func61, Try.ntmps61
  go_wp2
  go_loop [3] (fun i => ∃ k : Nat, k ≤ s.size ∧ i = .int .i64 k ∧ Hid ((List.range k).all (fun k => decide (32 ≤ PlainAid.bt s k) && decide (PlainAid.bt s k ≤ 126)) = true)) (fun i => s.size - (intOf i).toNat)
  case atStart => exact ⟨0, Nat.zero_le _, rfl, hide (by simp)⟩
  case round =>
    obtain ⟨k, hk, rfl, hf⟩ := hrel
    by_cases hlt : k < s.size
    · have hz0 := PlainAid.bt_nonneg s k
      have hz1 := PlainAid.bt_le s k
      by_cases h1 : 32 ≤ PlainAid.bt s k
      · by_cases h2 : PlainAid.bt s k ≤ 126
        · have HS := hide (txt_step hf.out h1 h2)
          go_wp2
          go_round
          case rel => exact ⟨k + 1, hlt, rfl, HS⟩
          case measure => simp [intOf]; omega
        · have HN := hide (txt_no hlt (fun q => h2 q.2))
          go_wp2
          go_ret
          exact ⟨by rw [HN.out]; rfl, rfl⟩
      · have HN := hide (txt_no hlt (fun q => h1 q.1))
        go_wp2
        go_ret
        exact ⟨by rw [HN.out]; rfl, rfl⟩
    · have HY : Hid (txtOk s = decide (s.size ≤ 60)) := hide (by
        have e : k = s.size := by omega
        unfold txtOk
        have := hf.out
        rw [e] at this
        rw [this, Bool.and_true])
      have hdd : decide ((s.size : Int) ≤ 60) = decide (s.size ≤ 60) := by
        by_cases q : s.size ≤ 60
        · simp [q]; omega
        · simp [q]; omega
      go_wp2
      go_ret
      exact ⟨by rw [HY.out, ← hdd]; rfl, rfl⟩
set_option maxHeartbeats 1000000 in
theorem gen_any (id : Int) (a : Option Addr) (n cap : Nat) (gen root : Int) (tx : ByteArray) (w : World) :
    Calls Try.prog 59 #[cmV id a n cap gen root tx] w fun e w' => e = .returned (.bool (genOk n gen)) ∧ Below w.heap.size w w' := by
  have HB := hide ((Below.refl w.heap.size w).alloc (Nat.le_refl _) (.cells #[.int .u64 id, .slice a n cap, .int .u64 gen, .int .u64 root, .string tx] 32))
  by_cases h0 : n = 0
  · subst h0
    go_enter Try.func59, Try.ntmps59
    go_wp2
    go_ret
    exact ⟨rfl, HB.out⟩
  · have d1 : ((n : Int) == 0) = false := by simp; omega
    have HG : Hid (genOk n gen = decide (2 ≤ gen)) := hide (by unfold genOk; rw [if_neg h0])
    go_enter Try.func59, Try.ntmps59
    go_wp2
    go_ret
    exact ⟨by rw [HG.out]; rfl, HB.out⟩
end Go.Proofs.Ytmkafoidfgaokaa
namespace Go.Proofs.Ytmkafoidfgaokaa
open Go.RowKit Apo

theorem alike_step {l m : List Int} {k : Nat} {z : Int} (h : l.take k = m.take k) (h1 : l[k]? = some z) (h2 : m[k]? = some z) : l.take (k + 1) = m.take (k + 1) := by
  rw [List.take_add_one, List.take_add_one, h, h1, h2]
theorem alike_no {l m : List Int} {k : Nat} {z z' : Int} (h1 : l[k]? = some z) (h2 : m[k]? = some z') (hn : ¬ z = z') : decide (l = m) = false := by
  rw [decide_eq_false_iff_not]
  intro e
  subst e
  rw [h1] at h2
  exact hn (Option.some.inj h2)
theorem ret_boolS {a b : Bool} (h : a = b) : Ending.returned (.bool a) = .returned (.bool b) := by rw [h]
set_option maxRecDepth 100000 in
set_option maxHeartbeats 1000000 in
theorem samen_any (a a' : Option Addr) (cap cap' : Nat) (l m : List Int) (w : World) (hr : Rd .u64 w a l) (hr' : Rd .u64 w a' m) (hl : l.length ≤ 1099511627776) :
    Calls Try.prog 15 #[.slice a l.length cap, .slice a' m.length cap'] w fun e w' => e = .returned (.bool (decide (l = m))) ∧ Below w.heap.size w w' := by
  have hR := hide hr
  have hR' := hide hr'
  clear hr hr'
  by_cases hlm : l.length = m.length
  · have HL := hide hlm
    have ht : ((l.length : Int) != (m.length : Int)) = false := by rw [hlm]; simp
    have ht2 : ((l.length : Int) == (m.length : Int)) = true := by rw [hlm]; simp
    clear hlm
    go_enter Try.func15, Try.ntmps15
    go_wp2
    go_loopw [13] (fun i wr => ∃ k : Nat, k ≤ l.length ∧ i = .int .i64 k ∧ Hid (l.take k = m.take k) ∧ Below w.heap.size w wr) (fun i _ => l.length - (intOf i).toNat)
    case atStart => exact ⟨0, Nat.zero_le _, rfl, (by show l.take 0 = m.take 0; simp), Below.refl _ _⟩
    case round =>
      obtain ⟨k, hk, rfl, hA, hbr⟩ := hrel
      by_cases hlt : k < l.length
      · have hlt' : k < m.length := by have := HL.out; omega
        obtain ⟨b, off, z, ha, hc, hz, _⟩ := (hR.out.below hbr).at hlt
        obtain ⟨b', off', z', ha', hc', hz', _⟩ := (hR'.out.below hbr).at hlt'
        subst ha ha'
        by_cases hzz : z = z'
        · subst hzz
          have HS := hide (alike_step hA.out hz.out hz'.out)
          clear hz hz'
          go_wp2
          go_quiet (fail)
          go_wp2
          go_roundw
          case rel => exact ⟨k + 1, by omega, by go_num, HS, below_drewN hbr _⟩
          case measure => simp [intOf]; omega
        · have HN := hide (alike_no hz.out hz'.out hzz)
          have q1 : (z != z') = true := by simpa using hzz
          have q2 : (z == z') = false := by simpa using hzz
          clear hz hz' hzz
          go_wp2
          go_quiet (fail)
          go_wp2
          go_ret
          exact ⟨ret_boolS HN.out.symm, below_drewN hbr _⟩
      · have HN := hide (show decide (l = m) = true by
          have h1 := hA.out
          have h2 := HL.out
          rw [List.take_of_length_le (by omega), List.take_of_length_le (by omega)] at h1
          simp [h1])
        go_wp2
        go_ret
        exact ⟨ret_boolS HN.out.symm, hbr⟩
  · have HN := hide (show decide (l = m) = false by rw [decide_eq_false_iff_not]; intro e; exact hlm (by rw [e]))
    have q1 : ((l.length : Int) != (m.length : Int)) = true := by simp; omega
    have q2 : ((l.length : Int) == (m.length : Int)) = false := by simp; omega
    clear hlm
    go_enter Try.func15, Try.ntmps15
    go_wp2
    go_ret
    exact ⟨ret_boolS HN.out.symm, Below.refl _ _⟩
end Go.Proofs.Ytmkafoidfgaokaa
namespace Go.Proofs.Ytmkafoidfgaokaa
open Go.RowKit Apo
theorem par_step {id z : Int} : ∀ {ps : List Int} {k : Nat}, ps.length ≤ 2 → parOk id (ps.take k) = true → ps[k]? = some z → z ≠ 0 → z < id → (∀ j, j < k → ps[j]? ≠ some z) → parOk id (ps.take (k + 1)) = true
  | [], _, _, _, h, _, _, _ => by simp at h
  | [p], 0, _, _, h, h0, h1, _ => by
    simp only [List.getElem?_cons_zero, Option.some.injEq] at h
    subst h
    simp [parOk, h0, h1]
  | [_], _ + 1, _, _, h, _, _, _ => by simp at h
  | [p, q], 0, _, _, h, h0, h1, _ => by
    simp only [List.getElem?_cons_zero, Option.some.injEq] at h
    subst h
    simp [parOk, h0, h1]
  | [p, q], 1, _, hp, h, h0, h1, hj => by
    simp only [List.getElem?_cons_succ, List.getElem?_cons_zero, Option.some.injEq] at h
    subst h
    have h2 := hj 0 (by omega)
    simp only [List.getElem?_cons_zero, ne_eq, Option.some.injEq] at h2
    simp only [List.take_succ_cons, List.take_zero, parOk] at hp ⊢
    simp [hp, h0, h1, h2]
  | [_, _], _ + 2, _, _, h, _, _, _ => by simp at h
  | _ :: _ :: _ :: _, _, hl, _, _, _, _, _ => by simp at hl
theorem par_no {id z : Int} : ∀ {ps : List Int} {k : Nat}, ps.length ≤ 2 → ps[k]? = some z → (z = 0 ∨ id ≤ z ∨ ∃ j, j < k ∧ ps[j]? = some z) → parOk id ps = false
  | [], _, _, h, _ => by simp at h
  | [p], 0, _, h, hh => by
    simp only [List.getElem?_cons_zero, Option.some.injEq] at h
    subst h
    rcases hh with h0 | h1 | ⟨j, hj, _⟩
    · simp [parOk, h0]
    · simp [parOk]; omega
    · omega
  | [_], _ + 1, _, h, _ => by simp at h
  | [p, q], 0, _, h, hh => by
    simp only [List.getElem?_cons_zero, Option.some.injEq] at h
    subst h
    rcases hh with h0 | h1 | ⟨j, hj, _⟩
    · simp [parOk, h0]
    · simp [parOk]; omega
    · omega
  | [p, q], 1, _, h, hh => by
    simp only [List.getElem?_cons_succ, List.getElem?_cons_zero, Option.some.injEq] at h
    subst h
    rcases hh with h0 | h1 | ⟨j, hj, h2⟩
    · simp [parOk, h0]
    · simp [parOk]; omega
    · obtain rfl : j = 0 := by omega
      simp only [List.getElem?_cons_zero, Option.some.injEq] at h2
      simp [parOk, h2]
  | [_, _], _ + 2, _, h, _ => by simp at h
  | _ :: _ :: _ :: _, _, hl, _, _ => by simp at hl
set_option maxRecDepth 100000 in
set_option maxHeartbeats 4000000 in
theorem par_any (id : Int) (a : Option Addr) (ps : List Int) (cap : Nat) (gen root : Int) (tx : ByteArray) (w : World) (hr : Rd .u64 w a ps) (hl : ps.length ≤ cap) (_hc : cap ≤ 9223372036854775807) :
    Calls Try.prog 58 #[cmV id a ps.length cap gen root tx] w fun e w' => e = .returned (.bool (parOk id ps)) ∧ Below w.heap.size w w' := by
  obtain ⟨n, hn⟩ : ∃ n, n = ps.length := ⟨_, rfl⟩
  have HL := hide hn
  rw [← hn] at hl ⊢
  have bA := (Below.refl w.heap.size w).alloc (Nat.le_refl _) (.cells #[.int .u64 id, .slice a n cap, .int .u64 gen, .int .u64 root, .string tx] 32)
  have HB := hide bA
  have HR := hide hr
  have HK := hide (Ob.new w [.int .u64 id, .slice a n cap, .int .u64 gen, .int .u64 root, .string tx] 32)
  clear hr bA hn
  by_cases h2 : 2 < n
  · have HP : Hid (parOk id ps = false) := hide (parOk_long (by have := HL.out; omega))
    have d1 : decide ((2 : Int) < (n : Int)) = true := by simp; omega
    have d2 : decide (2 < n) = true := by simp; omega
    go_enter Try.func58, Try.ntmps58
    go_wp2
    go_step3
    go_wp2
    rw [Exit.noGoto_ret]
    go_ret
    exact ⟨by rw [HP.out]; rfl, HB.out⟩
  · have d1 : decide ((2 : Int) < (n : Int)) = false := by simp; omega
    have d2 : decide (2 < n) = false := by simp; omega
    have h3 : n ≤ 2 := by omega
    clear h2
    go_enter Try.func58, Try.ntmps58
    go_wp2
    go_step3
    go_wp2
    go_step3
    go_wp2
    go_loopg [3, 15] n (fun g s3 s15 wx => ∃ k : Nat, k + g = n ∧ s3 = .int .i64 k ∧ s15 = .int .i64 k ∧ Hid (parOk id (ps.take k) = true) ∧ Hid (Below w.heap.size w wx) ∧ Hid (Ob wx w.heap.size 32 [.int .u64 id, .slice a n cap, .int .u64 gen, .int .u64 root, .string tx]))
    case atStart => exact ⟨0, by omega, rfl, rfl, hide (by simp [parOk]), HB, HK⟩
    case round =>
      clear HB HK
      obtain ⟨k, hkg, rfl, rfl, HP, HB, HK⟩ := hrel
      have x0 := HK.out.cell 0
      have x1 := HK.out.cell 1
      simp only [List.getElem?_cons_zero, List.getElem?_cons_succ] at x0 x1
      cases gk with
      | zero =>
        obtain rfl : k = n := by omega
        have HT : Hid (parOk id ps = true) := hide (by have := HP.out; rwa [HL.out, List.take_length] at this)
        have e1 : ((k : Int) == (k : Int)) = true := by simp
        go_wp2
        rw [Exit.noGoto_ret]
        go_ret
        exact ⟨by rw [HT.out]; rfl, HB.out⟩
      | succ gj =>
        have hlt : k < n := by omega
        have d3 : decide ((k : Int) < (n : Int)) = true := by simp; omega
        obtain ⟨b, off, z, ha, hcz, hz, _⟩ := (HR.out.below HB.out).at (by have := HL.out; omega : k < ps.length)
        subst ha
        have e1 : ((k : Int) == (n : Int)) = false := by simp; omega
        have e2 : (k == n) = false := by simp; omega
        by_cases hz0 : z = 0
        · have HF : Hid (parOk id ps = false) := hide (par_no (by have := HL.out; omega) hz.out (.inl hz0))
          subst hz0
          go_wp2
          rw [Exit.noGoto_ret]
          go_ret
          exact ⟨by rw [HF.out]; rfl, HB.out⟩
        · have q1 : (z == 0) = false := by simpa using hz0
          by_cases hz1 : id ≤ z
          · have HF : Hid (parOk id ps = false) := hide (par_no (by have := HL.out; omega) hz.out (.inr (.inl hz1)))
            go_wp2
            rw [Exit.noGoto_ret]
            go_ret
            exact ⟨by rw [HF.out]; rfl, HB.out⟩
          · go_wp2
            have HZ := hz
            clear hz x0 x1 hcz
            go_loopg [33] k (fun g s33 wx => ∃ j : Nat, j + g = k ∧ s33 = .int .i64 j ∧ Hid (∀ i, i < j → ps[i]? ≠ some z) ∧ Hid (Below w.heap.size w wx) ∧ Hid (Ob wx w.heap.size 32 [.int .u64 id, .slice (some ⟨b, off, none⟩) n cap, .int .u64 gen, .int .u64 root, .string tx]))
            case atStart => exact ⟨0, by omega, rfl, hide (fun i hi => by omega), HB, HK⟩
            case round =>
              clear HB HK
              obtain ⟨j, hjg, rfl, HJ, HB, HK⟩ := hrel
              have x0 := HK.out.cell 0
              have x1 := HK.out.cell 1
              simp only [List.getElem?_cons_zero, List.getElem?_cons_succ] at x0 x1
              cases gk with
              | zero =>
                obtain rfl : j = k := by omega
                have d4 : decide ((j : Int) < (j : Int)) = false := by simp
                have HS := hide (par_step (by have := HL.out; omega) HP.out HZ.out hz0 (by omega) HJ.out)
                go_wp2
                go_roundg gj
                case rel => exact ⟨j + 1, by omega, by simp, by simp, HS, HB, HK⟩
                case measure => omega
              | succ gi =>
                have hjk : j < k := by omega
                have d4 : decide ((j : Int) < (k : Int)) = true := by simp; omega
                obtain ⟨b', off', y, ha, hcy, hy, _⟩ := (HR.out.below HB.out).at (by have := HL.out; omega : j < ps.length)
                injection ha with ha
                injection ha with ha1 ha2
                subst ha1 ha2
                by_cases hyz : y = z
                · have HF : Hid (parOk id ps = false) := hide (par_no (by have := HL.out; omega) HZ.out (.inr (.inr ⟨j, hjk, by rw [← hyz]; exact hy.out⟩)))
                  subst hyz
                  clear hy HZ
                  have q2 : (y == y) = true := by simp
                  go_wp2
                  try rw [Exit.noGoto_ret]
                  go_ret
                  exact ⟨by rw [HF.out]; rfl, HB.out⟩
                · have q2 : (y == z) = false := by simpa using hyz
                  have HS : Hid (∀ i, i < j + 1 → ps[i]? ≠ some z) := hide (fun i hi => by
                    by_cases q : i = j
                    · subst q
                      rw [hy.out]
                      intro e
                      exact hyz (Option.some.inj e)
                    · exact HJ.out i (by omega))
                  clear hy
                  go_wp2
                  go_roundg gi
                  case rel => exact ⟨j + 1, by omega, by simp, HS, HB, HK⟩
                  case measure => omega
end Go.Proofs.Ytmkafoidfgaokaa
namespace Go.Proofs.Ytmkafoidfgaokaa
open Go.RowKit Apo
end Go.Proofs.Ytmkafoidfgaokaa
namespace Go.Proofs.Ytmkafoidfgaokaa
open Go.ChangeShapes Go.WideShapes Go.RowKit Apo Go.Deep
theorem cap_of_row {k : IntKind} {w : World} {a : Option Addr} {len cap : Nat} {zs : List Int}
    (h : (a = none ∧ len = 0 ∧ cap = 0 ∧ zs = []) ∨
      ∃ x, a = some x ∧ len ≤ cap ∧ cap ≤ maxLen ∧ zs.length = cap ∧ (∀ i, i < zs.length → w.cell? (x.add i) = some (.int k (zs.getD i 0))) ∧ ∀ n ∈ zs, (Lit.int k n).wf = true) :
    len ≤ cap ∧ cap ≤ 9223372036854775807 := by
  rcases h with ⟨_, rfl, rfl, _⟩ | ⟨x, _, h1, h2, _⟩
  · exact ⟨Nat.le_refl _, by omega⟩
  · unfold maxLen at h2
    exact ⟨h1, by omega⟩
structure CmA where
  c : Cm
  a : Option Addr
  cap : Nat
section
variable {H : Type} {enc : TypeId × Value → H} {w : World} {base : Nat} {spare : Nat → Bool} {held : Bool}
set_option maxRecDepth 100000 in
theorem open_cm {fuel : Nat} {cs : List Value} {x : DataW H × List MemPlace} (hc : cs.length = 5) (h : DataW.trod enc Try.prog w base spare held fuel 32 cs = some x) :
    ∃ s : CmA, cs = [.int .u64 s.c.id, .slice s.a s.c.ps.length s.cap, .int .u64 s.c.gen, .int .u64 s.c.root, .string s.c.tx] ∧ CmR w s.c s.a s.cap := by
  obtain ⟨xs, k, hk, hxy, _, hxl, hf⟩ := DataW.trod_struct Try.underlying32 h
  match xs, hxl, cs, hc with
  | [y0, y1, y2, y3, y4], _, [v0, v1, v2, v3, v4], _ =>
    have c22 : Try.prog.cellsOf 23 = 1 := by kernel_rfl
    have c23 : Try.prog.cellsOf 30 = 1 := by kernel_rfl
    have c9 : Try.prog.cellsOf 9 = 1 := by kernel_rfl
    have g0 := hf 0 _ rfl
    have g1 := hf 1 _ rfl
    have g2 := hf 2 _ rfl
    have g3 := hf 3 _ rfl
    have g4 := hf 4 _ rfl
    simp [c22, c23, c9] at g0 g1 g2 g3 g4
    obtain ⟨id, e0, _, w0⟩ := DataW.trod_int Try.underlying23 g0
    obtain ⟨gen, e2, _, w2⟩ := DataW.trod_int Try.underlying23 g2
    obtain ⟨root, e3, _, w3⟩ := DataW.trod_int Try.underlying23 g3
    obtain ⟨tx, e4, _, w4⟩ := DataW.trod_string Try.underlying9 g4
    have b0 := bounds_u64 w0
    have b2 := bounds_u64 w2
    have b3 := bounds_u64 w3
    obtain ⟨a, cap, l, e1, hr, hl, hm, hu⟩ : ∃ (a : Option Addr) (cap : Nat) (l : List Int), v1 = .slice a l.length cap ∧ Rd .u64 w a l ∧ l.length ≤ cap ∧ cap ≤ maxLen ∧ InU l := by
      rcases open_ints Try.underlying30 Try.underlying23 (by kernel_rfl) g1 with ⟨hcs, _⟩ | ⟨ad, len, c, zs, hcs, _, hl, hm, hz, _, hcell, hwz⟩
      · simp only [List.cons.injEq, and_true] at hcs
        exact ⟨none, 0, [], hcs, Rd.nil _ _ _, by simp, by omega, by intro z hz; simp at hz⟩
      · simp only [List.cons.injEq, and_true] at hcs
        have hz' : len ≤ zs.length := by
          have : zs.length = if spare ad.block = true then c else len := by simpa using hz
          rw [this]; split <;> omega
        refine ⟨some ad, c, zs.take len, by simpa [Nat.min_eq_left hz'] using hcs, ?_, by simp; omega, hm, inU_of_wf (fun z hz => hwz z (List.mem_of_mem_take hz))⟩
        intro i hi
        have hi' : i < len := by simp at hi; omega
        obtain ⟨b, off, rfl, hc⟩ := ints_at hcell (by omega)
        refine ⟨b, off, rfl, ?_⟩
        rw [hc i (by omega)]
        congr 2
        simp [List.getD, hi']
    simp only [List.cons.injEq, and_true] at e0 e2 e3 e4
    subst e0 e1 e2 e3 e4
    unfold maxLen at hm w4
    have hsz : (⟨id, l, gen, root, tx⟩ : Cm).Sz := ⟨b0, hu, b2, b3⟩
    exact ⟨⟨⟨id, l, gen, root, tx⟩, a, cap⟩, rfl, hr, hl, by omega, by show tx.size ≤ _; omega, hsz⟩
set_option maxRecDepth 100000 in
theorem cm_in {r : Reach} {b0 : Nat} {v : Value} {d : DataW H} {ps : List MemPlace} (hval : Value.okWide Try.prog w r b0 32 v) (h : DataW.Trod enc Try.prog w base spare held 32 v d ps) :
    ∃ s : CmA, v = .agg #[.int .u64 s.c.id, .slice s.a s.c.ps.length s.cap, .int .u64 s.c.gen, .int .u64 s.c.root, .string s.c.tx] ∧ CmR w s.c s.a s.cap := by
  obtain ⟨cs, rfl, hc⟩ := okWide_struct Try.underlying32 hval
  obtain ⟨fuel, hf⟩ := h
  have c32 : Try.prog.cellsOf 32 = 5 := by kernel_rfl
  rw [c32] at hc
  obtain ⟨f, e, ok⟩ := open_cm (cs := cs.toList) (by simpa using hc) hf
  refine ⟨f, ?_, ok⟩
  cases cs
  simp only at e
  rw [e]
end
end Go.Proofs.Ytmkafoidfgaokaa
namespace Go.Proofs.Ytmkafoidfgaokaa
open Go.RowKit Apo
/-- a commit's cells -/
abbrev cmL (c : Cm) (a : Option Addr) (cap : Nat) : List Value := [.int .u64 c.id, .slice a c.ps.length cap, .int .u64 c.gen, .int .u64 c.root, .string c.tx]
set_option maxRecDepth 100000 in
set_option maxHeartbeats 4000000 in
theorem right14 (c : Cm) (a : Option Addr) (cap : Nat) (w : World) (hr : Rd .u64 w a c.ps) (hl : c.ps.length ≤ cap) (hc : cap ≤ 9223372036854775807) (ht : c.tx.size ≤ 9223372036854775807) :
    Calls Try.prog 48 #[cmV c.id a c.ps.length cap c.gen c.root c.tx] w fun e w' => e = .returned (.int .i64 (cmE c)) ∧ Below w.heap.size w w' := by
  obtain ⟨id, ps, gen, root, tx⟩ := c
  simp only at hr hl ht ⊢
  obtain ⟨n, hn⟩ : ∃ n, n = ps.length := ⟨_, rfl⟩
  have HE : Hid (cmE ⟨id, ps, gen, root, tx⟩ = if id = 0 then 120 else if parOk id ps = false then 120 else if genOk n gen = false then 120 else if txtOk tx = false then 121 else 0) := hide (by rw [hn]; rfl)
  have HC1 : Hid (∀ W, Below w.heap.size w W → Calls Try.prog 58 #[cmV id a n cap gen root tx] W fun e w' => e = .returned (.bool (parOk id ps)) ∧ Below W.heap.size W w') := hide (fun W hW => by rw [hn]; exact par_any id a ps cap gen root tx W (hr.below hW) hl hc)
  have HC2 := hide (fun W => gen_any id a n cap gen root tx W)
  have HC3 := hide (fun W => text_any14 tx W ht)
  rw [← hn]
  have bA := (Below.refl w.heap.size w).alloc (Nat.le_refl _) (.cells #[.int .u64 id, .slice a n cap, .int .u64 gen, .int .u64 root, .string tx] 32)
  have HB := hide bA
  have HK := hide (Ob.new w [.int .u64 id, .slice a n cap, .int .u64 gen, .int .u64 root, .string tx] 32)
  clear hr hl hc ht bA hn
  by_cases h0 : id = 0
  · subst h0
    have HX : Hid (cmE ⟨0, ps, gen, root, tx⟩ = 120) := hide (by rw [HE.out]; simp)
    go_enter Try.func48, Try.ntmps48
    go_wp2
    go_ret
    exact ⟨by rw [HX.out]; rfl, HB.out⟩
  · have d0 : (id == 0) = false := by simpa using h0
    cases hp : parOk id ps with
    | false =>
      have HX : Hid (cmE ⟨id, ps, gen, root, tx⟩ = 120) := hide (by rw [HE.out, if_neg h0, if_pos hp])
      rw [hp] at HC1
      clear hp HE
      go_enter Try.func48, Try.ntmps48
      go_wp2_with fail
      refine (HC1.out _ HB.out).mono ?_
      rintro e w1 ⟨rfl, b1⟩
      have HB1 := hide (HB.out.trans (b1.mono HB.out.size))
      clear b1
      go_wp2
      go_ret
      exact ⟨by rw [HX.out]; rfl, HB1.out⟩
    | true =>
      rw [hp] at HC1 HE
      clear hp
      go_enter Try.func48, Try.ntmps48
      go_wp2_with fail
      refine (HC1.out _ HB.out).mono ?_
      rintro e w1 ⟨rfl, b1⟩
      have HB1 := hide (HB.out.trans (b1.mono HB.out.size))
      have HK1 := hide (HK.out.old b1)
      have x0 := HK1.out.cell 0
      have x1 := HK1.out.cell 1
      have x2 := HK1.out.cell 2
      have x3 := HK1.out.cell 3
      have x4 := HK1.out.cell 4
      simp only [List.getElem?_cons_zero, List.getElem?_cons_succ] at x0 x1 x2 x3 x4
      clear b1 HB HK HC1
      go_wp2_with fail
      refine (HC2.out _).mono ?_
      rintro e w2 ⟨rfl, b2⟩
      have HB2 := hide (HB1.out.trans (b2.mono HB1.out.size))
      have HK2 := hide (HK1.out.old b2)
      clear x0 x1 x2 x3 x4
      have x4 := HK2.out.cell 4
      simp only [List.getElem?_cons_zero, List.getElem?_cons_succ] at x4
      clear b2 HB1 HK1 HC2
      cases hg : genOk n gen with
      | false =>
        have HX : Hid (cmE ⟨id, ps, gen, root, tx⟩ = 120) := hide (by rw [HE.out, if_neg h0, if_neg (by simp), if_pos hg])
        clear hg HE
        go_wp2
        go_ret
        exact ⟨by rw [HX.out]; rfl, HB2.out⟩
      | true =>
        rw [hg] at HE
        clear hg
        cases ht : txtOk tx with
        | false =>
          have HX : Hid (cmE ⟨id, ps, gen, root, tx⟩ = 121) := hide (by rw [HE.out, if_neg h0, if_neg (by simp), if_neg (by simp), if_pos ht])
          rw [ht] at HC3
          clear ht HE
          go_wp2_with fail
          refine (HC3.out _).mono ?_
          rintro e w3 ⟨rfl, rfl⟩
          go_wp2
          go_ret
          exact ⟨by rw [HX.out]; rfl, HB2.out⟩
        | true =>
          have HX : Hid (cmE ⟨id, ps, gen, root, tx⟩ = 0) := hide (by rw [HE.out, if_neg h0, if_neg (by simp), if_neg (by simp), if_neg (by simp [ht])])
          rw [ht] at HC3
          clear ht HE
          go_wp2_with fail
          refine (HC3.out _).mono ?_
          rintro e w3 ⟨rfl, rfl⟩
          go_wp2
          go_ret
          exact ⟨by rw [HX.out]; rfl, HB2.out⟩
end Go.Proofs.Ytmkafoidfgaokaa
