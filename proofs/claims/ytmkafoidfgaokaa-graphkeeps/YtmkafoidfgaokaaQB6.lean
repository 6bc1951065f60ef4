/- Rows of numbers that grow; the document's has. Over the translation. The document's Reach. Over the translation. -/
import Derived.Test.YtmkafoidfgaokaaQA5
import Derived.Test.YtmkafoidfgaokaaQA3
import Derived.Test.YtmkafoidfgaokaaQA6
import Derived.Test.YtmkafoidfgaokaaQA7
namespace Go.Proofs.Ytmkafoidfgaokaa
open Go.RowKit Apo
def cN (z : Int) : List Value := [.int .u64 z]
theorem cN_len (x : Int) : (cN x).length = 1 := rfl
theorem cN_one (x : Int) : ∀ u ∈ cN x, u.oneCell' = true := by simp [cN, Value.oneCell']
theorem gcells_n (l : List Int) : gcells cN l = l.map (Value.int .u64) := by
  induction l with
  | nil => rfl
  | cons z l ih =>
    have : gcells cN (z :: l) = cN z ++ gcells cN l := by simp [gcells]
    rw [this, ih]
    rfl
set_option maxRecDepth 100000 in
theorem info_n : (Try.prog.info? 23).map (fun i => (i.zero, i.size, i.bytes)) = some (some (.int .u64 0), 1, 8) := by kernel_rfl
/-- one number more: append(out, z) -/
theorem app_n {O : Nat → Prop} {W : World} {v : Value} {l : List Int} (z : Int) (h : Row O W 23 1 v l.length (l.map (Value.int .u64))) (hn : l.length ≤ 10000000) :
    ∃ a n c w', (Builtin.append_ #[30, 30] 30 #[v, .slice (some ⟨W.heap.size, 0, none⟩) 1 1]).run Try.prog (W.alloc (.cells #[.int .u64 z] 23)) = .ok (.slice a n c) w' ∧ Row (fun g => O g ∨ W.heap.size ≤ g) w' 23 1 (.slice a n c) (l ++ [z]).length ((l ++ [z]).map (Value.int .u64)) ∧ Onl (fun g => v.ownBlock = some g) W w' := by
  have b : Below W.heap.size W (W.alloc (.cells #[.int .u64 z] 23)) := (Below.refl _ _).alloc (Nat.le_refl _) _
  have h2 : Row O (W.alloc (.cells #[.int .u64 z] 23)) 23 1 v l.length (gcells cN l) := by
    rw [gcells_n]
    exact h.onl (F := fun _ => False) (Onl.ofBelow b) (fun _ _ q => q)
  obtain ⟨v', w', R, r, o, _⟩ := app_G (xs := [z]) (cp := 1) cN_len (by decide) cN_one Try.underlying30 info_n (by rfl) (by decide) h2 (by simp; omega) (rd_lit (c := cN) (k := 1) 23 W z)
  rw [gcells_n] at r
  obtain ⟨a, c, hv, _⟩ := r.form
  subst hv
  refine ⟨a, _, c, w', R, r.mono (fun g hg => hg.elim .inl (fun q => .inr (by rw [q]; simp))), ?_⟩
  exact (Onl.ofBelow b).trans o
set_option maxRecDepth 100000 in
set_option maxHeartbeats 1000000 in
theorem has_any (a : Option Addr) (cap : Nat) (l : List Int) (n : Int) (w : World) (hr : Rd .u64 w a l) (hl : l.length ≤ 1099511627776) :
    Calls Try.prog 40 #[.slice a l.length cap, .int .u64 n] w fun e w' => e = .returned (.bool (decide (n ∈ l))) ∧ w = w' := by
  have HR := hide hr
  obtain ⟨m, hm⟩ : ∃ m, m = l.length := ⟨_, rfl⟩
  rw [← hm] at hl ⊢
  have HM := hide hm
  clear hr hm
  go_enter Try.func40, Try.ntmps40
  go_wp2
  go_loopw [9] (fun i wr => ∃ k : Nat, k ≤ m ∧ i = .int .i64 k ∧ Hid (∀ z ∈ l.take k, z ≠ n) ∧ w = wr) (fun i _ => m - (intOf i).toNat)
  case atStart => exact ⟨0, Nat.zero_le _, rfl, hide (by simp), rfl⟩
  case round =>
    obtain ⟨k, hk, rfl, HS, rfl⟩ := hrel
    by_cases hlt : k < m
    · obtain ⟨b, off, z, ha, hc, hz, _⟩ := HR.out.at (by have := HM.out; omega : k < l.length)
      subst ha
      by_cases he : z = n
      · have HX : Hid (decide (n ∈ l) = true) := hide (by simp; rw [← he]; exact List.mem_of_getElem? hz.out)
        have d : (z == n) = true := by simpa using he
        clear hz he
        go_wp2
        go_ret
        exact ⟨by rw [HX.out]; rfl, rfl⟩
      · have d : (z == n) = false := by simpa using he
        have HS2 : Hid (∀ y ∈ l.take (k + 1), y ≠ n) := hide (fun y hy => by
          rw [List.take_add_one, hz.out, List.mem_append] at hy
          rcases hy with hy | hy
          · exact HS.out y hy
          · simp at hy; subst hy; exact he)
        clear hz he
        go_wp2
        go_roundw
        case rel => exact ⟨k + 1, by omega, by simp, HS2, by first | rfl | trivial⟩
        case measure => simp [intOf]; omega
    · have HX : Hid (decide (n ∈ l) = false) := hide (by
        have h := HS.out
        rw [List.take_of_length_le (by have := HM.out; omega)] at h
        simp
        intro q
        exact h n q rfl)
      go_wp2
      go_ret
      exact ⟨by rw [HX.out]; rfl, rfl⟩
end Go.Proofs.Ytmkafoidfgaokaa
namespace Go.Proofs.Ytmkafoidfgaokaa
open Go.RowKit Apo
/-- numbers in a row of one's own -/
def NuP (w : World) (l : List Int) (e : Ending) (w' : World) : Prop := ∃ a n c, e = .returned (.slice a n c) ∧ n = l.length ∧ Row (fun g => w.heap.size ≤ g) w' 23 1 (.slice a n c) l.length (l.map (Value.int .u64)) ∧ Below w.heap.size w w'
attribute [local go_sem ↓] Apo.app_exec
set_option maxRecDepth 100000 in
set_option maxHeartbeats 8000000 in
theorem reach_any {w0 w : World} {p : Nat} {L : List CmA} (h : Gr w0 w p L) (ia : Option Addr) (ic : Nat) (ids : List Int) (hps : ∀ x ∈ L, x.c.ps.length ≤ 1099511627776) (hr : Rd .u64 w ia ids) (hil : ids.length ≤ 1000000) :
    Calls Try.prog 25 #[.pointer (some ⟨p, 0, none⟩), .slice ia ids.length ic] w (NuP w (reachG (L.map CmA.c) ids)) := by
  obtain ⟨va, vc, k0, row⟩ := h.mem
  obtain ⟨a2, c2, hv, rd, _, _, _, _⟩ := rd_gcells cCm_len row
  injection hv with e1 e2 e3
  subst e1 e3
  have HG := hide h
  have HPL : Hid (∀ x ∈ L, x.c.ps.length ≤ 1099511627776) := hide hps
  have HRI := hide hr
  have HRD := hide rd
  obtain ⟨n, hn⟩ : ∃ n, n = L.length := ⟨_, rfl⟩
  have HOB : Hid (Ob w p 58 [.slice va n vc]) := hide (by rw [hn]; exact k0)
  have hn1 : n ≤ 1000 := by have := h.len; omega
  have HN := hide hn
  obtain ⟨m, hm⟩ : ∃ m, m = ids.length := ⟨_, rfl⟩
  rw [← hm] at hil ⊢
  have HM := hide hm
  have p0 := HOB.out.cell 0
  simp only [List.getElem?_cons_zero] at p0
  obtain ⟨l, hl⟩ : ∃ l, l = L.map CmA.c := ⟨_, rfl⟩
  have HLM := hide hl
  have hll : l.length = n := by rw [hl, hn]; simp
  rw [← hl]
  clear h hr k0 row rd hn hm hl hps
  go_enter Try.func25, Try.ntmps25
  go_wp2
  clear p0
  go_loopw [5, 6] (fun v i wr => ∃ k : Nat, k ≤ n ∧ i = .int .i64 ((n : Int) - 1 - k) ∧ (∃ xa xn xc, v = .slice xa xn xc) ∧ Hid (Row (fun g => w.heap.size ≤ g) wr 23 1 v (metK l ids k).length ((metK l ids k).map (Value.int .u64))) ∧ Hid (Below w.heap.size w wr)) (fun _ i _ => (intOf i + 1).toNat)
  case atStart => exact ⟨0, Nat.zero_le _, by simp, ⟨_, _, _, rfl⟩, hide (Row.nil _ _ _ _), hide (Below.refl _ _)⟩
  case round =>
    obtain ⟨k, hk, rfl, ⟨xa, xn, xc, rfl⟩, HMT, HB⟩ := hrel
    have kp := HOB.out.old HB.out
    have p0 := kp.cell 0
    simp only [List.getElem?_cons_zero] at p0
    have hmk := metK_len l ids k
    by_cases hlt : k < n
    · obtain ⟨y, hy⟩ : ∃ y, L[n - (k + 1)]? = some y := ⟨L[n - (k + 1)]'(by have := HN.out; omega), List.getElem?_eq_getElem _⟩
      obtain ⟨gg, go, rfl, r0, r1, r2, r3, r4⟩ := rd_cm (HRD.out.below HB.out) hy
      have hyc : l[l.length - (k + 1)]? = some y.c := by rw [hll, HLM.out, List.getElem?_map, hy]; rfl
      have HSU := hide (metK_succ (ids := ids) hyc)
      have hix : (((n : Int) - 1 - (k : Int))).toNat = n - (k + 1) := by omega
      have hge : decide ((0 : Int) ≤ (n : Int) - 1 - (k : Int)) = true := by simp; omega
      obtain ⟨ix, hixx⟩ : ∃ ix : Nat, (ix : Int) = (n : Int) - 1 - (k : Int) := ⟨n - (k + 1), by omega⟩
      have hixn : n - (k + 1) = ix := by omega
      rw [hixn] at r0 r1 r2 r3 r4
      rw [← hixx] at hge ⊢
      have hixl : ix < n := by omega
      have HIX := hide hixx
      have bA := HB.out.alloc HB.out.size (.cells #[.int .u64 y.c.id, .slice y.a y.c.ps.length y.cap, .int .u64 y.c.gen, .int .u64 y.c.root, .string y.c.tx] 32)
      have bA1 : Below wr.heap.size wr (wr.alloc (.cells #[.int .u64 y.c.id, .slice y.a y.c.ps.length y.cap, .int .u64 y.c.gen, .int .u64 y.c.root, .string y.c.tx] 32)) := (Below.refl _ _).alloc (Nat.le_refl _) _
      have HCH := hide (has_any ia ic ids y.c.id _ (HRI.out.below bA) (by have := HM.out; omega))
      rw [← HM.out] at HCH
      have HBA := hide bA
      have HMA := hide (HMT.out.onl (F := fun _ => False) (Onl.ofBelow bA1) (fun _ _ q => q))
      have HKA := hide (Ob.new wr [.int .u64 y.c.id, .slice y.a y.c.ps.length y.cap, .int .u64 y.c.gen, .int .u64 y.c.root, .string y.c.tx] 32)
      clear hy hyc kp bA bA1 HB HMT hix hixn hixx
      go_wp2_with fail
      refine HCH.out.mono ?_
      rintro e w1 ⟨rfl, rfl⟩
      obtain ⟨W1, hW1⟩ : ∃ W1, W1 = wr.alloc (.cells #[.int .u64 y.c.id, .slice y.a y.c.ps.length y.cap, .int .u64 y.c.gen, .int .u64 y.c.root, .string y.c.tx] 32) := ⟨_, rfl⟩
      rw [← hW1] at HBA HMA HKA ⊢
      generalize wr.heap.size = q at HKA ⊢
      obtain ⟨M, hM⟩ : ∃ M, M = metK l ids k := ⟨_, rfl⟩
      rw [← hM] at HMA HSU hmk
      obtain ⟨fa, fc, hf, hfm, _, _, hfx⟩ := HMA.out.form
      injection hf with f1 f2 f3
      subst f1 f3
      have HMR := hide (Rd.own HMA.out.1).1
      obtain ⟨mm, hmm⟩ : ∃ mm, mm = M.length := ⟨_, rfl⟩
      rw [← hmm] at f2 hmk
      subst f2
      have HMM := hide hmm
      obtain ⟨B0, hB0⟩ : ∃ B0, B0 = decide (y.c.id ∈ ids) := ⟨_, rfl⟩
      rw [← hB0]
      have HB0 := hide hB0
      clear HCH p0 r0 r1 r2 r3 r4 hW1 hM hmm hB0 hfx
      go_wp2
      go_loopw [8, 38] (fun v i wx => ∃ j : Nat, j ≤ xn ∧ i = .int .i64 j ∧ v = .bool (B0 || (M.take j).any (fun m => decide (y.c.id ∈ parG l m))) ∧ Hid (Below W1.heap.size W1 wx)) (fun _ i _ => xn - (intOf i).toNat)
      case atStart => exact ⟨0, Nat.zero_le _, rfl, by simp, hide (Below.refl _ _)⟩
      case round =>
        obtain ⟨j, hj, rfl, rfl, HBX⟩ := hrel
        by_cases hjx : j < xn
        · obtain ⟨b, off, z, ha, hcz, hz, _⟩ := (HMR.out.below HBX.out).at (by have := HMM.out; omega : j < M.length)
          subst ha
          have HCG := hide (get_any (HG.out.old (HBA.out.trans (HBX.out.mono HBA.out.size))) z)
          go_wp2_with fail
          refine HCG.out.mono ?_
          rintro e w3 ⟨⟨i', x, hxi, hg, rfl⟩ | ⟨hg, rfl⟩, b3⟩
          · have HPG : Hid (parG l z = x.c.ps) := hide (by unfold parG; rw [HLM.out, hg])
            have HB3 := hide (HBX.out.trans (b3.mono HBX.out.size))
            have bA := HB3.out.alloc HB3.out.size (.cells #[.int .u64 x.c.id, .slice x.a x.c.ps.length x.cap, .int .u64 x.c.gen, .int .u64 x.c.root, .string x.c.tx] 32)
            have HBA3 := hide bA
            have HKX := hide (Ob.new w3 [.int .u64 x.c.id, .slice x.a x.c.ps.length x.cap, .int .u64 x.c.gen, .int .u64 x.c.root, .string x.c.tx] 32)
            have kq3 := HKA.out.old bA
            have q0 := kq3.cell 0
            simp only [List.getElem?_cons_zero] at q0
            have HAN : Hid ((M.take (j + 1)).any (fun m => decide (y.c.id ∈ parG l m)) = ((M.take j).any (fun m => decide (y.c.id ∈ parG l m)) || decide (y.c.id ∈ x.c.ps))) := hide (by
              rw [List.take_add_one, hz.out, List.any_append]
              simp only [Option.toList_some, List.any_cons, List.any_nil, Bool.or_false]
              rw [HPG.out])
            obtain ⟨A0, hA0⟩ : ∃ A0, A0 = (B0 || (M.take j).any (fun m => decide (y.c.id ∈ parG l m))) := ⟨_, rfl⟩
            rw [← hA0]
            have HA0 := hide hA0
            have HCH2 := hide (has_any x.a x.cap x.c.ps y.c.id _ (((HG.out.cm x (List.mem_of_getElem? hxi)).below (HG.out.b.trans ((HBA.out.trans (bA.mono HBA.out.size)).mono HG.out.b.size))).rd) (by have := (HG.out.cm x (List.mem_of_getElem? hxi)).len; exact HPL.out x (List.mem_of_getElem? hxi)))
            clear b3 bA kq3 hA0 hxi hg HPG HCG hcz
            cases A0 with
            | true =>
              have HV : Hid ((B0 || (M.take (j + 1)).any (fun m => decide (y.c.id ∈ parG l m))) = true) := hide (by rw [HAN.out, ← Bool.or_assoc, ← HA0.out, Bool.true_or])
              go_wp2
              go_roundw
              case rel => exact ⟨j + 1, by omega, by simp, by rw [HV.out], HBA3⟩
              case measure => simp [intOf]; omega
            | false =>
              have HV : Hid ((B0 || (M.take (j + 1)).any (fun m => decide (y.c.id ∈ parG l m))) = decide (y.c.id ∈ x.c.ps)) := hide (by rw [HAN.out, ← Bool.or_assoc, ← HA0.out, Bool.false_or])
              go_wp2_with fail
              refine HCH2.out.mono ?_
              rintro e w5 ⟨rfl, rfl⟩
              rw [← HV.out]
              go_wp2
              go_roundw
              case rel => exact ⟨j + 1, by omega, by simp, rfl, HBA3⟩
              case measure => simp [intOf]; omega
          · have HPG : Hid (parG l z = []) := hide (by unfold parG; rw [HLM.out, hg])
            have HB3 := hide (HBX.out.trans (b3.mono HBX.out.size))
            have bA := HB3.out.alloc HB3.out.size (.cells #[.int .u64 0, .slice none 0 0, .int .u64 0, .int .u64 0, .string ⟨#[]⟩] 32)
            have HBA3 := hide bA
            have HKX := hide (Ob.new w3 [.int .u64 0, .slice none 0 0, .int .u64 0, .int .u64 0, .string ⟨#[]⟩] 32)
            have kq3 := HKA.out.old bA
            have q0 := kq3.cell 0
            simp only [List.getElem?_cons_zero] at q0
            have HAN : Hid ((M.take (j + 1)).any (fun m => decide (y.c.id ∈ parG l m)) = ((M.take j).any (fun m => decide (y.c.id ∈ parG l m)) || decide (y.c.id ∈ ([] : List Int)))) := hide (by
              rw [List.take_add_one, hz.out, List.any_append]
              simp only [Option.toList_some, List.any_cons, List.any_nil, Bool.or_false]
              rw [HPG.out])
            obtain ⟨A0, hA0⟩ : ∃ A0, A0 = (B0 || (M.take j).any (fun m => decide (y.c.id ∈ parG l m))) := ⟨_, rfl⟩
            rw [← hA0]
            have HA0 := hide hA0
            have HCH2 := hide (fun W => has_any none 0 ([] : List Int) y.c.id W (Rd.nil _ _ _) (by simp))
            simp only [List.length_nil] at HCH2
            clear b3 bA kq3 hA0 hg HPG HCG hcz
            cases A0 with
            | true =>
              have HV : Hid ((B0 || (M.take (j + 1)).any (fun m => decide (y.c.id ∈ parG l m))) = true) := hide (by rw [HAN.out, ← Bool.or_assoc, ← HA0.out, Bool.true_or])
              go_wp2
              go_roundw
              case rel => exact ⟨j + 1, by omega, by simp, by rw [HV.out], HBA3⟩
              case measure => simp [intOf]; omega
            | false =>
              have HV : Hid ((B0 || (M.take (j + 1)).any (fun m => decide (y.c.id ∈ parG l m))) = decide (y.c.id ∈ ([] : List Int))) := hide (by rw [HAN.out, ← Bool.or_assoc, ← HA0.out, Bool.false_or])
              go_wp2_with fail
              refine (HCH2.out _).mono ?_
              rintro e w5 ⟨rfl, rfl⟩
              rw [← HV.out]
              go_wp2
              go_roundw
              case rel => exact ⟨j + 1, by omega, by simp, rfl, HBA3⟩
              case measure => simp [intOf]; omega
        · obtain rfl : j = xn := by omega
          have HVB : Hid ((B0 || (M.take j).any (fun m => decide (y.c.id ∈ parG l m))) = metB l ids M y.c.id) := hide (by
            rw [HMM.out, List.take_length]
            unfold metB
            rw [HB0.out])
          rw [HVB.out]
          have kq3 := HKA.out.old HBX.out
          have q0 := kq3.cell 0
          simp only [List.getElem?_cons_zero] at q0
          have hWB := HBA.out.trans (HBX.out.mono HBA.out.size)
          have hrow := HMA.out.onl (F := fun _ => False) (Onl.ofBelow HBX.out) (fun _ _ q => q)
          cases hmb : metB l ids M y.c.id with
          | false =>
            have HS2 : Hid (metK l ids (k + 1) = M) := hide (by rw [HSU.out, if_neg (by rw [hmb]; simp)])
            have HR2 : Hid (Row (fun g => w.heap.size ≤ g) wr 23 1 (.slice xa j xc) (metK l ids (k + 1)).length ((metK l ids (k + 1)).map (Value.int .u64))) := hide (by rw [HS2.out]; exact hrow)
            have HW2 := hide hWB
            have hixe : (ix : Int) - 1 = (n : Int) - 1 - ((k + 1 : Nat) : Int) := by have := HIX.out; omega
            clear hrow hWB hmb kq3 q0 HS2
            go_wp2
            go_roundw
            case rel => exact ⟨k + 1, by omega, by have := HIX.out; simp <;> omega, ⟨_, _, _, rfl⟩, HR2, HW2⟩
            case measure => have := HIX.out; simp [intOf]; omega
          | true =>
            have HS2 : Hid (metK l ids (k + 1) = M ++ [y.c.id]) := hide (by rw [HSU.out, if_pos hmb])
            obtain ⟨a5, n5, c5, w5, R5, r5, o5⟩ := app_n y.c.id hrow (by have := HMM.out; omega)
            have HR2 : Hid (Row (fun g => w.heap.size ≤ g) w5 23 1 (.slice a5 n5 c5) (metK l ids (k + 1)).length ((metK l ids (k + 1)).map (Value.int .u64))) := hide (by
              rw [HS2.out]
              exact r5.mono (fun g hg => hg.elim id (fun q => by have := hWB.size; omega)))
            have HW2 := hide (Below.onl hWB o5 (fun i q => hrow.2 i q) (Nat.le_refl _))
            obtain ⟨z1, z2, z3⟩ := app_runs R5
            have hixe : (ix : Int) - 1 = (n : Int) - 1 - ((k + 1 : Nat) : Int) := by have := HIX.out; omega
            clear hrow hWB hmb kq3 HS2 R5 r5 o5
            go_wp2
            go_roundw
            case rel => exact ⟨k + 1, by omega, by have := HIX.out; simp <;> omega, ⟨_, _, _, rfl⟩, HR2, HW2⟩
            case measure => have := HIX.out; simp [intOf]; omega
    · obtain rfl : k = n := by omega
      have hge : decide ((0 : Int) ≤ (k : Int) - 1 - (k : Int)) = false := by simp; omega
      obtain ⟨M, hM⟩ : ∃ M, M = metK l ids k := ⟨_, rfl⟩
      rw [← hM] at HMT hmk
      have HRG : Hid (reachG l ids = M.reverse) := hide (by unfold reachG; rw [hM, hll])
      obtain ⟨fa, fc, hf, hfm, _, _, hfx⟩ := HMT.out.form
      injection hf with f1 f2 f3
      subst f1 f3
      obtain ⟨mm, hmm⟩ : ∃ mm, mm = M.length := ⟨_, rfl⟩
      rw [← hmm] at f2 hmk
      subst f2
      have HMM := hide hmm
      have HMR := hide (Rd.own HMT.out.1).1
      clear hM hmm hfx kp p0
      obtain ⟨V, hV⟩ : ∃ V, V = wr := ⟨_, rfl⟩
      subst hV
      go_wp2
      go_loopw [13, 14] (fun v i wx => ∃ j : Nat, j ≤ xn ∧ i = .int .i64 ((xn : Int) - 1 - j) ∧ (∃ xa xn xc, v = .slice xa xn xc) ∧ Hid (Row (fun g => V.heap.size ≤ g) wx 23 1 v (M.reverse.take j).length ((M.reverse.take j).map (Value.int .u64))) ∧ Hid (Below V.heap.size V wx)) (fun _ i _ => (intOf i + 1).toNat)
      case atStart => exact ⟨0, Nat.zero_le _, by simp, ⟨_, _, _, rfl⟩, hide (Row.nil _ _ _ _), hide (Below.refl _ _)⟩
      case round =>
        obtain ⟨j, hj, rfl, ⟨ya, yn, yc, rfl⟩, HRO, HBX⟩ := hrel
        have hWB := HB.out.trans (HBX.out.mono HB.out.size)
        by_cases hjx : j < xn
        · have hge2 : decide ((0 : Int) ≤ (xn : Int) - 1 - (j : Int)) = true := by simp; omega
          obtain ⟨ix, hixx⟩ : ∃ ix : Nat, (ix : Int) = (xn : Int) - 1 - (j : Int) := ⟨xn - (j + 1), by omega⟩
          have HIX := hide hixx
          rw [← hixx] at hge2 ⊢
          have hixl : ix < xn := by omega
          obtain ⟨b, off, z, ha, hcz, hz, _⟩ := (HMR.out.below HBX.out).at (by have := HMM.out; omega : ix < M.length)
          subst ha
          have HTR : Hid (M.reverse.take (j + 1) = M.reverse.take j ++ [z]) := hide (by
            rw [List.take_add_one]
            have : M.reverse[j]? = some z := by
              rw [List.getElem?_reverse (by have := HMM.out; omega)]
              have e : M.length - 1 - j = ix := by have := HMM.out; omega
              rw [e]
              exact hz.out
            rw [this]
            rfl)
          have hln : (M.reverse.take j).length ≤ 1000 := by rw [List.length_take, List.length_reverse]; have := HMM.out; omega
          obtain ⟨a5, n5, c5, w5, R5, r5, o5⟩ := app_n z HRO.out (by omega)
          have HR2 : Hid (Row (fun g => V.heap.size ≤ g) w5 23 1 (.slice a5 n5 c5) (M.reverse.take (j + 1)).length ((M.reverse.take (j + 1)).map (Value.int .u64))) := hide (by
            rw [HTR.out]
            exact r5.mono (fun g hg => hg.elim id (fun q => by have := HBX.out.size; omega)))
          have HW2 : Hid (Below V.heap.size V w5) := hide (Below.onl HBX.out o5 (fun i q => HRO.out.2 i q) (Nat.le_refl _))
          obtain ⟨z1, z2, z3⟩ := app_runs R5
          clear R5 r5 o5 hz HTR hWB hixx HRO hln
          go_wp2
          go_roundw
          case rel => exact ⟨j + 1, by omega, by have := HIX.out; simp; try omega, ⟨_, _, _, rfl⟩, HR2, HW2⟩
          case measure => have := HIX.out; simp [intOf] <;> omega
        · obtain rfl : j = xn := by omega
          have hge2 : decide ((0 : Int) ≤ (j : Int) - 1 - (j : Int)) = false := by simp; omega
          have hall : M.reverse.take j = M.reverse := by rw [List.take_of_length_le (by rw [List.length_reverse]; have := HMM.out; omega)]
          rw [hall] at HRO
          obtain ⟨ga, gc, hf2, _⟩ := HRO.out.form
          injection hf2 with f1 f2 f3
          subst f1 f3
          have HF : Hid (NuP w (reachG l ids) (.returned (.slice ya yn yc)) wr) := hide ⟨ya, yn, yc, rfl, by rw [HRG.out]; exact f2, by rw [HRG.out]; exact HRO.out.mono (fun g hg => by have := HB.out.size; omega), hWB⟩
          clear HRO hWB hall f2
          go_wp2
          go_ret
          exact HF.out
end Go.Proofs.Ytmkafoidfgaokaa
