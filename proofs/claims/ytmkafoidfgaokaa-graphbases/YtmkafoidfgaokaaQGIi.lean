/- The document's Ids and Is. Over the translation. -/
import Derived.Test.YtmkafoidfgaokaaQB6
namespace Go.Proofs.Ytmkafoidfgaokaa
open Go.RowKit Apo
attribute [local go_sem ↓] Apo.app_exec
set_option maxRecDepth 100000 in
set_option maxHeartbeats 4000000 in
theorem ids_any {w0 w : World} {p : Nat} {L : List CmA} (h : Gr w0 w p L) :
    Calls Try.prog 17 #[.pointer (some ⟨p, 0, none⟩)] w (NuP w ((L.map CmA.c).map Cm.id)) := by
  obtain ⟨va, vc, k0, row⟩ := h.mem
  obtain ⟨a2, c2, hv, rd, _, _, _, _⟩ := rd_gcells cCm_len row
  injection hv with e1 e2 e3
  subst e1 e3
  have HRD := hide rd
  obtain ⟨n, hn⟩ : ∃ n, n = L.length := ⟨_, rfl⟩
  have hn1 : n ≤ 1000 := by have := h.len; omega
  have p0 := k0.cell 0
  simp only [List.getElem?_cons_zero] at p0
  rw [← hn] at p0
  have HN := hide hn
  obtain ⟨I, hI⟩ : ∃ I, I = (L.map CmA.c).map Cm.id := ⟨_, rfl⟩
  have HI := hide hI
  have hIl : I.length = n := by rw [hI, hn]; simp
  rw [← hI]
  clear h k0 row rd hn hI
  go_enter Try.func17, Try.ntmps17
  go_wp2
  clear p0
  go_loopw [3, 11] (fun v i wr => ∃ k : Nat, k ≤ n ∧ i = .int .i64 k ∧ (∃ xa xn xc, v = .slice xa xn xc) ∧ Hid (Row (fun g => w.heap.size ≤ g) wr 23 1 v (I.take k).length ((I.take k).map (Value.int .u64))) ∧ Hid (Below w.heap.size w wr)) (fun _ i _ => n - (intOf i).toNat)
  case atStart => exact ⟨0, Nat.zero_le _, rfl, ⟨_, _, _, rfl⟩, hide (Row.nil _ _ _ _), hide (Below.refl _ _)⟩
  case round =>
    obtain ⟨k, hk, rfl, ⟨xa, xn, xc, rfl⟩, HRO, HB⟩ := hrel
    by_cases hlt : k < n
    · obtain ⟨y, hy⟩ : ∃ y, L[k]? = some y := ⟨L[k]'(by have := HN.out; omega), List.getElem?_eq_getElem _⟩
      obtain ⟨gg, go, rfl, r0, r1, r2, r3, r4⟩ := rd_cm (HRD.out.below HB.out) hy
      have HTR : Hid (I.take (k + 1) = I.take k ++ [y.c.id]) := hide (by
        rw [List.take_add_one]
        have : I[k]? = some y.c.id := by rw [HI.out, List.getElem?_map, List.getElem?_map, hy]; rfl
        rw [this]
        rfl)
      obtain ⟨W1, hW1⟩ : ∃ W1, W1 = wr.alloc (.cells #[.int .u64 y.c.id, .slice y.a y.c.ps.length y.cap, .int .u64 y.c.gen, .int .u64 y.c.root, .string y.c.tx] 32) := ⟨_, rfl⟩
      have b1 : Below wr.heap.size wr W1 := by rw [hW1]; exact (Below.refl _ _).alloc (Nat.le_refl _) _
      have k1 : Ob W1 wr.heap.size 32 [.int .u64 y.c.id, .slice y.a y.c.ps.length y.cap, .int .u64 y.c.gen, .int .u64 y.c.root, .string y.c.tx] := by rw [hW1]; exact Ob.new wr [.int .u64 y.c.id, .slice y.a y.c.ps.length y.cap, .int .u64 y.c.gen, .int .u64 y.c.root, .string y.c.tx] _
      have B1 := HB.out.trans (b1.mono HB.out.size)
      have row1 := HRO.out.onl (F := fun _ => False) (Onl.ofBelow b1) (fun _ _ q => q)
      obtain ⟨a5, n5, c5, w5, R5, r5, o5⟩ := app_n y.c.id row1 (by rw [List.length_take]; omega)
      have HR2 : Hid (Row (fun g => w.heap.size ≤ g) w5 23 1 (.slice a5 n5 c5) (I.take (k + 1)).length ((I.take (k + 1)).map (Value.int .u64))) := hide (by
        rw [HTR.out]
        exact r5.mono (fun g hg => hg.elim id (fun q => by have := B1.size; omega)))
      have HW2 := hide (Below.onl B1 o5 (fun i q => row1.2 i q) (Nat.le_refl _))
      obtain ⟨z1, z2, z3⟩ := app_runs R5
      rw [hW1] at z1 z2 z3
      simp only [World.size_alloc] at z1 z2 z3
      clear R5 r5 o5 hy HTR B1 b1 k1 row1 HRO hW1
      go_wp2
      go_roundw
      case rel => exact ⟨k + 1, by omega, by simp, ⟨_, _, _, rfl⟩, HR2, HW2⟩
      case measure => simp [intOf]; omega
    · obtain rfl : k = n := by omega
      rw [List.take_of_length_le (by omega)] at HRO
      obtain ⟨ga, gc, hf2, _⟩ := HRO.out.form
      injection hf2 with f1 f2 f3
      subst f1 f3
      have HF : Hid (NuP w I (.returned (.slice xa xn xc)) wr) := hide ⟨xa, xn, xc, rfl, f2, HRO.out, HB.out⟩
      clear HRO f2
      go_wp2
      go_ret
      exact HF.out
set_option maxRecDepth 100000 in
set_option maxHeartbeats 4000000 in
theorem is_any {w0 w : World} {p : Nat} {L : List CmA} (h : Gr w0 w p L) (hps : ∀ x ∈ L, x.c.ps.length ≤ 1099511627776) (old late : Int) :
    Calls Try.prog 21 #[.pointer (some ⟨p, 0, none⟩), .int .u64 old, .int .u64 late] w fun e w' => e = .returned (.bool (isG (L.map CmA.c) old late)) ∧ Below w.heap.size w w' := by
  have b0 : Below w.heap.size w (w.alloc (.cells #[.int .u64 late] 23)) := (Below.refl _ _).alloc (Nat.le_refl _) _
  have HCR := hide (reach_any (h.old b0) (some ⟨w.heap.size, 0, none⟩) 1 [late] hps (rd_lit1 _ _ _ _) (by simp))
  have hrl : (reachG (L.map CmA.c) [late]).length ≤ 1000 := by
    have h1 := metK_len (L.map CmA.c) [late] (L.map CmA.c).length
    have h2 := h.len
    unfold reachG
    rw [List.length_reverse]
    rw [List.length_map] at h1 ⊢
    omega
  have HB0 := hide b0
  have HE : Hid (isG (L.map CmA.c) old late = decide (old ∈ reachG (L.map CmA.c) [late])) := hide rfl
  generalize reachG (L.map CmA.c) [late] = R at HCR hrl HE
  clear h hps b0
  go_enter Try.func21, Try.ntmps21
  go_wp2_with fail
  refine HCR.out.mono ?_
  rintro e w1 ⟨a1, n1, c1, rfl, hn1, r1, b1⟩
  have HB1 := hide (HB0.out.trans (b1.mono HB0.out.size))
  have HCH := hide (has_any a1 c1 R old w1 (Rd.own r1.1).1 (by omega))
  rw [← hn1] at HCH
  clear r1 b1 hn1 HCR HB0
  go_wp2_with fail
  refine HCH.out.mono ?_
  rintro e w2 ⟨rfl, rfl⟩
  rw [← HE.out]
  clear HCH
  go_wp2
  go_ret
  exact ⟨rfl, HB1.out⟩
end Go.Proofs.Ytmkafoidfgaokaa
