/- The document's Keep. Over the translation. -/
import Derived.Test.YtmkafoidfgaokaaQGIi
import Derived.Test.YtmkafoidfgaokaaQA7
namespace Go.Proofs.Ytmkafoidfgaokaa
open Go.RowKit Apo
/-- one commit more: append(out, c) -/
theorem app_c1 {O : Nat → Prop} {W : World} {v : Value} {l : List CmA} (x : CmA) (h : Row O W 32 5 v l.length (gcells cCm l)) (hn : l.length ≤ 10000000) :
    ∃ a n c w', (Builtin.append_ #[22, 22] 22 #[v, .slice (some ⟨W.heap.size, 0, none⟩) 1 1]).run Try.prog (W.alloc (.cells #[.int .u64 x.c.id, .slice x.a x.c.ps.length x.cap, .int .u64 x.c.gen, .int .u64 x.c.root, .string x.c.tx] 32)) = .ok (.slice a n c) w' ∧ Row (fun g => O g ∨ W.heap.size ≤ g) w' 32 5 (.slice a n c) (l ++ [x]).length (gcells cCm (l ++ [x])) ∧ Onl (fun g => v.ownBlock = some g) W w' := by
  have b : Below W.heap.size W (W.alloc (.cells #[.int .u64 x.c.id, .slice x.a x.c.ps.length x.cap, .int .u64 x.c.gen, .int .u64 x.c.root, .string x.c.tx] 32)) := (Below.refl _ _).alloc (Nat.le_refl _) _
  have h2 := h.onl (F := fun _ => False) (Onl.ofBelow b) (fun _ _ q => q)
  obtain ⟨v', w', R, r, o, _⟩ := app_cm (xs := [x]) (cp := 1) h2 (by simp; omega) (rd_lit (c := cCm) (k := 5) 32 W x)
  obtain ⟨a, c, hv, _⟩ := r.form
  subst hv
  refine ⟨a, _, c, w', R, r.mono (fun g hg => hg.elim .inl (fun q => .inr (by rw [q]; simp))), ?_⟩
  exact (Onl.ofBelow b).trans o
/-- what Keep answers, and what stays -/
def KpP (w0 w : World) (p : Nat) (L : List CmA) (ids : List Int) (e : Ending) (w' : World) : Prop :=
  ∃ L', L' = L.filter (fun x => decide (x.c.id ∈ reachG (L.map CmA.c) ids)) ∧ e = .returned (.int .i64 ((L.length : Int) - L'.length)) ∧ Gr w0 w' p L' ∧ Onl (fun i => i = p) w w'
attribute [local go_sem ↓] Apo.app_exec
set_option maxRecDepth 100000 in
set_option maxHeartbeats 8000000 in
theorem keep_any {w0 w : World} {p : Nat} {L : List CmA} (h : Gr w0 w p L) (hps : ∀ x ∈ L, x.c.ps.length ≤ 1099511627776) (ia : Option Addr) (ic : Nat) (ids : List Int) (hr : Rd .u64 w ia ids) (hil : ids.length ≤ 1000000) :
    Calls Try.prog 31 #[.pointer (some ⟨p, 0, none⟩), .slice ia ids.length ic] w (KpP w0 w p L ids) := by
  have HCR := hide (reach_any h ia ic ids hps hr hil)
  obtain ⟨va, vc, k0, row⟩ := h.mem
  obtain ⟨a2, c2, hv, rd, _, _, _, _⟩ := rd_gcells cCm_len row
  injection hv with e1 e2 e3
  subst e1 e3
  have HG := hide h
  have HRD := hide rd
  obtain ⟨n, hn⟩ : ∃ n, n = L.length := ⟨_, rfl⟩
  have HOB : Hid (Ob w p 58 [.slice va n vc]) := hide (by rw [hn]; exact k0)
  have hn1 : n ≤ 1000 := by have := h.len; omega
  have HN := hide hn
  have hRl : (reachG (L.map CmA.c) ids).length ≤ 1000 := Nat.le_trans (reachG_len _ _) (by simpa using h.len)
  obtain ⟨R, hR⟩ : ∃ R, R = reachG (L.map CmA.c) ids := ⟨_, rfl⟩
  rw [← hR] at HCR hRl
  have HR := hide hR
  obtain ⟨m, hm⟩ : ∃ m, m = ids.length := ⟨_, rfl⟩
  rw [← hm] at HCR ⊢
  clear h hps hr hil k0 row rd hn hR hm
  go_enter Try.func31, Try.ntmps31
  go_wp2_with fail
  refine HCR.out.mono ?_
  rintro e w1 ⟨xa, xn, xc, rfl, hxn, xr, b1⟩
  have HRR := hide (Rd.own xr.1).1
  have HXN := hide hxn
  have HB1 := hide b1
  have kp := HOB.out.old b1
  have p0 := kp.cell 0
  simp only [List.getElem?_cons_zero] at p0
  clear hxn xr b1 HCR kp
  go_wp2
  clear p0
  go_loopw [7, 23] (fun v i wr => ∃ k : Nat, k ≤ n ∧ i = .int .i64 k ∧ (∃ xa xn xc, v = .slice xa xn xc) ∧ Hid (Row (fun g => w1.heap.size ≤ g) wr 32 5 v ((L.take k).filter (fun x => decide (x.c.id ∈ R))).length (gcells cCm ((L.take k).filter (fun x => decide (x.c.id ∈ R))))) ∧ Hid (Below w1.heap.size w1 wr)) (fun _ i _ => n - (intOf i).toNat)
  case atStart => exact ⟨0, Nat.zero_le _, rfl, ⟨_, _, _, rfl⟩, hide (by simpa [gcells] using Row.nil _ _ _ _), hide (Below.refl _ _)⟩
  case round =>
    obtain ⟨k, hk, rfl, ⟨oa, on, oc, rfl⟩, HRO, HB⟩ := hrel
    have hWB := HB1.out.trans (HB.out.mono HB1.out.size)
    by_cases hlt : k < n
    · obtain ⟨y, hy⟩ : ∃ y, L[k]? = some y := ⟨L[k]'(by have := HN.out; omega), List.getElem?_eq_getElem _⟩
      obtain ⟨gg, go, rfl, r0, r1, r2, r3, r4⟩ := rd_cm (HRD.out.below hWB) hy
      have HFT := hide (filter_take (fun x : CmA => decide (x.c.id ∈ R)) hy)
      have hfl : ((L.take k).filter (fun x => decide (x.c.id ∈ R))).length ≤ 1000 := Nat.le_trans (List.length_filter_le _ _) (by rw [List.length_take]; omega)
      obtain ⟨W1, hW1⟩ : ∃ W1, W1 = wr.alloc (.cells #[.int .u64 y.c.id, .slice y.a y.c.ps.length y.cap, .int .u64 y.c.gen, .int .u64 y.c.root, .string y.c.tx] 32) := ⟨_, rfl⟩
      have b2 : Below wr.heap.size wr W1 := by rw [hW1]; exact (Below.refl _ _).alloc (Nat.le_refl _) _
      have B1 := HB.out.trans (b2.mono HB.out.size)
      have row1 := HRO.out.onl (F := fun _ => False) (Onl.ofBelow b2) (fun _ _ q => q)
      have HCH := hide (has_any xa xc R y.c.id W1 (HRR.out.below B1) (by omega))
      rw [← HXN.out] at HCH
      rw [hW1] at HCH
      clear hy
      cases hd : decide (y.c.id ∈ R) with
      | false =>
        rw [hd] at HCH
        have HR2 : Hid (Row (fun g => w1.heap.size ≤ g) W1 32 5 (.slice oa on oc) ((L.take (k + 1)).filter (fun x => decide (x.c.id ∈ R))).length (gcells cCm ((L.take (k + 1)).filter (fun x => decide (x.c.id ∈ R))))) := hide (by
          rw [HFT.out, hd]
          simpa using row1)
        have HW2 := hide B1
        rw [hW1] at HR2 HW2
        clear hd HFT hfl row1 B1 b2 hW1 HRO hWB
        go_wp2_with fail
        refine HCH.out.mono ?_
        rintro e w3 ⟨rfl, rfl⟩
        go_wp2
        go_roundw
        case rel => exact ⟨k + 1, by omega, by simp, ⟨_, _, _, rfl⟩, HR2, HW2⟩
        case measure => simp [intOf]; omega
      | true =>
        rw [hd] at HCH
        obtain ⟨a5, n5, c5, w5, R5, r5, o5⟩ := app_c1 y row1 (by omega)
        have HR2 : Hid (Row (fun g => w1.heap.size ≤ g) w5 32 5 (.slice a5 n5 c5) ((L.take (k + 1)).filter (fun x => decide (x.c.id ∈ R))).length (gcells cCm ((L.take (k + 1)).filter (fun x => decide (x.c.id ∈ R))))) := hide (by
          rw [HFT.out, hd]
          exact r5.mono (fun g hg => hg.elim id (fun q => by have := B1.size; omega)))
        have HW2 := hide (Below.onl B1 o5 (fun i q => row1.2 i q) (Nat.le_refl _))
        obtain ⟨z1, z2, z3⟩ := app_runs R5
        rw [hW1] at z1 z2 z3
        simp only [World.size_alloc] at z1 z2 z3
        clear hd HFT hfl row1 B1 b2 hW1 HRO hWB R5 r5 o5
        go_wp2_with fail
        refine HCH.out.mono ?_
        rintro e w3 ⟨rfl, rfl⟩
        go_wp2
        go_roundw
        case rel => exact ⟨k + 1, by omega, by simp, ⟨_, _, _, rfl⟩, HR2, HW2⟩
        case measure => simp [intOf]; omega
    · obtain rfl : k = n := by omega
      obtain ⟨L', hL'⟩ : ∃ L', L' = L.filter (fun x => decide (x.c.id ∈ R)) := ⟨_, rfl⟩
      have hall : (L.take k).filter (fun x => decide (x.c.id ∈ R)) = L' := by rw [hL', List.take_of_length_le (by have := HN.out; omega)]
      rw [hall] at HRO
      obtain ⟨ga, gc, hf2, _⟩ := HRO.out.form
      injection hf2 with f1 f2 f3
      subst f1 f3
      have kp := HOB.out.old hWB
      have p0 := kp.cell 0
      have pf := kp.frozen 0
      simp only [List.getElem?_cons_zero] at p0
      have hll : L'.length ≤ k := by rw [hL', HN.out]; exact List.length_filter_le _ _
      have hpl := HG.out.lt
      have o1 : Onl (fun i => i = p) wr (wr.setCell ⟨p, 0, none⟩ (.slice oa on oc)) := (Onl.refl (fun i => i = p) wr).set (p := p) (.inl rfl) _
      have HF : Hid (KpP w0 w p L ids (.returned (.int .i64 ((k : Int) - on))) (wr.setCell ⟨p, 0, none⟩ (.slice oa on oc))) := by
        refine hide ⟨L', by rw [hL', HR.out], by rw [f2, HN.out], ⟨?_, HG.out.lo, ⟨oa, oc, ?_, ?_⟩, ?_, ?_⟩, (Onl.ofBelow hWB).trans o1⟩
        · exact Below.onl (HG.out.b.trans (hWB.mono HG.out.b.size)) o1 (fun i q => by have := HG.out.lo; omega) (Nat.le_refl _)
        · rw [← f2]; exact kp.set 0 _
        · have hs := HB1.out.size
          have hro := HRO.out.onl o1 (fun g hg q => by have := HRO.out.2 g hg; omega)
          have hro2 : Row (fun g => w0.heap.size ≤ g ∧ g ≠ p) (wr.setCell ⟨p, 0, none⟩ (.slice oa on oc)) 32 5 (.slice oa on oc) L'.length (gcells cCm L') := hro.mono (fun g hg => ⟨by have := HG.out.b.size; omega, by omega⟩)
          rw [← f2] at hro2 ⊢
          exact hro2
        · intro y hy
          rw [hL'] at hy
          exact HG.out.cm y (List.mem_filter.1 hy).1
        · have := HG.out.len; have := HN.out; omega
      have hon : on ≤ 1000 := by omega
      clear HRO hall hL' kp o1 f2 hll hWB
      go_wp2
      go_ret
      exact HF.out
end Go.Proofs.Ytmkafoidfgaokaa
