/- A graph that nobody made. Over the translation. -/
import Derived.Test.YtmkafoidfgaokaaQB7
import Derived.Test.YtmkafoidfgaokaaQL3
namespace Go.Proofs.Ytmkafoidfgaokaa
open Go.RowKit Apo
set_option maxRecDepth 100000 in
set_option maxHeartbeats 4000000 in
theorem getp_nil (w : World) (id : Int) :
    Calls Try.prog 12 #[.pointer none, .int .u64 id] w fun e w' => ∃ (ya : Option Addr) (yc : Nat), e = .returned (.tuple #[.agg #[.int .u64 0, .slice ya 0 yc, .int .u64 0, .int .u64 0, .string ⟨#[]⟩], .bool false]) ∧ Below w.heap.size w w' := by
  obtain ⟨W1, hW1⟩ : ∃ W1, W1 = w.alloc (.cells #[.int .u64 0, .slice none 0 0, .int .u64 0, .int .u64 0, .string ⟨#[]⟩] 32) := ⟨_, rfl⟩
  have b1 : Below w.heap.size w W1 := by rw [hW1]; exact (Below.refl _ w).alloc (Nat.le_refl _) _
  have HC := hide (commits_nil W1)
  have hlk : (Instr.lookup 61 (.map none) (.int .u64 id) true).run Try.prog W1 = .ok (.tuple #[.agg #[.int .u64 0, .slice none 0 0, .int .u64 0, .int .u64 0, .string ⟨#[]⟩], .bool false]) W1 := nil_look2 id W1
  have s1 : W1.heap.size = w.heap.size + 1 := by rw [hW1]; simp
  obtain ⟨W2, hW2⟩ : ∃ W2, W2 = W1.alloc (.cells #[.int .u64 0, .slice none 0 0, .int .u64 0, .int .u64 0, .string ⟨#[]⟩] 32) := ⟨_, rfl⟩
  have b2 : Below W1.heap.size W1 W2 := by rw [hW2]; exact (Below.refl _ _).alloc (Nat.le_refl _) _
  have HO : Hid (Calls Try.prog 36 #[.agg #[.int .u64 0, .slice none 0 0, .int .u64 0, .int .u64 0, .string ⟨#[]⟩]] W2 fun e w' => ∃ (ya : Option Addr) (yc : Nat), e = .returned (.agg #[.int .u64 0, .slice ya 0 yc, .int .u64 0, .int .u64 0, .string ⟨#[]⟩]) ∧ Below W2.heap.size W2 w') := hide ((own_any (w := W2) zeroA ⟨Rd.nil _ _ _, by simp [zeroA, zeroCm], by simp [zeroA], by simp [zeroA, zeroCm]; exact Nat.zero_le _, by simp [zeroA, zeroCm, Cm.Sz]⟩ (fun _ => rfl) (by simp [zeroA, zeroCm])).mono (by
    rintro e w' ⟨y, rfl, y1, _, _, _, hb⟩
    obtain ⟨yc, ya, ycap⟩ := y
    simp only at y1
    subst y1
    exact ⟨ya, ycap, rfl, hb⟩))
  have k1 : Ob W2 w.heap.size 32 [.int .u64 0, .slice none 0 0, .int .u64 0, .int .u64 0, .string ⟨#[]⟩] := by
    have := Ob.new w [.int .u64 0, .slice none 0 0, .int .u64 0, .int .u64 0, .string ⟨#[]⟩] 32
    rw [← hW1] at this
    exact this.old b2
  have HK := hide k1
  have HB := hide (b1.trans (b2.mono (by omega)))
  clear b1 b2 k1
  rw [hW1] at HC hlk
  rw [hW2, hW1] at HO HK HB
  clear hW1 hW2 s1
  go_enter Try.func12, Try.ntmps12
  go_wp2_with fail
  refine HC.out.mono ?_
  rintro e w1 ⟨rfl, rfl⟩
  go_wp2_with fail
  refine HO.out.mono ?_
  rintro e w2 ⟨ya, yc, rfl, b5⟩
  have k5 := HK.out.old b5
  have r0 := k5.cell 0
  have r1 := k5.cell 1
  have r2 := k5.cell 2
  have r3 := k5.cell 3
  have r4 := k5.cell 4
  have p0 := k5.frozen 0
  have p1 := k5.frozen 1
  have p2 := k5.frozen 2
  have p3 := k5.frozen 3
  have p4 := k5.frozen 4
  simp only [List.getElem?_cons_succ, List.getElem?_cons_zero] at r0 r1 r2 r3 r4
  have HK5 := hide k5
  have HB5 := hide (HB.out.trans (b5.mono HB.out.size))
  clear k5 b5 HB HO HC hlk HK
  go_wp2
  obtain ⟨WF, hWF⟩ : ∃ WF, WF = ((((w2.setCell ⟨w.heap.size, 0, none⟩ (.int .u64 0)).setCell ⟨w.heap.size, 1, none⟩ (.slice ya 0 yc)).setCell ⟨w.heap.size, 2, none⟩ (.int .u64 0)).setCell ⟨w.heap.size, 3, none⟩ (.int .u64 0)).setCell ⟨w.heap.size, 4, none⟩ (.string ⟨#[]⟩) := ⟨_, rfl⟩
  obtain ⟨kF, oF⟩ := ob_store5 HK5.out hWF
  rw [← hWF]
  exact fin_GetP kF rfl rfl ⟨ya, yc, rfl, Below.onl HB5.out oF (fun i q => by omega) (Nat.le_refl _)⟩
set_option maxRecDepth 100000 in
set_option maxHeartbeats 4000000 in
theorem addp_nil (w : World) (x : CmA) : Calls Try.prog 32 #[.pointer none, aggC x] w fun e w' => e = .returned (.int .i64 120) ∧ Below w.heap.size w w' := by
  have bA := (Below.refl w.heap.size w).alloc (Nat.le_refl _) (.cells #[.int .u64 x.c.id, .slice x.a x.c.ps.length x.cap, .int .u64 x.c.gen, .int .u64 x.c.root, .string x.c.tx] 32)
  have HC := hide (commits_nil (w.alloc (.cells #[.int .u64 x.c.id, .slice x.a x.c.ps.length x.cap, .int .u64 x.c.gen, .int .u64 x.c.root, .string x.c.tx] 32)))
  have HB := hide bA
  have heq := fun W => eql_map W none
  unfold aggC
  generalize x.c.ps.length = np at *
  clear bA
  go_enter Try.func32, Try.ntmps32
  go_wp2_with fail
  refine HC.out.mono ?_
  rintro e w1 ⟨rfl, rfl⟩
  go_wp2
  go_ret
  exact ⟨rfl, HB.out⟩
set_option maxRecDepth 100000 in
set_option maxHeartbeats 4000000 in
theorem keep_nil (w : World) (v : Value) : Calls Try.prog 30 #[.pointer none, v] w fun e w' => e = .returned (.int .i64 0) ∧ w = w' := by
  have HC := hide (commits_nil w)
  have heq := fun W => eql_map W none
  go_enter Try.func30, Try.ntmps30
  go_wp2_with fail
  refine HC.out.mono ?_
  rintro e w1 ⟨rfl, rfl⟩
  go_wp2
  go_ret
  exact ⟨rfl, rfl⟩
set_option maxRecDepth 100000 in
theorem is_nil (w : World) : Calls Try.prog 20 #[.pointer none, .int .u64 1, .int .u64 1] w fun e w' => e = .returned (.bool false) ∧ Below w.heap.size w w' :=
  (isp_any (gv_nil w) gok_nil (old := 1) (late := 1) (by omega) (by omega)).mono (fun e w' h => ⟨by rw [h.1]; rfl, h.2⟩)
set_option maxRecDepth 100000 in
theorem log_nil (w : World) : Calls Try.prog 27 #[.pointer none, .int .u64 1, .int .i64 9] w fun e w' => ∃ (a : Option Addr) (c : Nat), e = .returned (.slice a 0 c) ∧ Below w.heap.size w w' := by
  refine (logp_any (gv_nil w) gok_nil (id := 1) (by omega) 9).mono ?_
  rintro e w' ⟨a, n, c, S, rfl, hn, hS, _, _, hb, _, _⟩
  have h0 : logG [] 1 9 = [] := rfl
  rw [h0] at hS
  have : S = [] := by simpa using hS
  subst this
  subst hn
  exact ⟨a, c, rfl, hb⟩
set_option maxRecDepth 100000 in
theorem reach_nil (w : World) : Calls Try.prog 24 #[.pointer none, .slice (some ⟨w.heap.size, 0, none⟩) 1 1] (w.alloc (.cells #[.int .u64 1] 23)) fun e w' => ∃ (a : Option Addr) (c : Nat), e = .returned (.slice a 0 c) ∧ Below w.heap.size w w' := by
  have q := reachp_any (gv_nil (w.alloc (.cells #[.int .u64 1] 23))) gok_nil (ia := some ⟨w.heap.size, 0, none⟩) (ids := [1]) (ic := 1) (rd_lit1 .u64 w 23 1) (by simp) (by simp) (by intro z hz; simp at hz; subst hz; omega)
  simp only [List.length_singleton] at q
  refine q.mono ?_
  rintro e w' ⟨a, n, c, rfl, hn, _, hb⟩
  have h0 : reachG [] [1] = [] := rfl
  rw [h0] at hn
  subst hn
  exact ⟨a, c, rfl, ((Below.refl _ w).alloc (Nat.le_refl _) _).trans (hb.mono (by simp))⟩
end Go.Proofs.Ytmkafoidfgaokaa
