/- The program's keys and rise of layer 9, over the translation. -/
import Derived.Test.YtandjkogpdamcaaNeT
import Derived.Test.YtandjkogpdamcaaNdN
import Derived.Laws.MakeOwn
import Derived.Deep.RegionHeld3
namespace Go.Proofs.Ytandjkogpdamcaa
open Go.RowKit Apo
attribute [local go_sem ↓] Apo.app_exec
theorem own_lower {w : World} {B B' : Nat} {e : TypeId} {size : Nat} {v : Value} {n : Nat} {xs : List Value} (h : w.ownsRow B e size v n xs) (hb : B' ≤ B) : w.ownsRow B' e size v n xs := by
  refine ⟨h.1, ?_⟩
  rcases h.2 with q | ⟨g, cap, cur, h1, h2, h3⟩
  · exact .inl q
  · exact .inr ⟨g, cap, cur, h1, Nat.le_trans hb h2, h3⟩
/-- what keys tells -/
def KeP (w : World) (l : List ByteArray) (e : Ending) (w' : World) : Prop := ∃ va vc, e = .returned (.slice va l.length vc) ∧ w'.ownsRow w.heap.size 9 1 (.slice va l.length vc) l.length (strs l) ∧ Below w.heap.size w w'
set_option maxRecDepth 100000 in
theorem mk_strs (B c : Nat) (wx : World) (hc : c ≤ 10000000) (hB : B ≤ wx.heap.size) : ∃ w', (Instr.makeSlice 78 (.int .i64 0) (.int .i64 (c : Int))).run Try.prog wx = .ok (.slice (some ⟨wx.heap.size, 0, none⟩) 0 c) w' ∧ w'.ownsRow B 9 1 (.slice (some ⟨wx.heap.size, 0, none⟩) 0 c) 0 (strs []) ∧ wx.grownBy w' none := by
  obtain ⟨i0, hi, hz0, hz1, hz2⟩ := info_parts info_str
  exact run_make_own (P := Try.prog) wx B 78 9 i0 _ 1 Try.underlying78 hi hz0 hz1 .i64 .i64 c (by rw [hz2]; omega) (by unfold maxLen; omega) hB
set_option maxRecDepth 100000 in
set_option maxHeartbeats 4000000 in
theorem keys_any (w : World) (x : NdA) (hx : OkN w x) (he : x.n.es.length ≤ 1000000) (hk : x.n.ks.length ≤ 1000000) :
    Calls Try.prog 43 #[.agg x.cells.toArray] w (KeP w x.n.keys) := by
  obtain ⟨⟨lv, es, ks⟩, ea, ec, ka, kc⟩ := x
  simp only [NdA.cells, Nd.keys] at *
  obtain ⟨ne, hne⟩ : ∃ ne, ne = es.length := ⟨_, rfl⟩
  obtain ⟨n, hn⟩ : ∃ n, n = ks.length := ⟨_, rfl⟩
  obtain ⟨W0, hW0⟩ : ∃ W0, W0 = w.alloc (.cells #[.int .i64 lv, .slice ea ne ec, .slice ka n kc] 25) := ⟨_, rfl⟩
  have kb : Ob W0 w.heap.size 25 [.int .i64 lv, .slice ea ne ec, .slice ka n kc] := by rw [hW0]; exact Ob.new w [.int .i64 lv, .slice ea ne ec, .slice ka n kc] 25
  have b0 : Below w.heap.size w W0 := by rw [hW0]; exact (Below.refl _ w).alloc (Nat.le_refl _) _
  have s0 : W0.heap.size = w.heap.size + 1 := by rw [hW0]; simp
  have x0 := hx.below b0
  obtain ⟨W1, RM, OM, GM⟩ := mk_strs W0.heap.size (ne + n) W0 (by omega) (Nat.le_refl _)
  have bM : Below W0.heap.size W0 W1 := (Below.refl _ _).grown GM (Nat.le_refl _) (by simp)
  have kM := kb.old bM
  have HE := hide x0.es
  have HK := hide x0.ks
  have HBX := hide (fun (W : World) (b : Below W0.heap.size W0 W) => kb.old b)
  have HN := hide hn
  have HNE := hide hne
  have HB0 := hide b0
  have HBM := hide bM
  have HOM := hide OM
  have c1 := kb.cell 1
  have c2 := kb.cell 2
  have m1 := kM.cell 1
  simp only [List.getElem?_cons_zero, List.getElem?_cons_succ] at c1 c2 m1
  simp only at HE HK
  rw [s0] at RM HOM
  rw [hW0] at c1 c2 RM
  have RM' : (Instr.makeSlice 78 (.int .i64 0) (.int .i64 ((ne : Int) + (n : Int)))).run Try.prog (w.alloc (.cells #[.int .i64 lv, .slice ea ne ec, .slice ka n kc] 25)) = .ok (.slice (some ⟨w.heap.size + 1, 0, none⟩) 0 (ne + n)) W1 := by
    rw [show (ne : Int) + (n : Int) = ((ne + n : Nat) : Int) by omega]
    exact RM
  rw [← hne, ← hn]
  rw [← hne] at he
  rw [← hn] at hk
  clear hx x0 kb kM b0 bM OM GM hn hne RM
  go_enter Try.func43, Try.ntmps43
  go_wp2
  go_loopw [3, 19] (fun vs i wr => ∃ (k : Nat) (va : Option Addr) (vc : Nat), k ≤ ne ∧ i = .int .i64 k ∧ vs = .slice va k vc ∧ Hid (wr.ownsRow W0.heap.size 9 1 (.slice va k vc) k (strs ((es.map En.k).take k))) ∧ Hid (Below W0.heap.size W0 wr)) (fun _ i _ => ne - (intOf i).toNat)
  case atStart => exact ⟨0, _, _, Nat.zero_le _, rfl, rfl, hide (by rw [s0]; exact HOM.out), HBM⟩
  case round =>
    obtain ⟨k, va, vc, hk1, rfl, rfl, HO, HB⟩ := hrel
    have hs1 := HB.out.size
    by_cases hkn : k < ne
    · obtain ⟨e, hek⟩ : ∃ e, es[k]? = some e := ⟨es[k]'(by have := HNE.out; omega), List.getElem?_eq_getElem _⟩
      obtain ⟨g, o, rfl, q1, q2⟩ := HE.out k e hek
      have q1' := (HB.out.cell (p := ⟨g, o + k * 2, none⟩) (World.block_lt_of_cell? _ _ q1)).trans q1
      have q2' := (HB.out.cell (p := ⟨g, o + k * 2 + 1, none⟩) (World.block_lt_of_cell? _ _ q2)).trans q2
      obtain ⟨ek, ev⟩ := e
      simp only at q1' q2'
      have htk : (es.map En.k).take (k + 1) = (es.map En.k).take k ++ [ek] := by rw [List.take_add_one]; simp [hek]
      have b1 : Below W0.heap.size W0 (wr.alloc (.cells #[.string ek, .string ev] 55)) := HB.out.alloc hs1 _
      have o1 := HO.out.alloc (.cells #[.string ek, .string ev] 55)
      have kb1 := Ob.new wr [.string ek, .string ev] 55
      have y0 := kb1.cell 0
      simp only [List.getElem?_cons_zero] at y0
      obtain ⟨va', vc', w3, RA, oA, bA⟩ := app_str o1 (by simp; omega) (by omega) ek
      obtain ⟨s1', s2', s3'⟩ := app_runs RA
      rw [← htk] at oA
      have HOA := hide oA
      have HBA := hide (b1.trans (bA _ (Nat.le_refl _)))
      simp only [World.size_alloc] at s1' s2' s3'
      clear o1 kb1 RA oA bA b1 q1 q2 hek htk
      go_wp2
      go_roundw
      case rel => exact ⟨k + 1, va', vc', by omega, by simp, rfl, HOA, HBA⟩
      case measure => simp [intOf]; omega
    · obtain rfl : k = ne := by omega
      have kx := HBX.out wr HB.out
      have e2 := kx.cell 2
      simp only [List.getElem?_cons_zero, List.getElem?_cons_succ] at e2
      have HO1 : Hid (wr.ownsRow W0.heap.size 9 1 (.slice va (k + 0) vc) (k + 0) (strs (es.map En.k ++ (ks.map Ki.k).take 0))) := by
        refine hide ?_
        have q := HO.out
        rw [HNE.out, List.take_of_length_le (by simp), ← HNE.out] at q
        simpa using q
      have HBW := HB
      clear kx HO
      go_wp2
      go_loopw [3, 32] (fun vs i wr => ∃ (j : Nat) (va : Option Addr) (vc : Nat), j ≤ n ∧ i = .int .i64 j ∧ vs = .slice va (k + j) vc ∧ Hid (wr.ownsRow W0.heap.size 9 1 (.slice va (k + j) vc) (k + j) (strs (es.map En.k ++ (ks.map Ki.k).take j))) ∧ Hid (Below W0.heap.size W0 wr)) (fun _ i _ => n - (intOf i).toNat)
      case atStart => exact ⟨0, _, _, Nat.zero_le _, rfl, rfl, HO1, HBW⟩
      case round =>
        clear HB HO1 HBW
        obtain ⟨j, va, vc, hk2, rfl, rfl, HO, HB⟩ := hrel
        have hs2 := HB.out.size
        by_cases hkn2 : j < n
        · obtain ⟨e, hek⟩ : ∃ e, ks[j]? = some e := ⟨ks[j]'(by have := HN.out; omega), List.getElem?_eq_getElem _⟩
          obtain ⟨g, o, rfl, q1, q2⟩ := HK.out j e hek
          have q1' := (HB.out.cell (p := ⟨g, o + j * 2, none⟩) (World.block_lt_of_cell? _ _ q1)).trans q1
          have q2' := (HB.out.cell (p := ⟨g, o + j * 2 + 1, none⟩) (World.block_lt_of_cell? _ _ q2)).trans q2
          obtain ⟨ek, ei⟩ := e
          simp only at q1' q2'
          have htk : es.map En.k ++ (ks.map Ki.k).take (j + 1) = (es.map En.k ++ (ks.map Ki.k).take j) ++ [ek] := by rw [List.take_add_one]; simp [hek]
          have b1 : Below W0.heap.size W0 (wr.alloc (.cells #[.string ek, .int .u64 ei] 58)) := HB.out.alloc hs2 _
          have o1 := HO.out.alloc (.cells #[.string ek, .int .u64 ei] 58)
          have kb1 := Ob.new wr [.string ek, .int .u64 ei] 58
          have y0 := kb1.cell 0
          simp only [List.getElem?_cons_zero] at y0
          obtain ⟨va', vc', w3, RA, oA, bA⟩ := app_str o1 (by simp; omega) (by omega) ek
          obtain ⟨s1', s2', s3'⟩ := app_runs RA
          rw [← htk] at oA
          have HOA := hide oA
          have HBA := hide (b1.trans (bA _ (Nat.le_refl _)))
          simp only [World.size_alloc] at s1' s2' s3'
          clear o1 kb1 RA oA bA b1 q1 q2 hek htk
          go_wp2
          go_roundw
          case rel => exact ⟨j + 1, va', vc', by omega, by simp, rfl, HOA, HBA⟩
          case measure => simp [intOf]; omega
        · obtain rfl : j = n := by omega
          have HX : Hid (wr.ownsRow w.heap.size 9 1 (.slice va (es.map En.k ++ ks.map Ki.k).length vc) (es.map En.k ++ ks.map Ki.k).length (strs (es.map En.k ++ ks.map Ki.k))) := by
            refine hide ?_
            have q := HO.out
            rw [List.take_of_length_le (by simp; have := HN.out; omega)] at q
            have e : k + j = (es.map En.k ++ ks.map Ki.k).length := by simp; have := HN.out; have := HNE.out; omega
            rw [← e]
            exact own_lower q (by omega)
          have HL : Hid (k + j = (es.map En.k ++ ks.map Ki.k).length) := hide (by simp; have := HN.out; have := HNE.out; omega)
          go_wp2
          go_ret
          exact ⟨va, vc, by rw [← HL.out]; rfl, HX.out, HB0.out.trans (HB.out.mono (by omega))⟩
end Go.Proofs.Ytandjkogpdamcaa
