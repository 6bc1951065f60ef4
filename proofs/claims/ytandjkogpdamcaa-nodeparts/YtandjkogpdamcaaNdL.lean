/- Law 9's Light and small, over the translation. -/
import Derived.Test.YtandjkogpdamcaaNdM
import Derived.Test.YtandjkogpdamcaaObj
namespace Apo
open Go Go.RowKit
def smallEn (e : En) : Bool := decide (e.k.size ≤ 60) && decide (e.v.size ≤ 250)
def lightB (l : List En) : Bool := l.all smallEn && decide (l.length ≤ 60)
def smallKi (k : Ki) : Bool := decide (k.k.size ≤ 60)
def smallNd (n : Nd) : Bool := n.ks.all smallKi && decide (n.ks.length ≤ 60) && lightB n.es
theorem all_take_false {α : Type} {p : α → Bool} {l : List α} {k : Nat} {x : α} (h : l[k]? = some x) (hx : p x = false) : l.all p = false := by
  rw [List.all_eq_false]
  exact ⟨x, List.mem_of_getElem? h, by rw [hx]; simp⟩
end Apo
namespace Go.Proofs.Ytandjkogpdamcaa
open Go.RowKit Apo
set_option maxRecDepth 100000 in
set_option maxHeartbeats 2000000 in
theorem light_any (w : World) (a : Option Addr) (c : Nat) (l : List En) (h : RdEn w a l) (hl : l.length ≤ 9223372036854775807) (hz : ∀ e ∈ l, e.k.size ≤ maxLen ∧ e.v.size ≤ maxLen) :
    Calls Try.prog 17 #[.slice a l.length c] w fun e w' => e = .returned (.bool (lightB l)) ∧ Below w.heap.size w w' := by
  obtain ⟨n, hn⟩ : ∃ n, n = l.length := ⟨_, rfl⟩
  have HN := hide hn
  have HE := hide h
  have HZ := hide hz
  rw [← hn] at hl ⊢
  clear h hn hz
  go_enter Try.func17, Try.ntmps17
  go_wp2
  go_loopw [7] (fun i wr => ∃ k : Nat, k ≤ n ∧ i = .int .i64 k ∧ Hid ((l.take k).all smallEn = true) ∧ Hid (Below w.heap.size w wr)) (fun i _ => n - (intOf i).toNat)
  case atStart => exact ⟨0, Nat.zero_le _, rfl, hide (by simp), hide (Below.refl _ _)⟩
  case round =>
    obtain ⟨k, hk, rfl, HS, HB⟩ := hrel
    by_cases hkn : k < n
    · obtain ⟨e, hek⟩ : ∃ e, l[k]? = some e := ⟨l[k]'(by have := HN.out; omega), List.getElem?_eq_getElem _⟩
      obtain ⟨g, o, rfl, q1, q2⟩ := HE.out k e hek
      have q1' := (HB.out.cell (p := ⟨g, o + k * 2, none⟩) (World.block_lt_of_cell? _ _ q1)).trans q1
      have q2' := (HB.out.cell (p := ⟨g, o + k * 2 + 1, none⟩) (World.block_lt_of_cell? _ _ q2)).trans q2
      have hsz := HZ.out _ (List.mem_of_getElem? hek)
      obtain ⟨ek, ev⟩ := e
      simp only at q1' q2' hsz
      unfold maxLen at hsz
      have HEK := hide hek
      have HBA := hide (HB.out.alloc HB.out.size (.cells #[.string ek, .string ev] 55))
      clear q1 q2 hek
      by_cases h1 : ek.size ≤ 60
      · have d1 : decide ((60 : Int) < (ek.size : Int)) = false := by simp; omega
        have d1n : decide (60 < ek.size) = false := by simp; omega
        by_cases h2 : ev.size ≤ 250
        · have d2 : decide ((250 : Int) < (ev.size : Int)) = false := by simp; omega
          have d2n : decide (250 < ev.size) = false := by simp; omega
          have HS2 : Hid ((l.take (k + 1)).all smallEn = true) := by
            refine hide ?_
            rw [List.take_add_one, HEK.out, List.all_append, HS.out]
            simp [smallEn, h1, h2]
          go_wp2
          go_roundw
          case rel => exact ⟨k + 1, by omega, by simp, HS2, HBA⟩
          case measure => simp [intOf]; omega
        · have d2 : decide ((250 : Int) < (ev.size : Int)) = true := by simp; omega
          have d2n : decide (250 < ev.size) = true := by simp; omega
          have HX : Hid (lightB l = false) := hide (by unfold lightB; rw [all_take_false HEK.out (by simp [smallEn, h2])]; rfl)
          go_wp2
          go_ret
          rw [HX.out]
          exact ⟨rfl, HBA.out⟩
      · have d1 : decide ((60 : Int) < (ek.size : Int)) = true := by simp; omega
        have d1n : decide (60 < ek.size) = true := by simp; omega
        have HX : Hid (lightB l = false) := hide (by unfold lightB; rw [all_take_false HEK.out (by simp [smallEn, h1])]; rfl)
        go_wp2
        go_ret
        rw [HX.out]
        exact ⟨rfl, HBA.out⟩
    · obtain rfl : k = n := by omega
      have HX : Hid (lightB l = decide (k ≤ 60)) := by
        refine hide ?_
        have q := HS.out
        rw [HN.out, List.take_length] at q
        unfold lightB
        rw [q, HN.out]
        simp
      have hdd : decide ((k : Int) ≤ 60) = decide (k ≤ 60) := by
        by_cases q : k ≤ 60
        · simp [q]; omega
        · simp [q]; omega
      go_wp2
      go_ret
      rw [HX.out]
      exact ⟨by rw [← hdd]; rfl, HB.out⟩
set_option maxRecDepth 100000 in
set_option maxHeartbeats 2000000 in
theorem small_any (w : World) (x : NdA) (hx : OkN w x) :
    Calls Try.prog 8 #[.agg x.cells.toArray] w fun e w' => e = .returned (.bool (smallNd x.n)) ∧ Below w.heap.size w w' := by
  obtain ⟨⟨lv, es, ks⟩, ea, ec, ka, kc⟩ := x
  simp only [NdA.cells] at *
  obtain ⟨ne, hne⟩ : ∃ ne, ne = es.length := ⟨_, rfl⟩
  obtain ⟨n, hn⟩ : ∃ n, n = ks.length := ⟨_, rfl⟩
  obtain ⟨W0, hW0⟩ : ∃ W0, W0 = w.alloc (.cells #[.int .i64 lv, .slice ea ne ec, .slice ka n kc] 25) := ⟨_, rfl⟩
  have kb : Ob W0 w.heap.size 25 [.int .i64 lv, .slice ea ne ec, .slice ka n kc] := by rw [hW0]; exact Ob.new w [.int .i64 lv, .slice ea ne ec, .slice ka n kc] 25
  have b0 : Below w.heap.size w W0 := by rw [hW0]; exact (Below.refl _ w).alloc (Nat.le_refl _) _
  have s0 : W0.heap.size = w.heap.size + 1 := by rw [hW0]; simp
  have x0 := hx.below b0
  have hle : ne ≤ 9223372036854775807 := by have h1 := x0.el; have h2 := x0.eb; unfold maxLen at h2; simp only at h1 h2; omega
  have hlk : n ≤ 9223372036854775807 := by have h1 := x0.kl; have h2 := x0.kb; unfold maxLen at h2; simp only at h1 h2; omega
  have HCL := hide (fun (W : World) (b : Below W0.heap.size W0 W) => light_any W ea ec es (x0.es.below b) (by rw [← hne]; exact hle) x0.sz)
  have HE := hide x0.ks
  have HZ := hide x0.kz
  have HBX := hide (fun (W : World) (b : Below W0.heap.size W0 W) => kb.old b)
  have HN := hide hn
  have HNE := hide hne
  have HB0 := hide b0
  have c2 := kb.cell 2
  simp only [List.getElem?_cons_zero, List.getElem?_cons_succ] at c2
  simp only at HE HZ
  rw [← hne, ← hn]
  rw [← hne] at HCL
  clear hx x0 kb b0 hn hne
  go_enter Try.func8, Try.ntmps8
  rw [hW0] at c2
  go_wp2
  rw [← hW0]
  go_loopw [8] (fun i wr => ∃ k : Nat, k ≤ n ∧ i = .int .i64 k ∧ Hid ((ks.take k).all smallKi = true) ∧ Hid (Below W0.heap.size W0 wr)) (fun i _ => n - (intOf i).toNat)
  case atStart => exact ⟨0, Nat.zero_le _, rfl, hide (by simp), hide (Below.refl _ _)⟩
  case round =>
    obtain ⟨k, hk, rfl, HS, HB⟩ := hrel
    by_cases hkn : k < n
    · obtain ⟨e, hek⟩ : ∃ e, ks[k]? = some e := ⟨ks[k]'(by have := HN.out; omega), List.getElem?_eq_getElem _⟩
      obtain ⟨g, o, rfl, q1, q2⟩ := HE.out k e hek
      have q1' := (HB.out.cell (p := ⟨g, o + k * 2, none⟩) (World.block_lt_of_cell? _ _ q1)).trans q1
      have q2' := (HB.out.cell (p := ⟨g, o + k * 2 + 1, none⟩) (World.block_lt_of_cell? _ _ q2)).trans q2
      have hsz := HZ.out _ (List.mem_of_getElem? hek)
      obtain ⟨ek, ei⟩ := e
      simp only at q1' q2' hsz
      unfold maxLen at hsz
      have HEK := hide hek
      have HBA := hide (HB.out.alloc HB.out.size (.cells #[.string ek, .int .u64 ei] 58))
      clear q1 q2 hek
      by_cases h1 : ek.size ≤ 60
      · have d1 : decide ((60 : Int) < (ek.size : Int)) = false := by simp; omega
        have d1n : decide (60 < ek.size) = false := by simp; omega
        have HS2 : Hid ((ks.take (k + 1)).all smallKi = true) := by
          refine hide ?_
          rw [List.take_add_one, HEK.out, List.all_append, HS.out]
          simp [smallKi, h1]
        go_wp2
        go_roundw
        case rel => exact ⟨k + 1, by omega, by simp, HS2, HBA⟩
        case measure => simp [intOf]; omega
      · have d1 : decide ((60 : Int) < (ek.size : Int)) = true := by simp; omega
        have d1n : decide (60 < ek.size) = true := by simp; omega
        have HX : Hid (smallNd ⟨lv, es, ks⟩ = false) := hide (by unfold smallNd; simp only; rw [all_take_false HEK.out (by simp [smallKi, h1])]; rfl)
        go_wp2
        go_ret
        rw [HX.out]
        exact ⟨rfl, HB0.out.trans (HBA.out.mono (by omega))⟩
    · obtain rfl : k = n := by omega
      have HA : Hid (ks.all smallKi = true) := by
        refine hide ?_
        have q := HS.out
        rw [HN.out, List.take_length] at q
        exact q
      have kx := HBX.out wr HB.out
      have e1 := kx.cell 1
      have e2 := kx.cell 2
      simp only [List.getElem?_cons_zero, List.getElem?_cons_succ] at e1 e2
      have CL := HCL.out wr HB.out
      have HC := hide CL
      clear kx CL
      by_cases h6 : k ≤ 60
      · have d6 : decide ((k : Int) ≤ 60) = true := by simp; omega
        have d6n : decide (k ≤ 60) = true := by simp; omega
        have HX : Hid (smallNd ⟨lv, es, ks⟩ = lightB es) := hide (by unfold smallNd; simp only; rw [HA.out, ← HN.out, d6n]; simp)
        clear h6
        go_wp2_with fail
        refine HC.out.mono ?_
        rintro e w2 ⟨rfl, b2⟩
        have HBB := hide (HB0.out.trans ((HB.out.trans (b2.mono HB.out.size)).mono (by omega)))
        clear b2
        go_wp2
        go_ret
        rw [HX.out]
        exact ⟨rfl, HBB.out⟩
      · have d6 : decide ((k : Int) ≤ 60) = false := by simp; omega
        have d6n : decide (k ≤ 60) = false := by simp; omega
        have HX : Hid (smallNd ⟨lv, es, ks⟩ = false) := hide (by unfold smallNd; simp only; rw [HA.out, ← HN.out, d6n]; simp)
        clear h6
        go_wp2
        go_ret
        rw [HX.out]
        exact ⟨rfl, HB0.out.trans (HB.out.mono (by omega))⟩
end Go.Proofs.Ytandjkogpdamcaa
