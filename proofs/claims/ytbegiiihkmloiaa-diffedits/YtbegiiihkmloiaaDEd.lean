/- diff.Edits and diff.Turn, over the translation. -/
import Derived.Test.YtbegiiihkmloiaaDOg
namespace Go.Proofs.Ytbegiiihkmloiaa
open Go.RowKit Apo
attribute [local go_sem ↓] app_exec
/-- a change as an edit, and turned round -/
def edOf (c : Ch) : Ed := if c.has = true then ⟨c.k, c.now, false⟩ else ⟨c.k, ⟨#[]⟩, true⟩
def tuOf (c : Ch) : Ch := ⟨c.k, c.has, c.now, c.had, c.was⟩
/-- edits in an own row -/
def EdP (R : List Ed → Prop) (w : World) (e : Ending) (w' : World) : Prop := ∃ (es : List Ed) (va : Option Addr) (vc : Nat), e = .returned (.slice va es.length vc) ∧ R es ∧ Row (fun g => w.heap.size ≤ g) w' 37 3 (.slice va es.length vc) es.length (gcells cEd es) ∧ Below w.heap.size w w'
set_option maxRecDepth 100000 in
set_option maxHeartbeats 8000000 in
theorem dedits_any (w : World) (a : Option Addr) (c : Nat) (l : List Ch) (h : RdG cCh 5 w a l) (hl : l.length ≤ 1000000) :
    Calls Try.prog 13 #[.slice a l.length c] w (EdP (fun es => es = l.map edOf) w) := by
  obtain ⟨n, hn⟩ : ∃ n, n = l.length := ⟨_, rfl⟩
  have HN := hide hn
  have HR := hide h
  rw [← hn] at hl ⊢
  clear h hn
  go_enter Try.func13, Try.ntmps13
  go_wp2
  go_loopw [3, 8] (fun v i wr => ∃ (k : Nat) (va : Option Addr) (vc nk : Nat), k ≤ n ∧ i = .int .i64 k ∧ v = .slice va nk vc ∧ Hid (nk = ((l.take k).map edOf).length) ∧ Hid (Row (fun g => w.heap.size ≤ g) wr 37 3 (.slice va ((l.take k).map edOf).length vc) ((l.take k).map edOf).length (gcells cEd ((l.take k).map edOf))) ∧ Hid (Below w.heap.size w wr)) (fun _ i _ => n - (intOf i).toNat)
  case atStart => exact ⟨0, none, 0, 0, Nat.zero_le _, rfl, rfl, hide rfl, hide (Row.nil _ _ _ _), hide (Below.refl _ _)⟩
  case round =>
    obtain ⟨k, va, vc, nk, hk, rfl, rfl, HNK, HRW, HBr⟩ := hrel
    by_cases hkn : k < n
    · obtain ⟨e, hx⟩ : ∃ x, l[k]? = some x := ⟨l[k]'(by have := HN.out; omega), List.getElem?_eq_getElem _⟩
      obtain ⟨g, o, rfl, c0, c1, c2, c3, c4⟩ := (HR.out.below HBr.out).ch hx
      obtain ⟨ek, ehad, ewas, ehas, enow⟩ := e
      simp only at c0 c1 c2 c3 c4
      obtain ⟨W1, hW1⟩ : ∃ W1, W1 = wr.alloc (.cells #[.string ek, .bool ehad, .string ewas, .bool ehas, .string enow] 35) := ⟨_, rfl⟩
      have b1 : Below wr.heap.size wr W1 := by rw [hW1]; exact (Below.refl _ wr).alloc (Nat.le_refl _) _
      have kb : Ob W1 wr.heap.size 35 [.string ek, .bool ehad, .string ewas, .bool ehas, .string enow] := by rw [hW1]; exact Ob.new wr [.string ek, .bool ehad, .string ewas, .bool ehas, .string enow] 35
      have y0 := kb.cell 0
      have y1 := kb.cell 1
      have y2 := kb.cell 2
      have y3 := kb.cell 3
      have y4 := kb.cell 4
      simp only [List.getElem?_cons_zero, List.getElem?_cons_succ] at y0 y1 y2 y3 y4
      have HX := hide hx
      clear hx
      cases ehas with
      | true =>
        obtain ⟨x, hx2⟩ : ∃ x : Ed, x = ⟨ek, enow, false⟩ := ⟨_, rfl⟩
        obtain ⟨w6, hw6⟩ : ∃ w6, w6 = W1.alloc (.cells (cEd x).toArray 37) := ⟨_, rfl⟩
        have bb6 : Below W1.heap.size W1 w6 := by rw [hw6]; exact (Below.refl _ W1).alloc (Nat.le_refl _) _
        have row6 := (HRW.out.onl (F := fun _ => False) (Onl.ofBelow b1) (fun _ _ q => q)).onl (F := fun _ => False) (Onl.ofBelow bb6) (fun _ _ q => q)
        have rd6 : RdG cEd 3 w6 (some ⟨W1.heap.size, 0, none⟩) [x] := by rw [hw6]; exact rd_lit _ _ x
        obtain ⟨v8, w8, RR, r8, o8, ow8⟩ := app_ed (cp := 1) row6 (by simp; omega) rd6
        obtain ⟨va8, vc8, hva8, _⟩ := r8.form
        obtain ⟨n8, hn8⟩ : ∃ n8, n8 = (((l.take k).map edOf) ++ [x]).length := ⟨_, rfl⟩
        rw [hva8] at r8 RR
        rw [show [x].length = 1 from rfl, ← hn8, ← HNK.out] at RR
        have htk : (l.take (k + 1)).map edOf = (l.take k).map edOf ++ [x] := by rw [List.take_add_one, HX.out, hx2]; simp [edOf]
        have hs1 : W1.heap.size = wr.heap.size + 1 := by rw [hW1]; simp
        have hs6 : w6.heap.size = W1.heap.size + 1 := by rw [hw6, World.size_alloc]
        have hbr := HBr.out.size
        have hb8 : Below w.heap.size w w8 := Below.onl ((HBr.out.trans (b1.mono HBr.out.size)).trans (bb6.mono (by omega))) o8 (fun i q => HRW.out.2 i q) (Nat.le_refl _)
        have HB8 := hide hb8
        have HRF : Hid (Row (fun g => w.heap.size ≤ g) w8 37 3 (.slice va8 ((l.take (k + 1)).map edOf).length vc8) ((l.take (k + 1)).map edOf).length (gcells cEd ((l.take (k + 1)).map edOf))) := by
          rw [htk]
          exact hide ⟨r8.1, fun g hg => (r8.2 g hg).elim (fun z => z) (fun z => by omega)⟩
        have HN8 : Hid (n8 = ((l.take (k + 1)).map edOf).length) := by rw [htk]; exact hide hn8
        rw [hw6, hx2] at RR
        simp only [cEd] at RR
        rw [hW1] at RR y0 y1 y2 y3 y4
        simp only [World.size_alloc] at RR
        obtain ⟨z1, z2, z3⟩ := app_runs RR
        clear hW1 b1 kb hw6 bb6 row6 rd6 r8 o8 ow8 hva8 hn8 RR htk hs1 hs6 hbr hb8 HRW hx2
        go_wp2
        go_roundw
        case rel => exact ⟨k + 1, va8, vc8, n8, by omega, by simp, rfl, HN8, HRF, HB8⟩
        case measure => simp [intOf]; omega
      | false =>
        obtain ⟨x, hx2⟩ : ∃ x : Ed, x = ⟨ek, ⟨#[]⟩, true⟩ := ⟨_, rfl⟩
        obtain ⟨w6, hw6⟩ : ∃ w6, w6 = W1.alloc (.cells (cEd x).toArray 37) := ⟨_, rfl⟩
        have bb6 : Below W1.heap.size W1 w6 := by rw [hw6]; exact (Below.refl _ W1).alloc (Nat.le_refl _) _
        have row6 := (HRW.out.onl (F := fun _ => False) (Onl.ofBelow b1) (fun _ _ q => q)).onl (F := fun _ => False) (Onl.ofBelow bb6) (fun _ _ q => q)
        have rd6 : RdG cEd 3 w6 (some ⟨W1.heap.size, 0, none⟩) [x] := by rw [hw6]; exact rd_lit _ _ x
        obtain ⟨v8, w8, RR, r8, o8, ow8⟩ := app_ed (cp := 1) row6 (by simp; omega) rd6
        obtain ⟨va8, vc8, hva8, _⟩ := r8.form
        obtain ⟨n8, hn8⟩ : ∃ n8, n8 = (((l.take k).map edOf) ++ [x]).length := ⟨_, rfl⟩
        rw [hva8] at r8 RR
        rw [show [x].length = 1 from rfl, ← hn8, ← HNK.out] at RR
        have htk : (l.take (k + 1)).map edOf = (l.take k).map edOf ++ [x] := by rw [List.take_add_one, HX.out, hx2]; simp [edOf]
        have hs1 : W1.heap.size = wr.heap.size + 1 := by rw [hW1]; simp
        have hs6 : w6.heap.size = W1.heap.size + 1 := by rw [hw6, World.size_alloc]
        have hbr := HBr.out.size
        have hb8 : Below w.heap.size w w8 := Below.onl ((HBr.out.trans (b1.mono HBr.out.size)).trans (bb6.mono (by omega))) o8 (fun i q => HRW.out.2 i q) (Nat.le_refl _)
        have HB8 := hide hb8
        have HRF : Hid (Row (fun g => w.heap.size ≤ g) w8 37 3 (.slice va8 ((l.take (k + 1)).map edOf).length vc8) ((l.take (k + 1)).map edOf).length (gcells cEd ((l.take (k + 1)).map edOf))) := by
          rw [htk]
          exact hide ⟨r8.1, fun g hg => (r8.2 g hg).elim (fun z => z) (fun z => by omega)⟩
        have HN8 : Hid (n8 = ((l.take (k + 1)).map edOf).length) := by rw [htk]; exact hide hn8
        rw [hw6, hx2] at RR
        simp only [cEd] at RR
        rw [hW1] at RR y0 y1 y2 y3 y4
        simp only [World.size_alloc] at RR
        obtain ⟨z1, z2, z3⟩ := app_runs RR
        clear hW1 b1 kb hw6 bb6 row6 rd6 r8 o8 ow8 hva8 hn8 RR htk hs1 hs6 hbr hb8 HRW hx2
        go_wp2
        go_roundw
        case rel => exact ⟨k + 1, va8, vc8, n8, by omega, by simp, rfl, HN8, HRF, HB8⟩
        case measure => simp [intOf]; omega
    · have HF : Hid (EdP (fun es => es = l.map edOf) w (.returned (.slice va nk vc)) wr) := by
        have hr := HRW.out
        have hnk := HNK.out
        rw [List.take_of_length_le (by have := HN.out; omega)] at hr hnk
        exact hide ⟨_, va, vc, by rw [hnk], rfl, hr, HBr.out⟩
      clear HRW
      go_wp2
      go_ret
      exact HF.out
set_option maxRecDepth 100000 in
set_option maxHeartbeats 8000000 in
theorem dturn_any (w : World) (a : Option Addr) (c : Nat) (l : List Ch) (h : RdG cCh 5 w a l) (hl : l.length ≤ 1000000) :
    Calls Try.prog 14 #[.slice a l.length c] w (ChP (fun es => es = l.map tuOf) w) := by
  obtain ⟨n, hn⟩ : ∃ n, n = l.length := ⟨_, rfl⟩
  have HN := hide hn
  have HR := hide h
  rw [← hn] at hl ⊢
  clear h hn
  go_enter Try.func14, Try.ntmps14
  go_wp2
  go_loopw [3, 8] (fun v i wr => ∃ (k : Nat) (va : Option Addr) (vc nk : Nat), k ≤ n ∧ i = .int .i64 k ∧ v = .slice va nk vc ∧ Hid (nk = ((l.take k).map tuOf).length) ∧ Hid (Row (fun g => w.heap.size ≤ g) wr 35 5 (.slice va ((l.take k).map tuOf).length vc) ((l.take k).map tuOf).length (gcells cCh ((l.take k).map tuOf))) ∧ Hid (Below w.heap.size w wr)) (fun _ i _ => n - (intOf i).toNat)
  case atStart => exact ⟨0, none, 0, 0, Nat.zero_le _, rfl, rfl, hide rfl, hide (Row.nil _ _ _ _), hide (Below.refl _ _)⟩
  case round =>
    obtain ⟨k, va, vc, nk, hk, rfl, rfl, HNK, HRW, HBr⟩ := hrel
    by_cases hkn : k < n
    · obtain ⟨e, hx⟩ : ∃ x, l[k]? = some x := ⟨l[k]'(by have := HN.out; omega), List.getElem?_eq_getElem _⟩
      obtain ⟨g, o, rfl, c0, c1, c2, c3, c4⟩ := (HR.out.below HBr.out).ch hx
      obtain ⟨ek, ehad, ewas, ehas, enow⟩ := e
      simp only at c0 c1 c2 c3 c4
      obtain ⟨W1, hW1⟩ : ∃ W1, W1 = wr.alloc (.cells #[.string ek, .bool ehad, .string ewas, .bool ehas, .string enow] 35) := ⟨_, rfl⟩
      have b1 : Below wr.heap.size wr W1 := by rw [hW1]; exact (Below.refl _ wr).alloc (Nat.le_refl _) _
      have kb : Ob W1 wr.heap.size 35 [.string ek, .bool ehad, .string ewas, .bool ehas, .string enow] := by rw [hW1]; exact Ob.new wr [.string ek, .bool ehad, .string ewas, .bool ehas, .string enow] 35
      have y0 := kb.cell 0
      have y1 := kb.cell 1
      have y2 := kb.cell 2
      have y3 := kb.cell 3
      have y4 := kb.cell 4
      simp only [List.getElem?_cons_zero, List.getElem?_cons_succ] at y0 y1 y2 y3 y4
      have HX := hide hx
      clear hx
      obtain ⟨x, hx2⟩ : ∃ x : Ch, x = ⟨ek, ehas, enow, ehad, ewas⟩ := ⟨_, rfl⟩
      obtain ⟨w6, hw6⟩ : ∃ w6, w6 = W1.alloc (.cells (cCh x).toArray 35) := ⟨_, rfl⟩
      have bb6 : Below W1.heap.size W1 w6 := by rw [hw6]; exact (Below.refl _ W1).alloc (Nat.le_refl _) _
      have row6 := (HRW.out.onl (F := fun _ => False) (Onl.ofBelow b1) (fun _ _ q => q)).onl (F := fun _ => False) (Onl.ofBelow bb6) (fun _ _ q => q)
      have rd6 : RdG cCh 5 w6 (some ⟨W1.heap.size, 0, none⟩) [x] := by rw [hw6]; exact rd_lit _ _ x
      obtain ⟨v8, w8, RR, r8, o8, ow8⟩ := app_ch (cp := 1) row6 (by simp; omega) rd6
      obtain ⟨va8, vc8, hva8, _⟩ := r8.form
      obtain ⟨n8, hn8⟩ : ∃ n8, n8 = (((l.take k).map tuOf) ++ [x]).length := ⟨_, rfl⟩
      rw [hva8] at r8 RR
      rw [show [x].length = 1 from rfl, ← hn8, ← HNK.out] at RR
      have htk : (l.take (k + 1)).map tuOf = (l.take k).map tuOf ++ [x] := by rw [List.take_add_one, HX.out, hx2]; simp [tuOf]
      have hs1 : W1.heap.size = wr.heap.size + 1 := by rw [hW1]; simp
      have hs6 : w6.heap.size = W1.heap.size + 1 := by rw [hw6, World.size_alloc]
      have hbr := HBr.out.size
      have hb8 : Below w.heap.size w w8 := Below.onl ((HBr.out.trans (b1.mono HBr.out.size)).trans (bb6.mono (by omega))) o8 (fun i q => HRW.out.2 i q) (Nat.le_refl _)
      have HB8 := hide hb8
      have HRF : Hid (Row (fun g => w.heap.size ≤ g) w8 35 5 (.slice va8 ((l.take (k + 1)).map tuOf).length vc8) ((l.take (k + 1)).map tuOf).length (gcells cCh ((l.take (k + 1)).map tuOf))) := by
        rw [htk]
        exact hide ⟨r8.1, fun g hg => (r8.2 g hg).elim (fun z => z) (fun z => by omega)⟩
      have HN8 : Hid (n8 = ((l.take (k + 1)).map tuOf).length) := by rw [htk]; exact hide hn8
      rw [hw6, hx2] at RR
      simp only [cCh] at RR
      rw [hW1] at RR y0 y1 y2 y3 y4
      simp only [World.size_alloc] at RR
      obtain ⟨z1, z2, z3⟩ := app_runs RR
      clear hW1 b1 kb hw6 bb6 row6 rd6 r8 o8 ow8 hva8 hn8 RR htk hs1 hs6 hbr hb8 HRW hx2
      go_wp2
      go_roundw
      case rel => exact ⟨k + 1, va8, vc8, n8, by omega, by simp, rfl, HN8, HRF, HB8⟩
      case measure => simp [intOf]; omega
    · have HF : Hid (ChP (fun es => es = l.map tuOf) w (.returned (.slice va nk vc)) wr) := by
        have hr := HRW.out
        have hnk := HNK.out
        rw [List.take_of_length_le (by have := HN.out; omega)] at hr hnk
        exact hide ⟨_, va, vc, by rw [hnk], rfl, hr, HBr.out⟩
      clear HRW
      go_wp2
      go_ret
      exact HF.out
end Go.Proofs.Ytbegiiihkmloiaa
