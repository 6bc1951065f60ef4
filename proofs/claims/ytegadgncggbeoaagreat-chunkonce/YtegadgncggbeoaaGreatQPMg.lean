/- Spans of the program's Free: what it hands out tells the rows as they are when it is called. Over the translation. Count and Largest of the program's Free: a range over what Spans hands out. Over the translation. Epoch, Get, Claim, Free and Root of the program's Pager, and one that nobody made. Over the translation. Get, Claim, Drop and Abort of the program's Pager, whichever way they go. Over the translation. -/
import Derived.Test.YtegadgncggbeoaaGreatQGLo
import Derived.Test.YtegadgncggbeoaaGreatQENw
import Derived.Test.YtegadgncggbeoaaGreatQECu
import Derived.Test.YtegadgncggbeoaaGreatQPCm
import Derived.Test.YtegadgncggbeoaaGreatQPRd
namespace Go.Proofs.YtegadgncggbeoaaGreat
open Go.RowKit Go.Shelf Apo
attribute [local go_sem] Oper.semAt_some

end Go.Proofs.YtegadgncggbeoaaGreat
namespace Go.Proofs.YtegadgncggbeoaaGreat
open Go.RowKit Go.Shelf Apo
attribute [local go_sem] Oper.semAt_some

end Go.Proofs.YtegadgncggbeoaaGreat
namespace Go.Proofs.YtegadgncggbeoaaGreat
open Go.RowKit Apo

theorem fin_root {W : World} {g : Nat} {sa sk : Int} {tmps : Array Value} {Q : Ending → World → Prop} (k : Ob W g 84 [.int .i64 sa, .int .i64 sk]) (h2 : tmps.getD 2 undef = .pointer (some ⟨g, 0, none⟩)) (hq : Q (.returned (.agg #[.int .i64 sa, .int .i64 sk])) W) :
    bodyPost Tryz.prog Tryz.f33 Q Exit.ret { tmps := tmps, defers := [] } W := by
  have hl := run_loadVar_row (P := Tryz.prog) W g 84 84 #[.int .i64 sa, .int .i64 sk] (0, 0) _ k Tryz.underlying84 rfl (by rw [size_span]; rfl)
  have h2' : tmps[2]?.getD undef = .pointer (some ⟨g, 0, none⟩) := by simpa using h2
  refine bodyPost_ret (v := .agg #[.int .i64 sa, .int .i64 sk]) ?_ rfl hq
  simp [results, Tryz.results33, asAddr, h2', hl]
set_option maxRecDepth 100000 in
set_option maxHeartbeats 1000000 in
theorem croot_any {U : Nat → Prop} {w : World} {p d : Nat} {c : Cg} {st : Sd} (h : CPx U w p d c st) :
    Calls Tryz.prog 33 #[.pointer (some ⟨p, 0, none⟩)] w fun e w' => e = .returned (.agg #[.int .i64 c.r.a, .int .i64 c.r.k]) ∧ Below w.heap.size w w' := by
  obtain ⟨_, _, _, _, _, _, _, h, _⟩ := h
  have h1 := h.b.ob.alloc (.cells #[.int .i64 0, .int .i64 0] 84)
  have c2 := h1.cell 2
  have c3 := h1.cell 3
  simp only [List.getElem?_cons_zero, List.getElem?_cons_succ] at c2 c3
  have hk := Ob.new w [.int .i64 c.r.a, .int .i64 c.r.k] 84
  have hb := (Below.refl _ w).alloc (Nat.le_refl _) (.cells #[.int .i64 c.r.a, .int .i64 c.r.k] 84)
  have HK := hide hk
  have HB := hide hb
  clear h h1 hk hb
  go_enter Tryz.func33, Tryz.ntmps33
  go_wp2
  exact fin_root HK.out rfl ⟨rfl, HB.out⟩
end Go.Proofs.YtegadgncggbeoaaGreat
namespace Apo
open Go Go.RowKit

def Cg.get (c : Cg) (st : Sd) (s : Spn) (size : Int) : List Int × Int := if c.ended then ([], 40) else if s.k = needP size then st.rdText2 (firstP s.a) size else ([], 1)
end Apo
namespace Go.Proofs.YtegadgncggbeoaaGreat
open Go.RowKit Apo

set_option maxRecDepth 100000 in
set_option maxHeartbeats 4000000 in
theorem cget_gen {U : Nat → Prop} {w : World} {p d : Nat} {c : Cg} {st : Sd} (h : CPx U w p d c st) (hc : st.C.length ≤ 1073741824) (s : Spn) (size : Int) :
    Calls Tryz.prog 58 #[.pointer (some ⟨p, 0, none⟩), .agg #[.int .i64 s.a, .int .i64 s.k], .int .i64 size] w fun e w' => ∃ v, e = .returned (.tuple #[v, .int .i64 (c.get st s size).2]) ∧ TldR w' w.heap.size v (c.get st s size).1 ∧ Below w.heap.size w w' := by
  obtain ⟨_, _, _, _, _, _, _, h, _⟩ := h
  obtain ⟨N, hN⟩ : ∃ N, N = needP size := ⟨_, rfl⟩
  have b0 := (Below.refl _ w).alloc (Nat.le_refl _) (.cells #[.int .i64 s.a, .int .i64 s.k] 84)
  have k0 := Ob.new w [.int .i64 s.a, .int .i64 s.k] 84
  have T0 := h.below b0
  have C1 := cgoes_ob T0.b.ob rfl rfl
  have C2 := fun W => cneed_any size W
  rw [← hN] at C2
  have C3 := fun W (hb : Below (w.alloc (.cells #[.int .i64 s.a, .int .i64 s.k] 84)).heap.size (w.alloc (.cells #[.int .i64 s.a, .int .i64 s.k] 84)) W) => crtext_any (T0.below hb).b.dv hc s.a size
  have x0 := T0.b.ob.cell 0
  have y0 := k0.cell 0
  have y1 := k0.cell 1
  simp only [List.getElem?_cons_zero, List.getElem?_cons_succ] at x0 y0 y1
  have HB0 := hide b0
  have HC3 := hide C3
  clear h b0 k0 T0 C3
  cases hen : c.ended with
  | true =>
    have e : c.get st s size = ([], 40) := by unfold Cg.get; rw [if_pos hen]
    rw [e]
    rw [hen] at C1
    clear e hen
    go_enter Tryz.func58, Tryz.ntmps58
    go_wp2_with fail
    refine C1.mono ?_
    rintro e wx ⟨rfl, rfl⟩
    go_wp2
    refine bodyPost_ret (by simp [results, Tryz.results58, go_sem]; rfl) rfl ?_
    exact ⟨_, rfl, TldR.nil _ _, HB0.out⟩
  | false =>
    rw [hen] at C1
    by_cases hq : s.k = (N : Int)
    · have e : c.get st s size = st.rdText2 (firstP s.a) size := by unfold Cg.get; rw [if_neg (by rw [hen]; simp), if_pos (by rw [← hN]; exact hq)]
      rw [e]
      have hPn : (s.k != (N : Int)) = false := by simpa using hq
      have hPe : (s.k == (N : Int)) = true := by simpa using hq
      clear e hen hq hN
      go_enter Tryz.func58, Tryz.ntmps58
      go_wp2_with fail
      refine C1.mono ?_
      rintro e wx ⟨rfl, rfl⟩
      go_wp2
      generalize w.alloc (.cells #[.int .i64 s.a, .int .i64 s.k] 84) = W0 at HB0 HC3 x0 y0 y1 ⊢
      go_region_held3 (fun W' => W'.cell? ⟨p, 0, none⟩ = some (.pointer (some ⟨d, 0, none⟩)) ∧ W'.cell? ⟨w.heap.size, 0, none⟩ = some (.int .i64 s.a) ∧ W'.cell? ⟨w.heap.size, 1, none⟩ = some (.int .i64 s.k)) (go_keep) (first
        | (go_at_call 72; refine (C2 _).mono ?_; rintro en wx ⟨rfl, rfl⟩))
      have C4 := HC3.out W0.drew.drew ((Below.refl _ W0).drew.drew)
      have HC4 := hide C4
      clear C4 HC3
      rename_i hHeld
      obtain ⟨x0, y0, y1⟩ := hHeld
      go_wp2
      go_region_held3 (fun W' => W'.cell? ⟨p, 0, none⟩ = some (.pointer (some ⟨d, 0, none⟩)) ∧ W'.cell? ⟨w.heap.size, 0, none⟩ = some (.int .i64 s.a) ∧ W'.cell? ⟨w.heap.size, 1, none⟩ = some (.int .i64 s.k)) (go_keep) (first
        | (go_at_call 91; refine HC4.out.mono ?_; rintro en w1 ⟨v1, rfl, t1, b1⟩; have u0 := (b1.cell (p := ⟨p, 0, none⟩) (World.block_lt_of_cell? _ _ x0)).trans x0; have u1 := (b1.cell (p := ⟨w.heap.size, 0, none⟩) (World.block_lt_of_cell? _ _ y0)).trans y0; have u2 := (b1.cell (p := ⟨w.heap.size, 1, none⟩) (World.block_lt_of_cell? _ _ y1)).trans y1; have HTL := hide t1; have HB1 := hide b1; clear t1 b1))
      obtain ⟨RS, hRS⟩ : ∃ RS, RS = st.rdText2 (firstP s.a) size := ⟨_, rfl⟩
      rw [← hRS] at HTL ⊢
      obtain ⟨a1, c1, hv1, rd1, n1, l1, bc1⟩ := HTL.out
      subst hv1
      have hsz := HB0.out.size
      have hTT : TldR w1 w.heap.size (.slice a1 RS.1.length c1) RS.1 := ⟨a1, c1, rfl, rd1, n1, fun x hx => ⟨by have z : W0.heap.size ≤ x.block := (l1 x hx).1; omega, (l1 x hx).2⟩, bc1⟩
      have HT := hide hTT
      have HBB := hide (HB0.out.trans (((Below.refl _ W0).drew.drew.trans HB1.out).mono hsz))
      have HRS := hide hRS
      clear hTT rd1 n1 l1 bc1 HTL hRS
      go_wp2
      refine bodyPost_ret (by simp [results, Tryz.results58, go_sem]; rfl) rfl ?_
      have q := HRS.out
      rw [← q]
      exact ⟨_, rfl, HT.out, HBB.out⟩
    · have e : c.get st s size = ([], 1) := by unfold Cg.get; rw [if_neg (by rw [hen]; simp), if_neg (by rw [← hN]; exact hq)]
      rw [e]
      have hPn : (s.k != (N : Int)) = true := by simpa using hq
      have hPe : (s.k == (N : Int)) = false := by simpa using hq
      clear e hen hq hN
      go_enter Tryz.func58, Tryz.ntmps58
      go_wp2_with fail
      refine C1.mono ?_
      rintro e wx ⟨rfl, rfl⟩
      go_wp2
      generalize w.alloc (.cells #[.int .i64 s.a, .int .i64 s.k] 84) = W0 at HB0 HC3 x0 y0 y1 ⊢
      go_region_held3 (fun W' => W'.cell? ⟨p, 0, none⟩ = some (.pointer (some ⟨d, 0, none⟩)) ∧ W'.cell? ⟨w.heap.size, 0, none⟩ = some (.int .i64 s.a) ∧ W'.cell? ⟨w.heap.size, 1, none⟩ = some (.int .i64 s.k)) (go_keep) (first
        | (go_at_call 72; refine (C2 _).mono ?_; rintro en wx ⟨rfl, rfl⟩))
      have HBB := hide HB0.out.drew
      go_wp2
      refine bodyPost_ret (by simp [results, Tryz.results58, go_sem]; rfl) rfl ?_
      exact ⟨_, rfl, TldR.nil _ _, HBB.out⟩
end Go.Proofs.YtegadgncggbeoaaGreat
