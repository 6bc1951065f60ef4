/- Law 15's Made. Over the translation. -/
import Derived.Deep.RegionHeld3
import Derived.Test.YtmkafoidfgaokaaQB2
import Derived.Test.YtmkafoidfgaokaaQB3
import Derived.Test.YtmkafoidfgaokaaQB4
namespace Go.Proofs.Ytmkafoidfgaokaa
open Go.RowKit Apo
/-- a world's first n blocks -/
def cutW (n : Nat) (w : World) : World := { w with heap := w.heap.extract 0 n }
theorem cutW_block {n k : Nat} (w : World) (h : k < n) : (cutW n w).heap[k]? = w.heap[k]? := by
  unfold cutW
  simp only [Array.getElem?_extract]
  by_cases q : k < w.heap.size
  · rw [if_pos (by omega)]; simp
  · rw [if_neg (by omega)]
    exact (Array.getElem?_eq_none_iff.2 (by omega)).symm
theorem cutW_size {n : Nat} {w : World} (h : n ≤ w.heap.size) : (cutW n w).heap.size = n := by
  unfold cutW
  simp
  omega
theorem cutW_below {n : Nat} {w : World} (h : n ≤ w.heap.size) : Below n (cutW n w) w := ⟨rfl, rfl, rfl, by rw [cutW_size h]; exact h, fun k hk => (cutW_block w hk).symm⟩
/-- the document's Graph, where blocks below its own were changed -/
theorem gr_cut {O : Nat → Prop} {w0 w w' : World} {p : Nat} {M : List CmA} (h : Gr w0 w p M) (o : Onl O w w') (hO : ∀ i, O i → i < w0.heap.size) (hr : ∀ x ∈ M, ∀ ad, x.a = some ad → 0 < x.c.ps.length → ¬ O ad.block) : Gr (cutW w0.heap.size w') w' p M := by
  have hs : w0.heap.size ≤ w'.heap.size := Nat.le_trans h.b.size o.size
  have hz := cutW_size hs
  obtain ⟨a, cap, k0, row⟩ := h.mem
  refine ⟨?_, by rw [hz]; exact h.lo, ⟨a, cap, k0.onl o (fun q => by have := hO p q; have := h.lo; omega), ?_⟩, fun x hx => ?_, h.len⟩
  · rw [hz]; exact cutW_below hs
  · rw [hz]
    exact row.onl o (fun g hg q => by have := (row.2 g hg).1; have := hO g q; omega)
  · refine { h.cm x hx with rd := ?_ }
    intro i hi
    obtain ⟨b, off, ha, hc⟩ := (h.cm x hx).rd i hi
    refine ⟨b, off, ha, ?_⟩
    have hb0 : b < w0.heap.size := World.block_lt_of_cell? w0 _ hc
    have h1 := (h.b.block b hb0)
    have h2 := o.block b (by have := h.b.size; omega) (hr x hx ⟨b, off, none⟩ ha (by omega))
    have h3 := cutW_block w' hb0
    exact (World.cell?_of_block (h3.trans (h2.trans h1))).trans hc
/-- what Made holds: the program's graph and the document's, of the commits l -/
structure MdS (w wr : World) (p b px : Nat) (l : List Cm) : Prop where
  g : ∃ X, Gp wr p b X l
  x : ∃ w0 M, Gr w0 wr px M ∧ M.map CmA.c = l ∧ Below w.heap.size w w0 ∧ b < w0.heap.size ∧ p < w0.heap.size
  bw : Below w.heap.size w wr
  lb : w.heap.size ≤ b ∧ w.heap.size ≤ p
  ok : Gok l
  pos : Pos l
theorem MdS.old {w wr w' : World} {p b px : Nat} {l : List Cm} (h : MdS w wr p b px l) (o : Below wr.heap.size wr w') : MdS w w' p b px l := by
  obtain ⟨X, hg⟩ := h.g
  obtain ⟨w0, M, h1, h2, h3, h4, h5⟩ := h.x
  exact ⟨⟨X, hg.old o⟩, ⟨w0, M, h1.old o, h2, h3, h4, h5⟩, h.bw.trans (o.mono h.bw.size), h.lb, h.ok, h.pos⟩
theorem gr_notob {w0 w : World} {p : Nat} {M : List CmA} (h : Gr w0 w p M) {ki : IntKind} {a : Option Addr} {l : List Int} (hr : Rd ki w a l) : ∀ x, a = some x → 0 < l.length → x.block ≠ p := by
  obtain ⟨_, _, k0, _⟩ := h.mem
  exact rd_notob k0 (by simp) hr
/-- both take a commit alike -/
theorem mdS_step {w wr W : World} {p b px : Nat} {l : List Cm} (h : MdS w wr p b px l) (hl : l.length < 1000) (hW : Below wr.heap.size wr W) (x : CmA) (hx : CmR w x.c x.a x.cap) (hn : x.a = none → x.cap = 0) :
    Calls Try.prog 32 #[.pointer (some ⟨p, 0, none⟩), aggC x] W fun e w1 => e = .returned (.int .i64 (addE l x.c)) ∧ Onl (fun i => i = b) W w1 ∧
      Calls Try.prog 34 #[.pointer (some ⟨px, 0, none⟩), aggC x] w1 fun e w2 => e = .returned (.int .i64 (addE l x.c)) ∧ Onl (fun i => i = px) w1 w2 ∧ MdS w w2 p b px (addL l x.c) := by
  have h' := h.old hW
  obtain ⟨X, hg⟩ := h'.g
  obtain ⟨w0, M, h1, h2, h3, h4, h5⟩ := h'.x
  have hlen := hg.len
  refine (addp_any hg (by omega) x (hx.below h'.bw) hn).mono ?_
  rintro e w1 ⟨rfl, ⟨X', hg1, _, _⟩, o1⟩
  refine ⟨rfl, o1, ?_⟩
  have hMr : ∀ y ∈ M, ∀ ad, y.a = some ad → 0 < y.c.ps.length → ¬ ad.block = b := fun y hy => rd_notmp hg.cs.mp ((h1.cm y hy).below h1.b).rd
  have hr1 := gr_cut h1 o1 (fun i q => by rw [q]; exact h4) hMr
  have hs0 : w0.heap.size ≤ w1.heap.size := Nat.le_trans h1.b.size o1.size
  have hz := cutW_size hs0
  have B1 : Below w.heap.size w w1 := Below.onl h'.bw o1 (fun i q => by rw [q]; exact h'.lb.1) (Nat.le_refl _)
  have B0 : Below w.heap.size w (cutW w0.heap.size w1) := by
    have hc := cutW_below hs0
    exact ⟨B1.os, B1.tape, B1.output, by rw [hz]; exact h3.size, fun k hk => (cutW_block w1 (by have := h3.size; omega)).trans (B1.block k hk)⟩
  have hML : M.length < 1000 := by
    have := congrArg List.length h2
    rw [List.length_map] at this
    omega
  refine (add_any hr1 hML x (hx.below B0)).mono ?_
  rintro e w2 ⟨rfl, ⟨M', m1, m2, _⟩, o2⟩
  rw [h2] at m1 ⊢
  refine ⟨rfl, o2, ⟨X', hg1.onl o2 ?_ ?_ ?_⟩, ⟨_, M', m2, m1, B0, by rw [hz]; exact h4, by rw [hz]; exact h5⟩, Below.onl B1 o2 (fun i q => by have := hr1.lo; rw [hz] at this; have := h3.size; omega) (Nat.le_refl _), h'.lb, gok_add h'.ok (by omega) x.c, pos_add h'.pos x.c⟩
  · have := hr1.lo; rw [hz] at this; omega
  · have := hr1.lo; rw [hz] at this; omega
  · intro y hy
    exact gr_notob hr1 (hg1.cs.cm y hy).rd
/-- what Made tells -/
def MdP (w : World) (L : List CmA) (e : Ending) (w' : World) : Prop := ∃ p b px l, e = .returned (.tuple #[.pointer (some ⟨p, 0, none⟩), .pointer (some ⟨px, 0, none⟩), .bool true]) ∧ l = (L.map CmA.c).foldl addL [] ∧ l.length ≤ L.length ∧ MdS w w' p b px l
set_option maxRecDepth 100000 in
set_option maxHeartbeats 8000000 in
theorem made15 (w : World) (f : CsA) (h : OkCs w f) (hf : f.l.length ≤ 25) : Calls Try.prog 11 #[.slice f.a f.l.length f.c] w (MdP w f.l) := by
  obtain ⟨a, c, L⟩ := f
  have HR := hide h.rd
  have HCM := hide h.cm
  simp only at HR HCM hf ⊢
  have HNW := hide (new_any w)
  obtain ⟨n, hn⟩ : ∃ n, n = L.length := ⟨_, rfl⟩
  have HN := hide hn
  rw [← hn] at hf ⊢
  clear h hn
  go_enter Try.func11, Try.ntmps11
  go_wp2_with fail
  refine HNW.out.mono ?_
  rintro e w1 ⟨rfl, hg, b1, s1⟩
  have bA : Below w1.heap.size w1 (w1.alloc (.cells #[.slice none 0 0] 58)) := (Below.refl _ _).alloc (Nat.le_refl _) _
  have HM : Hid (MdS w (w1.alloc (.cells #[.slice none 0 0] 58)) (w.heap.size + 1) w.heap.size w1.heap.size []) := hide ⟨⟨[], hg.old bA⟩, ⟨w1, [], ⟨bA, Nat.le_refl _, ⟨none, 0, Ob.new w1 [.slice none 0 0] 58, Row.nil _ _ _ _⟩, by simp, by simp⟩, rfl, b1, by omega, by omega⟩, b1.trans (bA.mono b1.size), ⟨Nat.le_refl _, by omega⟩, gok_nil, pos_nil⟩
  obtain ⟨px, hpx⟩ : ∃ px, px = w1.heap.size := ⟨_, rfl⟩
  rw [← hpx] at HM
  have HPX := hide hpx
  clear hg b1 bA HNW s1 hpx
  go_wp2
  rw [← HPX.out]
  go_loopw [14] (fun v wr => ∃ (k : Nat) (l : List Cm), k ≤ n ∧ v = .int .i64 k ∧ Hid (l = ((L.take k).map CmA.c).foldl addL []) ∧ Hid (l.length ≤ k) ∧ Hid (MdS w wr (w.heap.size + 1) w.heap.size px l)) (fun v _ => n - (intOf v).toNat)
  case atStart => exact ⟨0, [], Nat.zero_le _, rfl, hide (by simp), hide (by simp), HM⟩
  case round =>
    clear HM
    obtain ⟨k, l, hk, rfl, HL, HLL, HM⟩ := hrel
    by_cases hlt : k < n
    · obtain ⟨x, hx⟩ : ∃ x, L[k]? = some x := ⟨L[k]'(by have := HN.out; omega), List.getElem?_eq_getElem _⟩
      obtain ⟨g, o, rfl, r0, r1, r2, r3, r4⟩ := rd_cm (HR.out.below HM.out.bw) hx
      have hcm := HCM.out x (List.mem_of_getElem? hx)
      have bA : Below wr.heap.size wr (wr.alloc (.cells #[.int .u64 x.c.id, .slice x.a x.c.ps.length x.cap, .int .u64 x.c.gen, .int .u64 x.c.root, .string x.c.tx] 32)) := (Below.refl _ _).alloc (Nat.le_refl _) _
      have kA := Ob.new wr [.int .u64 x.c.id, .slice x.a x.c.ps.length x.cap, .int .u64 x.c.gen, .int .u64 x.c.root, .string x.c.tx] 32
      have bD : Below wr.heap.size wr (wr.alloc (.cells #[.int .u64 x.c.id, .slice x.a x.c.ps.length x.cap, .int .u64 x.c.gen, .int .u64 x.c.root, .string x.c.tx] 32)).drew := bA.drew
      have HST := hide (mdS_step HM.out (by have := HLL.out; omega) bD x hcm.1 hcm.2)
      have hbl : w.heap.size < wr.heap.size := by obtain ⟨X, hg⟩ := HM.out.g; exact hg.cs.lt
      have hpx : px < wr.heap.size := by obtain ⟨_, _, hq, _⟩ := HM.out.x; exact hq.lt
      obtain ⟨np, hnp⟩ : ∃ np, np = x.c.ps.length := ⟨_, rfl⟩
      have e0 : aggC x = .agg #[.int .u64 x.c.id, .slice x.a np x.cap, .int .u64 x.c.gen, .int .u64 x.c.root, .string x.c.tx] := by rw [hnp]; rfl
      rw [e0] at HST
      simp only [← hnp] at r1 kA HST
      have HK1 : Hid (∀ w1, Onl (fun i => i = w.heap.size) (wr.alloc (.cells #[.int .u64 x.c.id, .slice x.a np x.cap, .int .u64 x.c.gen, .int .u64 x.c.root, .string x.c.tx] 32)).drew w1 → Ob w1 wr.heap.size 32 [.int .u64 x.c.id, .slice x.a np x.cap, .int .u64 x.c.gen, .int .u64 x.c.root, .string x.c.tx]) := hide (fun w1 o1 => (kA.old (Below.refl _ _).drew).onl o1 (by omega))
      have HL2 : Hid (addL l x.c = ((L.take (k + 1)).map CmA.c).foldl addL []) := hide (by
        rw [List.take_add_one, hx, List.map_append, List.foldl_append, ← HL.out]
        rfl)
      have HLL2 : Hid ((addL l x.c).length ≤ k + 1) := hide (by have := (addL_len l x.c).1; have := HLL.out; omega)
      obtain ⟨E, hE⟩ : ∃ E, E = addE l x.c := ⟨_, rfl⟩
      rw [← hE] at HST
      obtain ⟨l2, hl2⟩ : ∃ l2, l2 = addL l x.c := ⟨_, rfl⟩
      rw [← hl2] at HST HL2 HLL2
      clear hx hcm bA bD kA hnp e0 HM HL HLL hE hl2
      go_wp2
      go_region_held3 (fun W' => W'.cell? ⟨wr.heap.size, 0, none⟩ = some (.int .u64 x.c.id) ∧ W'.cell? ⟨wr.heap.size, 1, none⟩ = some (.slice x.a np x.cap) ∧ W'.cell? ⟨wr.heap.size, 2, none⟩ = some (.int .u64 x.c.gen) ∧ W'.cell? ⟨wr.heap.size, 3, none⟩ = some (.int .u64 x.c.root) ∧ W'.cell? ⟨wr.heap.size, 4, none⟩ = some (.string x.c.tx)) (go_keep) (first
        | (go_at_call 32; refine HST.out.mono ?_; rintro en w1 ⟨rfl, o1, hc2⟩; have k1 := HK1.out w1 o1; have HC2 := hide hc2; have HKK := hide k1; have z0 := k1.cell 0; have z1 := k1.cell 1; have z2 := k1.cell 2; have z3 := k1.cell 3; have z4 := k1.cell 4; simp only [List.getElem?_cons_zero, List.getElem?_cons_succ] at z0 z1 z2 z3 z4; clear o1 hc2 k1)
        | (go_at_call 34; refine HC2.out.mono ?_; rintro en w2 ⟨rfl, o2, hm⟩; have k2 := HKK.out.onl o2 (by omega); have HM2 := hide hm; have y0 := k2.cell 0; have y1 := k2.cell 1; have y2 := k2.cell 2; have y3 := k2.cell 3; have y4 := k2.cell 4; simp only [List.getElem?_cons_zero, List.getElem?_cons_succ] at y0 y1 y2 y3 y4; clear o2 hm k2))
      go_wp2
      go_roundw
      case rel => exact ⟨k + 1, l2, by omega, by simp, HL2, HLL2, HM2⟩
      case measure => simp [intOf]; omega
    · obtain rfl : k = n := by omega
      have HF : Hid (MdP w L (.returned (.tuple #[.pointer (some ⟨w.heap.size + 1, 0, none⟩), .pointer (some ⟨px, 0, none⟩), .bool true])) wr) := hide ⟨_, _, _, l, rfl, by rw [HL.out, HN.out, List.take_length], by rw [← HN.out]; exact HLL.out, HM.out⟩
      clear HL HLL HM
      go_wp2
      refine bodyPost_ret (v := .tuple #[.pointer (some ⟨w.heap.size + 1, 0, none⟩), .pointer (some ⟨px, 0, none⟩), .bool true]) (by simp [results, Try.results11, go_sem]) rfl ?_
      exact HF.out
end Go.Proofs.Ytmkafoidfgaokaa
