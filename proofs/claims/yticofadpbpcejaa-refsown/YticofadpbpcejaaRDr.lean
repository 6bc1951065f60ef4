/- The document's Drop. Over the translation. -/
import Derived.Test.YticofadpbpcejaaRSt
import Derived.BigQuiet
import Derived.BigRegion
namespace Go.Proofs.Yticofadpbpcejaa
open Go.RowKit Apo
set_option maxRecDepth 100000 in
theorem rjoin {w1 : World} {g i n1 c1 : Nat} {y : Addr} {A B : List Rf} (hi : i = A.length) (hl : A.length + B.length ≤ 1000000) (hB : 0 < B.length) (hg : RdG cRf 3 w1 (some ⟨g, 0, none⟩) A) (hn : n1 = B.length) (hrd : RdG cRf 3 w1 (some y) B) :
    ∃ a2 c2 w2, (Builtin.append_ #[22, 22] 22 #[.slice (some ⟨g, 0, none⟩) i i, .slice (some y) n1 c1]).run Try.prog w1 = .ok (.slice a2 (A ++ B).length c2) w2 ∧ Row (fun g => w1.heap.size ≤ g) w2 32 3 (.slice a2 (A ++ B).length c2) (A ++ B).length (gcells cRf (A ++ B)) ∧ Below w1.heap.size w1 w2 := by
  subst hi
  obtain ⟨i0, hii, hz0, hz1, hz2⟩ := info_parts info_rf
  obtain ⟨v', w', RR, r', g'⟩ := run_append_full (P := Try.prog) (w := w1) 22 22 32 i0 _ 3 32 Try.underlying22 hii hz0 hz1 hz2 rfl ⟨g, 0, none⟩ A.length (gcells cRf A) (by rw [gcells_len cRf_len]) (RdG.news cRf_len (by decide) hg) y n1 c1 (gcells cRf B) (by rw [gcells_len cRf_len, hn]) (RdG.news cRf_len (by decide) hrd) (by omega) (by unfold maxLen; omega) (by omega)
  have hlen : A.length + n1 = (A ++ B).length := by rw [List.length_append, ← hn]
  rw [hlen, ← gcells_app] at r'
  have hrow : Row (fun g => w1.heap.size ≤ g) w' 32 3 v' (A ++ B).length (gcells cRf (A ++ B)) := by
    refine ⟨⟨r'.1, ?_⟩, fun g hg => by have := (r'.lt g hg).1; omega⟩
    rcases r'.2 with q | ⟨g, cap, cur, q1, q2, q3⟩
    · exact .inl q
    · exact .inr ⟨g, cap, cur, q1, Nat.zero_le _, q3⟩
  obtain ⟨a2, c2, hv2, _⟩ := hrow.form
  subst hv2
  exact ⟨a2, c2, w', RR, hrow, ⟨g'.os, g'.tape, g'.output, g'.size, fun k hk => g'.block k hk (by simp)⟩⟩
theorem dropL_is {L : List Rf} (h : Rok L) {k : Nat} {x : Rf} (hx : L[k]? = some x) : dropL L x.n = L.take k ++ L.drop (k + 1) := by
  obtain ⟨hk, hv⟩ := List.getElem?_eq_some_iff.1 hx
  have hs : L = L.take k ++ x :: L.drop (k + 1) := by rw [← hv, List.getElem_cons_drop, List.take_append_drop]
  have h1 : (L.take k).filter (fun r => decide (r.n ≠ x.n)) = L.take k := by
    rw [List.filter_eq_self]
    intro y hy
    obtain ⟨j, hj, hv⟩ := List.getElem_of_mem hy
    rw [List.getElem_take] at hv
    rw [List.length_take] at hj
    have h3 : L[j]? = some y := by rw [← hv]; exact List.getElem?_eq_getElem _
    rw [decide_eq_true_iff]
    intro e
    have := h.apart h3 hx e
    omega
  have h2 : (L.drop (k + 1)).filter (fun r => decide (r.n ≠ x.n)) = L.drop (k + 1) := by
    rw [List.filter_eq_self]
    intro y hy
    obtain ⟨j, hj, hv⟩ := List.getElem_of_mem hy
    rw [List.getElem_drop] at hv
    have h3 : L[k + 1 + j]? = some y := by rw [← hv]; exact List.getElem?_eq_getElem _
    rw [decide_eq_true_iff]
    intro e
    have := h.apart h3 hx e
    omega
  unfold dropL
  conv => lhs; rw [hs]
  rw [List.filter_append, h1, List.filter_cons_of_neg (by simp), h2]
/-- what Drop answers, and what is there behind it -/
def DrR (O : Nat → Prop) (w : World) (p : Nat) (L : List Rf) (n : ByteArray) (e : Ending) (w' : World) : Prop := e = .returned (.int .i64 (dropE L n)) ∧ TbR (Gro O w w') w' p (dropL L n) ∧ Onl O w w'
theorem drR_no {O : Nat → Prop} {w w' : World} {p : Nat} {L : List Rf} {n : ByteArray} (h : TbR O w p L) (hg : getR L n = none) (hb : ∀ x ∈ L, x.n ≠ n) (b : Below w.heap.size w w') : DrR O w p L n (.returned (.int .i64 111)) w' := by
  refine ⟨by unfold dropE; rw [hg], ?_, Onl.ofBelow b⟩
  have : dropL L n = L := by unfold dropL; rw [List.filter_eq_self]; intro x hx; simpa using hb x hx
  rw [this]
  exact h.gro b
theorem drR_mid {O : Nat → Prop} {w W3 w2 : World} {p k : Nat} {L : List Rf} {x : Rf} {n : ByteArray} {a2 : Option Addr} {c2 : Nat} {LL : List Rf} (hR : Rok L) (h : TbR O w p L) (hg : getR L n = some x) (hx : L[k]? = some x) (hn : x.n = n) (hLL : LL = L.take k ++ L.drop (k + 1)) (bW : Below w.heap.size w W3)
    (r2 : Row (fun g => W3.heap.size ≤ g) w2 32 3 (.slice a2 LL.length c2) LL.length (gcells cRf LL)) (bb : Below W3.heap.size W3 w2) :
    DrR O w p L n (.returned (.int .i64 0)) (w2.setCell ⟨p, 0, none⟩ (.slice a2 LL.length c2)) := by
  have hpl := h.lt p h.op
  have hW3 := bW.size
  obtain ⟨a0, n0, c0, k0, _⟩ := h.mem
  have k2 := (k0.old bW).old bb
  have o1 : Onl (fun i => i = p) w2 (w2.setCell ⟨p, 0, none⟩ (.slice a2 LL.length c2)) := (Onl.refl (fun i => i = p) w2).set (p := p) (.inl rfl) _
  have b2 : Below w.heap.size w w2 := bW.trans (bb.mono hW3)
  have hsz : (w2.setCell ⟨p, 0, none⟩ (.slice a2 LL.length c2)).heap.size = w2.heap.size := by simp [World.setCell]
  refine ⟨by unfold dropE; rw [hg], ?_, (Onl.ofBelow b2).trans (o1.mono (fun i q => by rw [q]; exact h.op))⟩
  subst hn
  rw [dropL_is hR hx, ← hLL]
  refine ⟨.inl h.op, Gro.lt h.lt (by rw [hsz]; exact b2.size), ⟨a2, _, c2, k2.set 0 _, RoT.of ?_ rfl⟩, ?_⟩
  · have r3 := r2.onl o1 (fun g hg q => by have := r2.2 g hg; omega)
    refine ⟨r3.1, fun g hg => ?_⟩
    have h1 := r2.2 g hg
    have h2 := r2.lt g hg
    exact ⟨.inr ⟨by omega, by rw [hsz]; exact h2⟩, by omega⟩
  · have := h.len
    rw [hLL]; simp; omega
theorem drR_end {O : Nat → Prop} {w w2 : World} {p k g m cap : Nat} {L : List Rf} {x : Rf} {n : ByteArray} (hR : Rok L) (h : TbR O w p L) (hg : getR L n = some x) (hx : L[k]? = some x) (hn : x.n = n) (hk : L.length = k + 1) (b2 : Below w.heap.size w w2)
    (k2 : Ob w2 p 46 [.slice (some ⟨g, 0, none⟩) m cap]) (row : RoT (fun g => O g ∧ g ≠ p) w2 (some ⟨g, 0, none⟩) m cap L) :
    DrR O w p L n (.returned (.int .i64 0)) (w2.setCell ⟨p, 0, none⟩ (.slice (some ⟨g, 0, none⟩) k k)) := by
  have hpl := h.lt p h.op
  have o1 : Onl O w2 (w2.setCell ⟨p, 0, none⟩ (.slice (some ⟨g, 0, none⟩) k k)) := (Onl.refl O w2).set (p := p) (.inl h.op) _
  have hsz : (w2.setCell ⟨p, 0, none⟩ (.slice (some ⟨g, 0, none⟩) k k)).heap.size = w2.heap.size := by simp [World.setCell]
  refine ⟨by unfold dropE; rw [hg], ?_, (Onl.ofBelow b2).trans o1⟩
  subst hn
  rw [dropL_is hR hx, List.drop_of_length_le (by omega), List.append_nil]
  have hlk : (L.take k).length = k := by rw [List.length_take]; omega
  have hl := h.len
  refine ⟨.inl h.op, Gro.lt h.lt (by rw [hsz]; exact b2.size), ⟨_, _, _, k2.set 0 _, ⟨hlk.symm, Nat.le_of_eq hlk, by unfold maxLen; omega, (fun e => by cases e), fun ad e => ?_⟩⟩, by rw [hlk]; omega⟩
  injection e with e
  subst e
  obtain ⟨g', ex, e1, ob, hO, hgp⟩ := row.at' _ rfl
  injection e1 with e1
  subst e1
  refine ⟨g, gcells cRf (L.drop k) ++ ex, rfl, ?_, .inl hO, hgp⟩
  rw [← List.append_assoc, ← gcells_app, List.take_append_drop]
  exact ob.set_other hgp _
attribute [local go_sem ↓] Apo.app_exec
set_option maxRecDepth 100000 in
set_option maxHeartbeats 4000000 in
theorem rdrop_any {O : Nat → Prop} {w : World} {p : Nat} {L : List Rf} (hR : Rok L) (h : TbR O w p L) (n : ByteArray) :
    Calls Try.prog 15 #[.pointer (some ⟨p, 0, none⟩), .string n] w (DrR O w p L n) := by
  have HA := hide (rat_any h n)
  have HG := hide h
  have HR := hide hR
  have hpl := h.lt p h.op
  clear h hR
  go_enter Try.func15, Try.ntmps15
  go_wp2_with fail
  refine HA.out.mono ?_
  rintro e w1 ⟨rfl, b1⟩
  have HB1 := hide b1
  have HG1 := hide (HG.out.old b1)
  clear b1 HA
  rcases at_casesR L n with ⟨k, x, hx, hxn, hxb, h2, h3⟩ | ⟨h2, h3, hxb⟩
  · obtain ⟨a, m, cap, k0, row⟩ := HG1.out.mem
    have HROW := hide row
    have HOB := hide k0
    obtain ⟨g, o, ha, _⟩ := rd_rf row.rd hx
    subst ha
    obtain ⟨g', ex, e1, ob, hO, hgp⟩ := row.at' _ rfl
    injection e1 with e1 e2
    subst e1 e2
    have hkl : k < m := by rw [row.n]; exact (List.getElem?_eq_some_iff.1 hx).1
    have hm : m ≤ 40 := by rw [row.n]; exact HG1.out.len
    have hmL := row.n
    have hmc : m ≤ cap := by rw [row.n]; exact row.le
    have hcm := row.mx
    have HX : Hid (L[k]? = some x ∧ x.n = n ∧ getR L n = some x) := hide ⟨hx, hxn, h2⟩
    rw [h3]
    clear h2 h3 hx hxn hxb hO hgp ob
    have b3 : Below w1.heap.size w1 w1.drew := Onl.toBelow ((Onl.refl (fun _ => False) w1).drew) (fun _ q => q.elim) (Nat.le_refl _)
    have HBW := hide (HB1.out.trans (b3.mono HB1.out.size))
    have x0 := HOB.out.cell 0
    have y0 := (HOB.out.old b3).cell 0
    have fd := (HOB.out.old b3).frozen 0
    simp only [List.getElem?_cons_zero] at x0 y0
    have hvm2 : cap ≤ 9223372036854775807 := by unfold maxLen at hcm; omega
    have hkc : k ≤ cap := by omega
    have HB3 := hide b3
    clear b3
    by_cases hkm : k + 1 = m
    · have HF := hide (drR_end HR.out HG.out HX.out.2.2 HX.out.1 HX.out.2.1 (by omega) HBW.out (HOB.out.old HB3.out) (HROW.out.onl (F := fun _ => False) (Onl.ofBelow HB3.out) (fun _ _ q => q)))
      clear row k0 hmL hm hcm
      obtain ⟨i0, hii, _⟩ := info_parts info_rf
      by_cases hie : cap = k + 1
      · have R2 := app_zero (P := Try.prog) (W := w1.drew) Try.underlying22 hii (b := some ⟨g, 0, none⟩) (x := some ⟨g, 0, none⟩) (n := k) (c := k) (cx := cap - (k + 1)) (Nat.le_refl _)
        obtain ⟨z4, z5, z6⟩ := app_runs R2
        have hz : m - (k + 1) = 0 := by omega
        clear R2 hii hkm
        go_wp2
        go_region
        all_goals (
          go_wp2
          go_ret
          exact HF.out)
      · have R2 := app_zero (P := Try.prog) (W := w1.drew) Try.underlying22 hii (b := some ⟨g, 0, none⟩) (x := some ⟨g, (k + 1) * 3, none⟩) (n := k) (c := k) (cx := cap - (k + 1)) (Nat.le_refl _)
        obtain ⟨z4, z5, z6⟩ := app_runs R2
        have hz : m - (k + 1) = 0 := by omega
        clear R2 hii hkm
        go_wp2
        go_region
        all_goals (
          go_wp2
          go_ret
          exact HF.out)
    · have row3 := HROW.out.rd.below HB3.out
      obtain ⟨a2, c2, w4, R2, rr, bb2⟩ := rjoin (i := k) (c1 := cap - (k + 1)) (A := L.take k) (B := L.drop (k + 1)) (n1 := m - (k + 1)) (by rw [List.length_take]; omega) (by simp; omega) (by simp; omega) (by have := row3.sub 0 k; simpa using this) (by rw [List.length_drop]; omega) (by have := row3.sub (k + 1) (L.length - (k + 1)); rwa [List.take_of_length_le (by simp)] at this)
      obtain ⟨LL, hLL⟩ : ∃ LL, LL = L.take k ++ L.drop (k + 1) := ⟨_, rfl⟩
      rw [← hLL] at rr R2
      have HF := hide (drR_mid HR.out HG.out HX.out.2.2 HX.out.1 HX.out.2.1 hLL HBW.out rr bb2)
      have x1 := ((HOB.out.old HB3.out).old bb2).cell 0
      have f1 := ((HOB.out.old HB3.out).old bb2).frozen 0
      simp only [List.getElem?_cons_zero] at x1
      obtain ⟨n2, hn2⟩ : ∃ n2, n2 = LL.length := ⟨_, rfl⟩
      rw [← hn2] at R2 HF
      obtain ⟨z4, z5, z6⟩ := app_runs R2
      have hie : ¬ cap = k + 1 := by omega
      clear R2 rr bb2 hLL hn2 row3 row k0 hmL
      go_wp2
      go_region
      all_goals (
        go_wp2
        go_ret
        exact HF.out)
  · have HF := hide (drR_no HG.out h2 hxb HB1.out)
    rw [h3]
    clear h2 h3 hxb
    go_wp2
    go_ret
    exact HF.out
end Go.Proofs.Yticofadpbpcejaa
