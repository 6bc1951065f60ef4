/- The document's Split and Group, over the translation. -/
import Derived.Test.YtandjkogpdamcaaNdR
import Derived.Test.YtandjkogpdamcaaOnl
import Derived.Test.YtandjkogpdamcaaApp
import Derived.Maps.AppendAt
namespace Apo
open Go Go.RowKit
/-- rows so far, and the one that is being filled, behind k of n -/
def splK {α : Type} (p : α → Bool) (l : List α) : Nat → List (List α) × List α
  | 0 => ([], [])
  | k + 1 => match l[k]? with
    | none => splK p l k
    | some x => if k + 1 = l.length ∨ p x = true then ((splK p l k).1 ++ [(splK p l k).2 ++ [x]], []) else ((splK p l k).1, (splK p l k).2 ++ [x])
def splitN {α : Type} (p : α → Bool) (l : List α) : List (List α) := (splK p l l.length).1
theorem splK_len {α : Type} (p : α → Bool) (l : List α) : ∀ k, (splK p l k).1.length + (splK p l k).2.length ≤ k
  | 0 => by simp [splK]
  | k + 1 => by
    have := splK_len p l k
    unfold splK
    split
    · omega
    · split
      · simp; omega
      · simp; omega
theorem splK_step {α : Type} {p : α → Bool} {l : List α} {k : Nat} {x : α} (h : l[k]? = some x) : splK p l (k + 1) = if k + 1 = l.length ∨ p x = true then ((splK p l k).1 ++ [(splK p l k).2 ++ [x]], []) else ((splK p l k).1, (splK p l k).2 ++ [x]) := by
  simp only [splK, h]
def ecells (l : List En) : List Value := l.flatMap (fun e => [.string e.k, .string e.v])
def kcells (l : List Ki) : List Value := l.flatMap (fun e => [.string e.k, .int .u64 (e.i : Int)])
theorem ecells_len : ∀ l : List En, (ecells l).length = l.length * 2
  | [] => rfl
  | x :: l => by
    have := ecells_len l
    unfold ecells at this ⊢
    rw [List.flatMap_cons, List.length_append, this, List.length_cons]
    simp
    omega
theorem kcells_len : ∀ l : List Ki, (kcells l).length = l.length * 2
  | [] => rfl
  | x :: l => by
    have := kcells_len l
    unfold kcells at this ⊢
    rw [List.flatMap_cons, List.length_append, this, List.length_cons]
    simp
    omega
theorem ecells_at : ∀ (l : List En) {i : Nat} {e : En}, l[i]? = some e → (ecells l)[i * 2]? = some (.string e.k) ∧ (ecells l)[i * 2 + 1]? = some (.string e.v)
  | [], _, _, h => by simp at h
  | x :: l, 0, e, h => by
    simp at h
    subst h
    exact ⟨rfl, rfl⟩
  | x :: l, i + 1, e, h => by
    have := ecells_at l (i := i) (by simpa using h)
    have e1 : (i + 1) * 2 = i * 2 + 2 := by omega
    rw [e1]
    exact this
theorem kcells_at : ∀ (l : List Ki) {i : Nat} {e : Ki}, l[i]? = some e → (kcells l)[i * 2]? = some (.string e.k) ∧ (kcells l)[i * 2 + 1]? = some (.int .u64 (e.i : Int))
  | [], _, _, h => by simp at h
  | x :: l, 0, e, h => by
    simp at h
    subst h
    exact ⟨rfl, rfl⟩
  | x :: l, i + 1, e, h => by
    have := kcells_at l (i := i) (by simpa using h)
    have e1 : (i + 1) * 2 = i * 2 + 2 := by omega
    rw [e1]
    exact this
/-- rows of entries, of children, as they lie in memory -/
def RdRowsE (w : World) (a : Option Addr) (rows : List (List En)) : Prop := ∀ i r, rows[i]? = some r → ∃ g o ra rc, a = some ⟨g, o, none⟩ ∧ w.cell? ⟨g, o + i, none⟩ = some (.slice ra r.length rc) ∧ RdEn w ra r ∧ r.length ≤ rc ∧ rc ≤ maxLen ∧ (ra = none → rc = 0)
def RdRowsK (w : World) (a : Option Addr) (rows : List (List Ki)) : Prop := ∀ i r, rows[i]? = some r → ∃ g o ra rc, a = some ⟨g, o, none⟩ ∧ w.cell? ⟨g, o + i, none⟩ = some (.slice ra r.length rc) ∧ RdKi w ra r ∧ r.length ≤ rc ∧ rc ≤ maxLen ∧ (ra = none → rc = 0)
end Apo
namespace Go.Proofs.Ytandjkogpdamcaa
open Go.RowKit Apo
attribute [local go_sem ↓] Apo.app_exec
set_option maxRecDepth 100000 in
theorem rd_ecells {O : Nat → Prop} {W : World} {v : Value} {l : List En} (h : Row O W 55 2 v l.length (ecells l)) : ∃ a c, v = .slice a l.length c ∧ RdEn W a l ∧ l.length ≤ c ∧ c ≤ maxLen ∧ (a = none → c = 0) := by
  obtain ⟨a, c, hv, h1, h2, h3, h4⟩ := h.form
  refine ⟨a, c, hv, fun i e hi => ?_, h1, h2, h3⟩
  have hil := (List.getElem?_eq_some_iff.1 hi).1
  obtain ⟨g, cap, hv2, _, _, _, _, hc, _⟩ := h.shape (by omega)
  rw [hv] at hv2
  injection hv2 with e1 e2 e3
  have := ecells_at l hi
  refine ⟨g, 0, e1, ?_, ?_⟩
  · rw [Nat.zero_add, hc (i * 2) (by omega)]; exact this.1
  · rw [Nat.zero_add, hc (i * 2 + 1) (by omega)]; exact this.2
set_option maxRecDepth 100000 in
theorem info_En : (Try.prog.info? 55).map (fun i => (i.zero, i.size, i.bytes)) = some (some (.agg #[.string ByteArray.empty, .string ByteArray.empty]), 2, 32) := by kernel_rfl
set_option maxRecDepth 100000 in
theorem info_Ens : (Try.prog.info? 22).map (fun i => (i.zero, i.size, i.bytes)) = some (some (.slice none 0 0), 1, 24) := by kernel_rfl
set_option maxRecDepth 100000 in
/-- append(row, x) -/
theorem app_En {O : Nat → Prop} {W : World} {v : Value} {l : List En} (h : Row O W 55 2 v l.length (ecells l)) (hn : l.length ≤ 1000000) (e : En) :
    ∃ v' w', (Builtin.append_ #[22, 22] 22 #[v, .slice (some ⟨W.heap.size, 0, none⟩) 1 1]).run Try.prog (W.alloc (.cells #[.string e.k, .string e.v] 55)) = .ok v' w' ∧ Row (fun g => O g ∨ g = W.heap.size + 1) w' 55 2 v' (l ++ [e]).length (ecells (l ++ [e])) ∧ Onl O W w' := by
  obtain ⟨i0, hi, hz0, hz1, hz2⟩ := info_parts info_En
  have k0 := Ob.new W [.string e.k, .string e.v] 55
  obtain ⟨v5, w5, RR, r5, g5, _, ho5⟩ := run_append_own_at (P := Try.prog) (W.alloc (.cells #[.string e.k, .string e.v] 55)) 0 22 22 55 i0 _ 2 32 Try.underlying22 hi hz0 hz1 hz2 rfl (by decide) v l.length (ecells l) (h.1.alloc _) ⟨W.heap.size, 0, none⟩ 1 1 (ecells [e]) rfl
    (fun j u hu => by
      have : (⟨W.heap.size, 0, none⟩ : Addr).add j = ⟨W.heap.size, j, none⟩ := by unfold Addr.add; split <;> simp_all
      rw [this]
      exact (k0.cell j).trans (by simpa [ecells] using hu)) (by intro u hu; simp [ecells] at hu; rcases hu with rfl | rfl <;> rfl) (by unfold maxLen; omega) (by omega) (Nat.zero_le _)
  refine ⟨v5, w5, RR, ⟨?_, fun g hg => ?_⟩, ?_⟩
  · rw [List.length_append, show ecells (l ++ [e]) = ecells l ++ ecells [e] by simp [ecells]]
    exact r5
  · rcases ho5 with q | q
    · rw [q] at hg; exact .inl (h.2 g hg)
    · rw [q] at hg; cases hg; right; simp
  · exact ((Onl.refl O W).alloc _).grown g5 (fun k hk => .inl (h.2 k hk))
set_option maxRecDepth 100000 in
/-- append(out, row) -/
theorem app_Ens {O : Nat → Prop} {W : World} {v : Value} {vs : List Value} (h : Row O W 22 1 v vs.length vs) (hn : vs.length ≤ 1000000) {ra : Option Addr} {rl rc : Nat} :
    ∃ v' w', (Builtin.append_ #[44, 44] 44 #[v, .slice (some ⟨W.heap.size, 0, none⟩) 1 1]).run Try.prog (W.alloc (.cells #[.slice ra rl rc] 22)) = .ok v' w' ∧ Row (fun g => O g ∨ g = W.heap.size + 1) w' 22 1 v' (vs ++ [Value.slice ra rl rc]).length (vs ++ [Value.slice ra rl rc]) ∧ Onl O W w' := by
  obtain ⟨i0, hi, hz0, hz1, hz2⟩ := info_parts info_Ens
  obtain ⟨v5, w5, RR, r5, g5, _, ho5⟩ := run_append_own_at (P := Try.prog) (W.alloc (.cells #[.slice ra rl rc] 22)) 0 44 44 22 i0 _ 1 24 Try.underlying44 hi hz0 hz1 hz2 rfl (by decide) v vs.length vs (h.1.alloc _) ⟨W.heap.size, 0, none⟩ 1 1 [Value.slice ra rl rc] rfl (cell_one_new W (.slice ra rl rc) 22) (by simp; rfl) (by unfold maxLen; omega) (by omega) (Nat.zero_le _)
  refine ⟨v5, w5, RR, ⟨?_, fun g hg => ?_⟩, ?_⟩
  · rw [List.length_append]
    exact r5
  · rcases ho5 with q | q
    · rw [q] at hg; exact .inl (h.2 g hg)
    · rw [q] at hg; cases hg; right; simp
  · exact ((Onl.refl O W).alloc _).grown g5 (fun k hk => .inl (h.2 k hk))
/-- what is told: rows -/
def SplEn (w : World) (rows : List (List En)) (e : Ending) (w' : World) : Prop := ∃ ra rc, e = .returned (.slice ra rows.length rc) ∧ RdRowsE w' ra rows ∧ Below w.heap.size w w' ∧ rows.length ≤ rc
/-- rows that are done -/
def FinEn (lo B : Nat) (w : World) (vs : List Value) (rows : List (List En)) : Prop := vs.length = rows.length ∧ ∀ (i : Nat) (v : Value) (r : List En), vs[i]? = some v → rows[i]? = some r → Row (fun g => lo ≤ g ∧ g < B) w 55 2 v r.length (ecells r)
set_option maxRecDepth 100000 in
theorem FinEn.onl {lo B B' : Nat} {w w' : World} {vs : List Value} {rows : List (List En)} {F : Nat → Prop} (h : FinEn lo B w vs rows) (o : Onl F w w') (hF : ∀ (v : Value) (r : List En), Row (fun g => lo ≤ g ∧ g < B) w 55 2 v r.length (ecells r) → ∀ g, v.ownBlock = some g → ¬ F g) (hB : B ≤ B') : FinEn lo B' w' vs rows :=
  ⟨h.1, fun i v r hv hr => by
    have q := h.2 i v r hv hr
    exact (q.onl o (hF v r q)).mono (fun g z => ⟨z.1, by omega⟩)⟩
set_option maxRecDepth 100000 in
theorem FinEn.snoc {lo B : Nat} {w : World} {vs : List Value} {rows : List (List En)} (h : FinEn lo B w vs rows) {v : Value} {r : List En} (k : Row (fun g => lo ≤ g ∧ g < B) w 55 2 v r.length (ecells r)) : FinEn lo B w (vs ++ [v]) (rows ++ [r]) := by
  refine ⟨by simp [h.1], fun i u q hu hq => ?_⟩
  have hl := h.1
  by_cases z : i < vs.length
  · rw [List.getElem?_append_left z] at hu
    rw [List.getElem?_append_left (by omega)] at hq
    exact h.2 i u q hu hq
  · rw [List.getElem?_append_right (by omega)] at hu hq
    have h0 : i - vs.length = 0 := by
      have := (List.getElem?_eq_some_iff.1 hu).1
      simp at this
      omega
    rw [h0] at hu
    rw [show i - rows.length = 0 by omega] at hq
    simp at hu hq
    subst hu hq
    exact k
set_option maxRecDepth 100000 in
set_option maxHeartbeats 8000000 in
theorem rsplitEn_any (w : World) (a : Option Addr) (c : Nat) (l : List En) (h : RdEn w a l) (hl : l.length ≤ 1000000) (hz : ∀ e ∈ l, e.k.size ≤ 1099511627776) :
    Calls Try.prog 19 #[.slice a l.length c] w (SplEn w (splitN (fun e : En => endsN 0 e.k) l)) := by
  obtain ⟨n, hn⟩ : ∃ n, n = l.length := ⟨_, rfl⟩
  obtain ⟨p, hp⟩ : ∃ p, p = (fun e : En => endsN 0 e.k) := ⟨_, rfl⟩
  have HN := hide hn
  have HP := hide hp
  have HE := hide h
  have HZ := hide hz
  rw [← hp]
  rw [← hn] at hl ⊢
  clear h hn hz hp
  go_enter Try.func19, Try.ntmps19
  go_wp2
  go_loopw [3, 4, 9] (fun vo vr i wr => ∃ (k B : Nat) (vs : List Value), k ≤ n ∧ i = .int .i64 k ∧ (∃ a n c, vo = .slice a n c) ∧ (∃ a n c, vr = .slice a n c) ∧ Hid (w.heap.size ≤ B ∧ B ≤ wr.heap.size) ∧ Hid (Row (fun g => w.heap.size ≤ g) wr 22 1 vo vs.length vs) ∧ Hid (FinEn w.heap.size B wr vs (splK p l k).1) ∧ Hid (Row (fun g => B ≤ g) wr 55 2 vr (splK p l k).2.length (ecells (splK p l k).2)) ∧ Hid (k = n → (splK p l k).2 = []) ∧ Hid (Below w.heap.size w wr)) (fun _ _ i _ => n - (intOf i).toNat)
  case atStart => exact ⟨0, w.heap.size, [], Nat.zero_le _, rfl, ⟨none, 0, 0, rfl⟩, ⟨none, 0, 0, rfl⟩, hide ⟨Nat.le_refl _, Nat.le_refl _⟩, hide (Row.nil _ _ _ _), hide ⟨rfl, by simp⟩, hide (Row.nil _ _ _ _), hide (fun _ => rfl), hide (Below.refl _ _)⟩
  case round =>
    obtain ⟨k, B, vs, hk, rfl, ⟨oa, on, oc, rfl⟩, ⟨ra, rn, rc, rfl⟩, HBb, HO, HF, HR, HEM, HB⟩ := hrel
    by_cases hkn : k < n
    · obtain ⟨e, hek⟩ : ∃ e, l[k]? = some e := ⟨l[k]'(by have := HN.out; omega), List.getElem?_eq_getElem _⟩
      obtain ⟨g, o, rfl, q1, q2⟩ := HE.out k e hek
      have q1' := (HB.out.cell (p := ⟨g, o + k * 2, none⟩) (World.block_lt_of_cell? _ _ q1)).trans q1
      have q2' := (HB.out.cell (p := ⟨g, o + k * 2 + 1, none⟩) (World.block_lt_of_cell? _ _ q2)).trans q2
      have hsz := HZ.out _ (List.mem_of_getElem? hek)
      have hstep := splK_step (p := p) hek
      have hll := splK_len p l k
      obtain ⟨ek, ev⟩ := e
      simp only at q1' q2' hsz
      obtain ⟨⟨rows, cur⟩, hsp⟩ : ∃ q, splK p l k = q := ⟨_, rfl⟩
      rw [hsp] at hstep hll HF HR HEM
      simp only at hstep hll HF HR HEM
      obtain ⟨W1, hW1⟩ : ∃ W1, W1 = wr.alloc (.cells #[.string ek, .string ev] 55) := ⟨_, rfl⟩
      have bb1 : Below wr.heap.size wr W1 := by rw [hW1]; exact (Below.refl _ wr).alloc (Nat.le_refl _) _
      have s1 : W1.heap.size = wr.heap.size + 1 := by rw [hW1]; simp
      have hbb := HBb.out
      have hvl : vs.length = rows.length := HF.out.1
      have r1 : Row (fun g => B ≤ g ∧ (Value.slice ra rn rc).ownBlock = some g) W1 55 2 (.slice ra rn rc) cur.length (ecells cur) := ⟨(HR.out.onl (F := fun _ => False) (Onl.ofBelow bb1) (fun _ _ q => q)).1, fun g hg => ⟨HR.out.2 g hg, hg⟩⟩
      have t1 := HO.out.onl (F := fun _ => False) (Onl.ofBelow bb1) (fun _ _ q => q)
      have f1 := HF.out.onl (B' := B) (F := fun _ => False) (Onl.ofBelow bb1) (fun _ _ _ _ _ q => q) (Nat.le_refl _)
      obtain ⟨v2, w2, RA, r2, o2⟩ := app_En r1 (by omega) ⟨ek, ev⟩
      obtain ⟨p1, p2, p3⟩ := app_runs RA
      rw [s1] at p1 p2 p3
      have t2 := t1.onl o2 (fun g hg q => Row.apart t1 r1 (by decide) g hg q.2)
      have f2 := f1.onl (B' := B) o2 (fun v r hr g hg q => by have := (hr.2 g hg).2; omega) (Nat.le_refl _)
      have z2 := o2.size
      obtain ⟨ra2, rc2, hv2, _⟩ := r2.form
      subst hv2
      have kb1 : Ob W1 wr.heap.size 55 [.string ek, .string ev] := by rw [hW1]; exact Ob.new wr [.string ek, .string ev] 55
      have y0 := kb1.cell 0
      have y1 := kb1.cell 1
      have kb2 := kb1.onl o2 (fun q => by
        have := Row.lt HR.out wr.heap.size q.2
        omega)
      have y2 := kb2.cell 0
      simp only [List.getElem?_cons_zero, List.getElem?_cons_succ] at y0 y1 y2
      have B2 : Below w.heap.size w w2 := Below.onl (HB.out.trans (bb1.mono HB.out.size)) o2 (fun i q => by omega) (Nat.le_refl _)
      have r2' := r2.mono (O' := fun g => B ≤ g) (fun g q => by
        rcases q with q | q
        · exact q.1
        · omega)
      obtain ⟨NR, hNR⟩ : ∃ NR, NR = (cur ++ [(⟨ek, ev⟩ : En)]).length := ⟨_, rfl⟩
      rw [← hNR] at p2
      have HNR := hide hNR
      have CE := rendsN_any 0 ek w2 hsz
      have HCE := hide CE
      have HR2 := hide r2'
      have HT2 := hide t2
      have HF2 := hide f2
      have HB2 := hide B2
      have HST := hide hstep
      rw [hW1] at y0 y1 p1 p2 p3
      have HW1 := hide hW1
      clear r1 t1 f1 RA r2 o2 r2' t2 f2 B2 CE hstep hek q1 q2 kb1 kb2 bb1 hW1 hNR HO HF HR hsp
      have HDONE : Hid (∀ X, Below w2.heap.size w2 X → ∃ oa' NL oc' wf, (Builtin.append_ #[44, 44] 44 #[.slice oa on oc, .slice (some ⟨X.heap.size, 0, none⟩) 1 1]).run Try.prog (X.alloc (.cells #[.slice ra2 NR rc2] 22)) = .ok (.slice oa' NL oc') wf ∧ w.heap.size ≤ w2.heap.size ∧ w2.heap.size ≤ wf.heap.size ∧ Row (fun g => w.heap.size ≤ g) wf 22 1 (.slice oa' NL oc') (vs ++ [Value.slice ra2 NR rc2]).length (vs ++ [Value.slice ra2 NR rc2]) ∧ FinEn w.heap.size w2.heap.size wf (vs ++ [Value.slice ra2 NR rc2]) (rows ++ [cur ++ [(⟨ek, ev⟩ : En)]]) ∧ Below w.heap.size w wf) := by
        refine hide (fun X bX => ?_)
        have hbb := HBb.out
        have zX := bX.size
        have z2 := HB2.out.size
        have tX := HT2.out.onl (F := fun _ => False) (Onl.ofBelow bX) (fun _ _ q => q)
        have tX' : Row (fun g => w.heap.size ≤ g ∧ (Value.slice oa on oc).ownBlock = some g) X 22 1 (.slice oa on oc) vs.length vs := ⟨tX.1, fun g hg => ⟨tX.2 g hg, hg⟩⟩
        obtain ⟨v5, w5, R5, r5, o5⟩ := app_Ens tX' (by omega) (ra := ra2) (rl := NR) (rc := rc2)
        obtain ⟨oa5, oc5, hv5, _⟩ := r5.form
        subst hv5
        have z5 := o5.size
        have rX : Row (fun g => w.heap.size ≤ g ∧ g < w2.heap.size) X 55 2 (.slice ra2 NR rc2) (cur ++ [(⟨ek, ev⟩ : En)]).length (ecells (cur ++ [⟨ek, ev⟩])) := by
          rw [HNR.out]
          have q := HR2.out.onl (F := fun _ => False) (Onl.ofBelow bX) (fun _ _ q => q)
          exact ⟨q.1, fun g hg => ⟨by have := HR2.out.2 g hg; omega, HR2.out.lt g hg⟩⟩
        have fX := (HF2.out.onl (B' := w2.heap.size) (F := fun _ => False) (Onl.ofBelow bX) (fun _ _ _ _ _ q => q) (by omega)).snoc rX
        refine ⟨oa5, _, oc5, w5, R5, by omega, by omega, r5.mono (fun g q => by
          rcases q with q | q
          · exact q.1
          · omega), fX.onl o5 (fun v r hr g hg q => Row.apart hr tX' (by decide) g hg q.2) (Nat.le_refl _), ?_⟩
        exact Below.onl (HB2.out.trans (bX.mono HB2.out.size)) o5 (fun i q => q.1) (Nat.le_refl _)
      have HT3 := HT2
      have HF3' := HF2
      have HZ2 : Hid (wr.heap.size ≤ w2.heap.size) := hide (by omega)
      have HFIN : Hid (∀ X wf vo, (k + 1 = l.length ∨ p ⟨ek, ev⟩ = true) → w.heap.size ≤ w2.heap.size → w2.heap.size ≤ wf.heap.size → Row (fun g => w.heap.size ≤ g) wf 22 1 vo (vs ++ [Value.slice ra2 NR rc2]).length (vs ++ [Value.slice ra2 NR rc2]) → FinEn w.heap.size w2.heap.size wf (vs ++ [Value.slice ra2 NR rc2]) (rows ++ [cur ++ [(⟨ek, ev⟩ : En)]]) → X = wf →
          Hid (FinEn w.heap.size w2.heap.size wf (vs ++ [Value.slice ra2 NR rc2]) (splK p l (k + 1)).1) ∧ Hid (Row (fun g => w2.heap.size ≤ g) wf 55 2 (.slice none 0 0) (splK p l (k + 1)).2.length (ecells (splK p l (k + 1)).2)) ∧ Hid (k + 1 = n → (splK p l (k + 1)).2 = [])) := by
        refine hide (fun X wf vo hc _ _ _ hf _ => ?_)
        have e := HST.out
        rw [if_pos hc] at e
        rw [e]
        exact ⟨hide hf, hide (Row.nil _ _ _ _), hide (fun _ => rfl)⟩
      by_cases hlast : k + 1 = n
      · have dl : ((k : Int) + 1 == (n : Int)) = true := by simp; omega
        have dln : (k + 1 == n) = true := by simp; omega
        have dlm : decide (k + 1 = n) = true := by simp; omega
        obtain ⟨oa', NL, oc', wf, R5, h1, h2, h3, h4, h5⟩ := HDONE.out w2 (Below.refl _ _)
        obtain ⟨f1, f2, f3⟩ := HFIN.out wf wf _ (.inl (by have := HN.out; omega)) h1 h2 h3 h4 rfl
        obtain ⟨s1', s2', s3'⟩ := app_runs R5
        have HH := hide (And.intro h1 h2)
        have HR3 := hide h3
        have HB5 := hide h5
        have HL := hide hlast
        clear h1 h2 h3 h4 h5 R5 HDONE HFIN hlast
        go_wp2
        go_roundw
        case rel => exact ⟨k + 1, w2.heap.size, vs ++ [Value.slice ra2 NR rc2], by omega, by simp, ⟨_, _, _, rfl⟩, ⟨_, _, _, rfl⟩, HH, HR3, f1, f2, f3, HB5⟩
        case measure => simp [intOf]; omega
      · have dl : ((k : Int) + 1 == (n : Int)) = false := by simp; omega
        have dln : (k + 1 == n) = false := by simp; omega
        have dlm : decide (k + 1 = n) = false := by simp; omega
        have hpe : p ⟨ek, ev⟩ = endsN 0 ek := by rw [HP.out]
        have HPE := hide hpe
        clear hpe
        cases hb : endsN 0 ek
        · rw [hb] at HCE HPE
          go_wp2_with fail
          refine HCE.out.mono ?_
          rintro e w3 ⟨rfl, b3⟩
          have hbb2 := HBb.out
          have e := HST.out
          rw [if_neg (by rw [HPE.out, ← HN.out]; simp; exact hlast)] at e
          have z3 := b3.size
          have hz2 := HZ2.out
          have HH : Hid (w.heap.size ≤ B ∧ B ≤ w3.heap.size) := hide ⟨hbb2.1, by omega⟩
          have HR3 : Hid (Row (fun g => w.heap.size ≤ g) w3 22 1 (.slice oa on oc) vs.length vs) := hide (HT3.out.onl (F := fun _ => False) (Onl.ofBelow b3) (fun _ _ q => q))
          have HF3 : Hid (FinEn w.heap.size B w3 vs (splK p l (k + 1)).1) := hide (by rw [e]; exact HF3'.out.onl (B' := B) (F := fun _ => False) (Onl.ofBelow b3) (fun _ _ _ _ _ q => q) (Nat.le_refl _))
          have HC3 : Hid (Row (fun g => B ≤ g) w3 55 2 (.slice ra2 NR rc2) (splK p l (k + 1)).2.length (ecells (splK p l (k + 1)).2)) := hide (by
            rw [e]
            have q := HR2.out.onl (F := fun _ => False) (Onl.ofBelow b3) (fun _ _ q => q)
            rw [← HNR.out] at q ⊢
            exact q)
          have HE3 : Hid (k + 1 = n → (splK p l (k + 1)).2 = []) := hide (fun q => absurd q hlast)
          have HB3 : Hid (Below w.heap.size w w3) := hide (HB2.out.trans (b3.mono HB2.out.size))
          clear b3 e HDONE HFIN
          go_wp2
          go_roundw
          case rel => exact ⟨k + 1, B, vs, by omega, by simp, ⟨_, _, _, rfl⟩, ⟨_, _, _, rfl⟩, HH, HR3, HF3, HC3, HE3, HB3⟩
          case measure => simp [intOf]; omega
        · rw [hb] at HCE HPE
          go_wp2_with fail
          refine HCE.out.mono ?_
          rintro e w3 ⟨rfl, b3⟩
          obtain ⟨oa', NL, oc', wf, R5, h1, h2, h3, h4, h5⟩ := HDONE.out w3 b3
          obtain ⟨f1, f2, f3⟩ := HFIN.out wf wf _ (.inr HPE.out) h1 h2 h3 h4 rfl
          obtain ⟨s1', s2', s3'⟩ := app_runs R5
          have HH := hide (And.intro h1 h2)
          have HR3 := hide h3
          have HB5 := hide h5
          clear h1 h2 h3 h4 h5 R5 HDONE HFIN b3
          go_wp2
          go_roundw
          case rel => exact ⟨k + 1, w2.heap.size, vs ++ [Value.slice ra2 NR rc2], by omega, by simp, ⟨_, _, _, rfl⟩, ⟨_, _, _, rfl⟩, HH, HR3, f1, f2, f3, HB5⟩
          case measure => simp [intOf]; omega
    · obtain rfl : k = n := by omega
      have hEm := HEM.out rfl
      have HX : Hid (∃ ra rc, Value.slice oa on oc = .slice ra (splitN p l).length rc ∧ RdRowsE wr ra (splitN p l) ∧ (splitN p l).length ≤ rc) := by
        refine hide ?_
        have hsp : splitN p l = (splK p l k).1 := by unfold splitN; rw [HN.out]
        rw [hsp]
        obtain ⟨a1, c1, hv1, hcc, _⟩ := HO.out.form
        rw [HF.out.1] at hv1 hcc
        refine ⟨a1, c1, hv1, fun i r hr => ?_, hcc⟩
        have hi := (List.getElem?_eq_some_iff.1 hr).1
        have hvl := HF.out.1
        obtain ⟨g, cap, hv2, _, _, _, _, hc, _⟩ := HO.out.shape (by omega)
        rw [hv1] at hv2
        injection hv2 with e1 e2 e3
        obtain ⟨v, hv⟩ : ∃ v, vs[i]? = some v := ⟨vs[i]'(by omega), List.getElem?_eq_getElem _⟩
        obtain ⟨ra3, rc3, hvf, h1, h2, h3, h4⟩ := rd_ecells (HF.out.2 i v r hv hr)
        refine ⟨g, 0, ra3, rc3, e1, ?_, h1, h2, h3, h4⟩
        rw [Nat.zero_add, hc i (by omega), hv, hvf]
      obtain ⟨ra3, rc3, hvv, hrr⟩ := HX.out
      have HRR := hide hrr
      have HVV := hide hvv
      clear hvv hrr hEm HX
      go_wp2
      go_ret
      refine ⟨ra3, rc3, ?_, HRR.out.1, HB.out, HRR.out.2⟩
      rw [← HVV.out]
      rfl
set_option maxRecDepth 100000 in
theorem rd_kcells {O : Nat → Prop} {W : World} {v : Value} {l : List Ki} (h : Row O W 58 2 v l.length (kcells l)) : ∃ a c, v = .slice a l.length c ∧ RdKi W a l ∧ l.length ≤ c ∧ c ≤ maxLen ∧ (a = none → c = 0) := by
  obtain ⟨a, c, hv, h1, h2, h3, h4⟩ := h.form
  refine ⟨a, c, hv, fun i e hi => ?_, h1, h2, h3⟩
  have hil := (List.getElem?_eq_some_iff.1 hi).1
  obtain ⟨g, cap, hv2, _, _, _, _, hc, _⟩ := h.shape (by omega)
  rw [hv] at hv2
  injection hv2 with e1 e2 e3
  have := kcells_at l hi
  refine ⟨g, 0, e1, ?_, ?_⟩
  · rw [Nat.zero_add, hc (i * 2) (by omega)]; exact this.1
  · rw [Nat.zero_add, hc (i * 2 + 1) (by omega)]; exact this.2
set_option maxRecDepth 100000 in
theorem info_Ki : (Try.prog.info? 58).map (fun i => (i.zero, i.size, i.bytes)) = some (some (.agg #[.string ByteArray.empty, .int .u64 0]), 2, 24) := by kernel_rfl
set_option maxRecDepth 100000 in
theorem info_Kis : (Try.prog.info? 23).map (fun i => (i.zero, i.size, i.bytes)) = some (some (.slice none 0 0), 1, 24) := by kernel_rfl
set_option maxRecDepth 100000 in
/-- append(row, x) -/
theorem app_Ki {O : Nat → Prop} {W : World} {v : Value} {l : List Ki} (h : Row O W 58 2 v l.length (kcells l)) (hn : l.length ≤ 1000000) (e : Ki) :
    ∃ v' w', (Builtin.append_ #[23, 23] 23 #[v, .slice (some ⟨W.heap.size, 0, none⟩) 1 1]).run Try.prog (W.alloc (.cells #[.string e.k, .int .u64 (e.i : Int)] 58)) = .ok v' w' ∧ Row (fun g => O g ∨ g = W.heap.size + 1) w' 58 2 v' (l ++ [e]).length (kcells (l ++ [e])) ∧ Onl O W w' := by
  obtain ⟨i0, hi, hz0, hz1, hz2⟩ := info_parts info_Ki
  have k0 := Ob.new W [.string e.k, .int .u64 (e.i : Int)] 58
  obtain ⟨v5, w5, RR, r5, g5, _, ho5⟩ := run_append_own_at (P := Try.prog) (W.alloc (.cells #[.string e.k, .int .u64 (e.i : Int)] 58)) 0 23 23 58 i0 _ 2 24 Try.underlying23 hi hz0 hz1 hz2 rfl (by decide) v l.length (kcells l) (h.1.alloc _) ⟨W.heap.size, 0, none⟩ 1 1 (kcells [e]) rfl
    (fun j u hu => by
      have : (⟨W.heap.size, 0, none⟩ : Addr).add j = ⟨W.heap.size, j, none⟩ := by unfold Addr.add; split <;> simp_all
      rw [this]
      exact (k0.cell j).trans (by simpa [kcells] using hu)) (by intro u hu; simp [kcells] at hu; rcases hu with rfl | rfl <;> rfl) (by unfold maxLen; omega) (by omega) (Nat.zero_le _)
  refine ⟨v5, w5, RR, ⟨?_, fun g hg => ?_⟩, ?_⟩
  · rw [List.length_append, show kcells (l ++ [e]) = kcells l ++ kcells [e] by simp [kcells]]
    exact r5
  · rcases ho5 with q | q
    · rw [q] at hg; exact .inl (h.2 g hg)
    · rw [q] at hg; cases hg; right; simp
  · exact ((Onl.refl O W).alloc _).grown g5 (fun k hk => .inl (h.2 k hk))
set_option maxRecDepth 100000 in
/-- append(out, row) -/
theorem app_Kis {O : Nat → Prop} {W : World} {v : Value} {vs : List Value} (h : Row O W 23 1 v vs.length vs) (hn : vs.length ≤ 1000000) {ra : Option Addr} {rl rc : Nat} :
    ∃ v' w', (Builtin.append_ #[46, 46] 46 #[v, .slice (some ⟨W.heap.size, 0, none⟩) 1 1]).run Try.prog (W.alloc (.cells #[.slice ra rl rc] 23)) = .ok v' w' ∧ Row (fun g => O g ∨ g = W.heap.size + 1) w' 23 1 v' (vs ++ [Value.slice ra rl rc]).length (vs ++ [Value.slice ra rl rc]) ∧ Onl O W w' := by
  obtain ⟨i0, hi, hz0, hz1, hz2⟩ := info_parts info_Kis
  obtain ⟨v5, w5, RR, r5, g5, _, ho5⟩ := run_append_own_at (P := Try.prog) (W.alloc (.cells #[.slice ra rl rc] 23)) 0 46 46 23 i0 _ 1 24 Try.underlying46 hi hz0 hz1 hz2 rfl (by decide) v vs.length vs (h.1.alloc _) ⟨W.heap.size, 0, none⟩ 1 1 [Value.slice ra rl rc] rfl (cell_one_new W (.slice ra rl rc) 23) (by simp; rfl) (by unfold maxLen; omega) (by omega) (Nat.zero_le _)
  refine ⟨v5, w5, RR, ⟨?_, fun g hg => ?_⟩, ?_⟩
  · rw [List.length_append]
    exact r5
  · rcases ho5 with q | q
    · rw [q] at hg; exact .inl (h.2 g hg)
    · rw [q] at hg; cases hg; right; simp
  · exact ((Onl.refl O W).alloc _).grown g5 (fun k hk => .inl (h.2 k hk))
/-- what is told: rows -/
def SplKi (w : World) (rows : List (List Ki)) (e : Ending) (w' : World) : Prop := ∃ ra rc, e = .returned (.slice ra rows.length rc) ∧ RdRowsK w' ra rows ∧ Below w.heap.size w w' ∧ rows.length ≤ rc
/-- rows that are done -/
def FinKi (lo B : Nat) (w : World) (vs : List Value) (rows : List (List Ki)) : Prop := vs.length = rows.length ∧ ∀ (i : Nat) (v : Value) (r : List Ki), vs[i]? = some v → rows[i]? = some r → Row (fun g => lo ≤ g ∧ g < B) w 58 2 v r.length (kcells r)
set_option maxRecDepth 100000 in
theorem FinKi.onl {lo B B' : Nat} {w w' : World} {vs : List Value} {rows : List (List Ki)} {F : Nat → Prop} (h : FinKi lo B w vs rows) (o : Onl F w w') (hF : ∀ (v : Value) (r : List Ki), Row (fun g => lo ≤ g ∧ g < B) w 58 2 v r.length (kcells r) → ∀ g, v.ownBlock = some g → ¬ F g) (hB : B ≤ B') : FinKi lo B' w' vs rows :=
  ⟨h.1, fun i v r hv hr => by
    have q := h.2 i v r hv hr
    exact (q.onl o (hF v r q)).mono (fun g z => ⟨z.1, by omega⟩)⟩
set_option maxRecDepth 100000 in
theorem FinKi.snoc {lo B : Nat} {w : World} {vs : List Value} {rows : List (List Ki)} (h : FinKi lo B w vs rows) {v : Value} {r : List Ki} (k : Row (fun g => lo ≤ g ∧ g < B) w 58 2 v r.length (kcells r)) : FinKi lo B w (vs ++ [v]) (rows ++ [r]) := by
  refine ⟨by simp [h.1], fun i u q hu hq => ?_⟩
  have hl := h.1
  by_cases z : i < vs.length
  · rw [List.getElem?_append_left z] at hu
    rw [List.getElem?_append_left (by omega)] at hq
    exact h.2 i u q hu hq
  · rw [List.getElem?_append_right (by omega)] at hu hq
    have h0 : i - vs.length = 0 := by
      have := (List.getElem?_eq_some_iff.1 hu).1
      simp at this
      omega
    rw [h0] at hu
    rw [show i - rows.length = 0 by omega] at hq
    simp at hu hq
    subst hu hq
    exact k
set_option maxRecDepth 100000 in
set_option maxHeartbeats 8000000 in
theorem rgroupKi_any (w : World) (lv : Int) (a : Option Addr) (c : Nat) (l : List Ki) (h : RdKi w a l) (hl : l.length ≤ 1000000) (hz : ∀ e ∈ l, e.k.size ≤ 1099511627776) :
    Calls Try.prog 21 #[.int .i64 lv, .slice a l.length c] w (SplKi w (splitN (fun e : Ki => endsN lv e.k) l)) := by
  obtain ⟨n, hn⟩ : ∃ n, n = l.length := ⟨_, rfl⟩
  obtain ⟨p, hp⟩ : ∃ p, p = (fun e : Ki => endsN lv e.k) := ⟨_, rfl⟩
  have HN := hide hn
  have HP := hide hp
  have HE := hide h
  have HZ := hide hz
  rw [← hp]
  rw [← hn] at hl ⊢
  clear h hn hz hp
  go_enter Try.func21, Try.ntmps21
  go_wp2
  go_loopw [5, 6, 11] (fun vo vr i wr => ∃ (k B : Nat) (vs : List Value), k ≤ n ∧ i = .int .i64 k ∧ (∃ a n c, vo = .slice a n c) ∧ (∃ a n c, vr = .slice a n c) ∧ Hid (w.heap.size ≤ B ∧ B ≤ wr.heap.size) ∧ Hid (Row (fun g => w.heap.size ≤ g) wr 23 1 vo vs.length vs) ∧ Hid (FinKi w.heap.size B wr vs (splK p l k).1) ∧ Hid (Row (fun g => B ≤ g) wr 58 2 vr (splK p l k).2.length (kcells (splK p l k).2)) ∧ Hid (k = n → (splK p l k).2 = []) ∧ Hid (Below w.heap.size w wr)) (fun _ _ i _ => n - (intOf i).toNat)
  case atStart => exact ⟨0, w.heap.size, [], Nat.zero_le _, rfl, ⟨none, 0, 0, rfl⟩, ⟨none, 0, 0, rfl⟩, hide ⟨Nat.le_refl _, Nat.le_refl _⟩, hide (Row.nil _ _ _ _), hide ⟨rfl, by simp⟩, hide (Row.nil _ _ _ _), hide (fun _ => rfl), hide (Below.refl _ _)⟩
  case round =>
    obtain ⟨k, B, vs, hk, rfl, ⟨oa, on, oc, rfl⟩, ⟨ra, rn, rc, rfl⟩, HBb, HO, HF, HR, HEM, HB⟩ := hrel
    by_cases hkn : k < n
    · obtain ⟨e, hek⟩ : ∃ e, l[k]? = some e := ⟨l[k]'(by have := HN.out; omega), List.getElem?_eq_getElem _⟩
      obtain ⟨g, o, rfl, q1, q2⟩ := HE.out k e hek
      have q1' := (HB.out.cell (p := ⟨g, o + k * 2, none⟩) (World.block_lt_of_cell? _ _ q1)).trans q1
      have q2' := (HB.out.cell (p := ⟨g, o + k * 2 + 1, none⟩) (World.block_lt_of_cell? _ _ q2)).trans q2
      have hsz := HZ.out _ (List.mem_of_getElem? hek)
      have hstep := splK_step (p := p) hek
      have hll := splK_len p l k
      obtain ⟨ek, ev⟩ := e
      simp only at q1' q2' hsz
      obtain ⟨⟨rows, cur⟩, hsp⟩ : ∃ q, splK p l k = q := ⟨_, rfl⟩
      rw [hsp] at hstep hll HF HR HEM
      simp only at hstep hll HF HR HEM
      obtain ⟨W1, hW1⟩ : ∃ W1, W1 = wr.alloc (.cells #[.string ek, .int .u64 (ev : Int)] 58) := ⟨_, rfl⟩
      have bb1 : Below wr.heap.size wr W1 := by rw [hW1]; exact (Below.refl _ wr).alloc (Nat.le_refl _) _
      have s1 : W1.heap.size = wr.heap.size + 1 := by rw [hW1]; simp
      have hbb := HBb.out
      have hvl : vs.length = rows.length := HF.out.1
      have r1 : Row (fun g => B ≤ g ∧ (Value.slice ra rn rc).ownBlock = some g) W1 58 2 (.slice ra rn rc) cur.length (kcells cur) := ⟨(HR.out.onl (F := fun _ => False) (Onl.ofBelow bb1) (fun _ _ q => q)).1, fun g hg => ⟨HR.out.2 g hg, hg⟩⟩
      have t1 := HO.out.onl (F := fun _ => False) (Onl.ofBelow bb1) (fun _ _ q => q)
      have f1 := HF.out.onl (B' := B) (F := fun _ => False) (Onl.ofBelow bb1) (fun _ _ _ _ _ q => q) (Nat.le_refl _)
      obtain ⟨v2, w2, RA, r2, o2⟩ := app_Ki r1 (by omega) ⟨ek, ev⟩
      obtain ⟨p1, p2, p3⟩ := app_runs RA
      rw [s1] at p1 p2 p3
      have t2 := t1.onl o2 (fun g hg q => Row.apart t1 r1 (by decide) g hg q.2)
      have f2 := f1.onl (B' := B) o2 (fun v r hr g hg q => by have := (hr.2 g hg).2; omega) (Nat.le_refl _)
      have z2 := o2.size
      obtain ⟨ra2, rc2, hv2, _⟩ := r2.form
      subst hv2
      have kb1 : Ob W1 wr.heap.size 58 [.string ek, .int .u64 (ev : Int)] := by rw [hW1]; exact Ob.new wr [.string ek, .int .u64 (ev : Int)] 58
      have y0 := kb1.cell 0
      have y1 := kb1.cell 1
      have kb2 := kb1.onl o2 (fun q => by
        have := Row.lt HR.out wr.heap.size q.2
        omega)
      have y2 := kb2.cell 0
      simp only [List.getElem?_cons_zero, List.getElem?_cons_succ] at y0 y1 y2
      have B2 : Below w.heap.size w w2 := Below.onl (HB.out.trans (bb1.mono HB.out.size)) o2 (fun i q => by omega) (Nat.le_refl _)
      have r2' := r2.mono (O' := fun g => B ≤ g) (fun g q => by
        rcases q with q | q
        · exact q.1
        · omega)
      obtain ⟨NR, hNR⟩ : ∃ NR, NR = (cur ++ [(⟨ek, ev⟩ : Ki)]).length := ⟨_, rfl⟩
      rw [← hNR] at p2
      have HNR := hide hNR
      have CE := rendsN_any lv ek w2 hsz
      have HCE := hide CE
      have HR2 := hide r2'
      have HT2 := hide t2
      have HF2 := hide f2
      have HB2 := hide B2
      have HST := hide hstep
      rw [hW1] at y0 y1 p1 p2 p3
      have HW1 := hide hW1
      clear r1 t1 f1 RA r2 o2 r2' t2 f2 B2 CE hstep hek q1 q2 kb1 kb2 bb1 hW1 hNR HO HF HR hsp
      have HDONE : Hid (∀ X, Below w2.heap.size w2 X → ∃ oa' NL oc' wf, (Builtin.append_ #[46, 46] 46 #[.slice oa on oc, .slice (some ⟨X.heap.size, 0, none⟩) 1 1]).run Try.prog (X.alloc (.cells #[.slice ra2 NR rc2] 23)) = .ok (.slice oa' NL oc') wf ∧ w.heap.size ≤ w2.heap.size ∧ w2.heap.size ≤ wf.heap.size ∧ Row (fun g => w.heap.size ≤ g) wf 23 1 (.slice oa' NL oc') (vs ++ [Value.slice ra2 NR rc2]).length (vs ++ [Value.slice ra2 NR rc2]) ∧ FinKi w.heap.size w2.heap.size wf (vs ++ [Value.slice ra2 NR rc2]) (rows ++ [cur ++ [(⟨ek, ev⟩ : Ki)]]) ∧ Below w.heap.size w wf) := by
        refine hide (fun X bX => ?_)
        have hbb := HBb.out
        have zX := bX.size
        have z2 := HB2.out.size
        have tX := HT2.out.onl (F := fun _ => False) (Onl.ofBelow bX) (fun _ _ q => q)
        have tX' : Row (fun g => w.heap.size ≤ g ∧ (Value.slice oa on oc).ownBlock = some g) X 23 1 (.slice oa on oc) vs.length vs := ⟨tX.1, fun g hg => ⟨tX.2 g hg, hg⟩⟩
        obtain ⟨v5, w5, R5, r5, o5⟩ := app_Kis tX' (by omega) (ra := ra2) (rl := NR) (rc := rc2)
        obtain ⟨oa5, oc5, hv5, _⟩ := r5.form
        subst hv5
        have z5 := o5.size
        have rX : Row (fun g => w.heap.size ≤ g ∧ g < w2.heap.size) X 58 2 (.slice ra2 NR rc2) (cur ++ [(⟨ek, ev⟩ : Ki)]).length (kcells (cur ++ [⟨ek, ev⟩])) := by
          rw [HNR.out]
          have q := HR2.out.onl (F := fun _ => False) (Onl.ofBelow bX) (fun _ _ q => q)
          exact ⟨q.1, fun g hg => ⟨by have := HR2.out.2 g hg; omega, HR2.out.lt g hg⟩⟩
        have fX := (HF2.out.onl (B' := w2.heap.size) (F := fun _ => False) (Onl.ofBelow bX) (fun _ _ _ _ _ q => q) (by omega)).snoc rX
        refine ⟨oa5, _, oc5, w5, R5, by omega, by omega, r5.mono (fun g q => by
          rcases q with q | q
          · exact q.1
          · omega), fX.onl o5 (fun v r hr g hg q => Row.apart hr tX' (by decide) g hg q.2) (Nat.le_refl _), ?_⟩
        exact Below.onl (HB2.out.trans (bX.mono HB2.out.size)) o5 (fun i q => q.1) (Nat.le_refl _)
      have HT3 := HT2
      have HF3' := HF2
      have HZ2 : Hid (wr.heap.size ≤ w2.heap.size) := hide (by omega)
      have HFIN : Hid (∀ X wf vo, (k + 1 = l.length ∨ p ⟨ek, ev⟩ = true) → w.heap.size ≤ w2.heap.size → w2.heap.size ≤ wf.heap.size → Row (fun g => w.heap.size ≤ g) wf 23 1 vo (vs ++ [Value.slice ra2 NR rc2]).length (vs ++ [Value.slice ra2 NR rc2]) → FinKi w.heap.size w2.heap.size wf (vs ++ [Value.slice ra2 NR rc2]) (rows ++ [cur ++ [(⟨ek, ev⟩ : Ki)]]) → X = wf →
          Hid (FinKi w.heap.size w2.heap.size wf (vs ++ [Value.slice ra2 NR rc2]) (splK p l (k + 1)).1) ∧ Hid (Row (fun g => w2.heap.size ≤ g) wf 58 2 (.slice none 0 0) (splK p l (k + 1)).2.length (kcells (splK p l (k + 1)).2)) ∧ Hid (k + 1 = n → (splK p l (k + 1)).2 = [])) := by
        refine hide (fun X wf vo hc _ _ _ hf _ => ?_)
        have e := HST.out
        rw [if_pos hc] at e
        rw [e]
        exact ⟨hide hf, hide (Row.nil _ _ _ _), hide (fun _ => rfl)⟩
      by_cases hlast : k + 1 = n
      · have dl : ((k : Int) + 1 == (n : Int)) = true := by simp; omega
        have dln : (k + 1 == n) = true := by simp; omega
        have dlm : decide (k + 1 = n) = true := by simp; omega
        obtain ⟨oa', NL, oc', wf, R5, h1, h2, h3, h4, h5⟩ := HDONE.out w2 (Below.refl _ _)
        obtain ⟨f1, f2, f3⟩ := HFIN.out wf wf _ (.inl (by have := HN.out; omega)) h1 h2 h3 h4 rfl
        obtain ⟨s1', s2', s3'⟩ := app_runs R5
        have HH := hide (And.intro h1 h2)
        have HR3 := hide h3
        have HB5 := hide h5
        have HL := hide hlast
        clear h1 h2 h3 h4 h5 R5 HDONE HFIN hlast
        go_wp2
        go_roundw
        case rel => exact ⟨k + 1, w2.heap.size, vs ++ [Value.slice ra2 NR rc2], by omega, by simp, ⟨_, _, _, rfl⟩, ⟨_, _, _, rfl⟩, HH, HR3, f1, f2, f3, HB5⟩
        case measure => simp [intOf]; omega
      · have dl : ((k : Int) + 1 == (n : Int)) = false := by simp; omega
        have dln : (k + 1 == n) = false := by simp; omega
        have dlm : decide (k + 1 = n) = false := by simp; omega
        have hpe : p ⟨ek, ev⟩ = endsN lv ek := by rw [HP.out]
        have HPE := hide hpe
        clear hpe
        cases hb : endsN lv ek
        · rw [hb] at HCE HPE
          go_wp2_with fail
          refine HCE.out.mono ?_
          rintro e w3 ⟨rfl, b3⟩
          have hbb2 := HBb.out
          have e := HST.out
          rw [if_neg (by rw [HPE.out, ← HN.out]; simp; exact hlast)] at e
          have z3 := b3.size
          have hz2 := HZ2.out
          have HH : Hid (w.heap.size ≤ B ∧ B ≤ w3.heap.size) := hide ⟨hbb2.1, by omega⟩
          have HR3 : Hid (Row (fun g => w.heap.size ≤ g) w3 23 1 (.slice oa on oc) vs.length vs) := hide (HT3.out.onl (F := fun _ => False) (Onl.ofBelow b3) (fun _ _ q => q))
          have HF3 : Hid (FinKi w.heap.size B w3 vs (splK p l (k + 1)).1) := hide (by rw [e]; exact HF3'.out.onl (B' := B) (F := fun _ => False) (Onl.ofBelow b3) (fun _ _ _ _ _ q => q) (Nat.le_refl _))
          have HC3 : Hid (Row (fun g => B ≤ g) w3 58 2 (.slice ra2 NR rc2) (splK p l (k + 1)).2.length (kcells (splK p l (k + 1)).2)) := hide (by
            rw [e]
            have q := HR2.out.onl (F := fun _ => False) (Onl.ofBelow b3) (fun _ _ q => q)
            rw [← HNR.out] at q ⊢
            exact q)
          have HE3 : Hid (k + 1 = n → (splK p l (k + 1)).2 = []) := hide (fun q => absurd q hlast)
          have HB3 : Hid (Below w.heap.size w w3) := hide (HB2.out.trans (b3.mono HB2.out.size))
          clear b3 e HDONE HFIN
          go_wp2
          go_roundw
          case rel => exact ⟨k + 1, B, vs, by omega, by simp, ⟨_, _, _, rfl⟩, ⟨_, _, _, rfl⟩, HH, HR3, HF3, HC3, HE3, HB3⟩
          case measure => simp [intOf]; omega
        · rw [hb] at HCE HPE
          go_wp2_with fail
          refine HCE.out.mono ?_
          rintro e w3 ⟨rfl, b3⟩
          obtain ⟨oa', NL, oc', wf, R5, h1, h2, h3, h4, h5⟩ := HDONE.out w3 b3
          obtain ⟨f1, f2, f3⟩ := HFIN.out wf wf _ (.inr HPE.out) h1 h2 h3 h4 rfl
          obtain ⟨s1', s2', s3'⟩ := app_runs R5
          have HH := hide (And.intro h1 h2)
          have HR3 := hide h3
          have HB5 := hide h5
          clear h1 h2 h3 h4 h5 R5 HDONE HFIN b3
          go_wp2
          go_roundw
          case rel => exact ⟨k + 1, w2.heap.size, vs ++ [Value.slice ra2 NR rc2], by omega, by simp, ⟨_, _, _, rfl⟩, ⟨_, _, _, rfl⟩, HH, HR3, f1, f2, f3, HB5⟩
          case measure => simp [intOf]; omega
    · obtain rfl : k = n := by omega
      have hEm := HEM.out rfl
      have HX : Hid (∃ ra rc, Value.slice oa on oc = .slice ra (splitN p l).length rc ∧ RdRowsK wr ra (splitN p l) ∧ (splitN p l).length ≤ rc) := by
        refine hide ?_
        have hsp : splitN p l = (splK p l k).1 := by unfold splitN; rw [HN.out]
        rw [hsp]
        obtain ⟨a1, c1, hv1, hcc, _⟩ := HO.out.form
        rw [HF.out.1] at hv1 hcc
        refine ⟨a1, c1, hv1, fun i r hr => ?_, hcc⟩
        have hi := (List.getElem?_eq_some_iff.1 hr).1
        have hvl := HF.out.1
        obtain ⟨g, cap, hv2, _, _, _, _, hc, _⟩ := HO.out.shape (by omega)
        rw [hv1] at hv2
        injection hv2 with e1 e2 e3
        obtain ⟨v, hv⟩ : ∃ v, vs[i]? = some v := ⟨vs[i]'(by omega), List.getElem?_eq_getElem _⟩
        obtain ⟨ra3, rc3, hvf, h1, h2, h3, h4⟩ := rd_kcells (HF.out.2 i v r hv hr)
        refine ⟨g, 0, ra3, rc3, e1, ?_, h1, h2, h3, h4⟩
        rw [Nat.zero_add, hc i (by omega), hv, hvf]
      obtain ⟨ra3, rc3, hvv, hrr⟩ := HX.out
      have HRR := hide hrr
      have HVV := hide hvv
      clear hvv hrr hEm HX
      go_wp2
      go_ret
      refine ⟨ra3, rc3, ?_, HRR.out.1, HB.out, HRR.out.2⟩
      rw [← HVV.out]
      rfl
end Go.Proofs.Ytandjkogpdamcaa
