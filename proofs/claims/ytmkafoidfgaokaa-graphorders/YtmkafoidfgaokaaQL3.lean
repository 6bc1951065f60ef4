/- A step of the way. Over the translation. The program's Log. Over the translation. -/
import Derived.Carry
import Derived.Test.YtmkafoidfgaokaaQVWy
namespace Go.Proofs.Ytmkafoidfgaokaa
open Go.RowKit Apo
set_option maxRecDepth 100000 in
theorem fin_Step {W : World} {g : Nat} {c0 c1 c2 c3 c4 : Value} {tmps : Array Value} {Q : Ending → World → Prop} (k : Ob W g 32 [c0, c1, c2, c3, c4]) (h2 : tmps.getD 2 undef = .pointer (some ⟨g, 0, none⟩)) (hq : Q (.returned (.agg #[c0, c1, c2, c3, c4])) W) :
    bodyPost Try.prog Try.f46 Q Exit.ret { tmps := tmps, defers := [] } W := by
  have hl := run_loadVar_row (P := Try.prog) W g 32 32 #[c0, c1, c2, c3, c4] (0, 0) _ k Try.underlying32 rfl (by rw [size_CmG]; rfl)
  have h2' : tmps[2]?.getD undef = .pointer (some ⟨g, 0, none⟩) := by simpa using h2
  refine bodyPost_ret (v := .agg #[c0, c1, c2, c3, c4]) ?_ rfl hq
  simp [results, Try.results46, asAddr, h2', hl]
/-- what a step tells -/
def StP (w0 w : World) (p bm : Nat) (m : Option Nat) (O : Nat → Prop) (X : List CmA) (l : List Cm) (id : Int) (P : List Cm) (e : Ending) (w' : World) : Prop :=
  ∃ r : CmA, e = .returned (aggC r) ∧ r ∈ X ∧ MtP w0 w p bm m O X l id (P ++ [r.c]) w'
theorem ltQ_leC {r y : CmA} (h : ltQ y r = false) : leC r.c y.c := by
  unfold leC aheadB
  unfold ltQ at h
  rw [h]
  rfl
set_option maxRecDepth 100000 in
set_option maxHeartbeats 8000000 in
theorem step_any {w0 w : World} {p bm : Nat} {m : Option Nat} {O : Nat → Prop} {X F d : List CmA} {l : List Cm} {id : Int} {P : List Cm} (h : Wy w0 w p bm m O X F d) (hX : CsO w0 m X) (hl : X.length ≤ 1000) (G : Gok l) (hget : ∀ z, getG l z = (fX X z).map CmA.c)
    (hI : WayI l id P (d.map CmA.c) (idsX F) []) (hd : 0 < d.length) :
    Calls Try.prog 46 #[.pointer (some ⟨p, 0, none⟩)] w (StP w0 w p bm m O X l id P) := by
  obtain ⟨W1, hW1⟩ : ∃ W1, W1 = w.alloc (.cells #[.int .u64 0, .slice none 0 0, .int .u64 0, .int .u64 0, .string ⟨#[]⟩] 32) := ⟨_, rfl⟩
  have b1 : Below w.heap.size w W1 := by rw [hW1]; exact (Below.refl _ _).alloc (Nat.le_refl _) _
  have k1 : Ob W1 w.heap.size 32 [.int .u64 0, .slice none 0 0, .int .u64 0, .int .u64 0, .string ⟨#[]⟩] := by rw [hW1]; exact Ob.new w [.int .u64 0, .slice none 0 0, .int .u64 0, .int .u64 0, .string ⟨#[]⟩] 32
  have h1 := h.old b1
  obtain ⟨r, hr⟩ : ∃ r, r = fq d 0 := ⟨_, rfl⟩
  have hr0 : d[0]? = some r := by rw [hr]; exact fq_at hd
  have hrX : r ∈ X := h.sd r (List.mem_of_getElem? hr0)
  obtain ⟨g, n, c, ex, hq, hOg, hx, hn, hnc, hcm⟩ := h1.q.qu hd
  obtain ⟨a0, a1, a2, a3, a4⟩ := hq.ro.cells hr0
  rw [Nat.zero_mul] at a0
  simp only [Nat.zero_mul, Nat.zero_add] at a1 a2 a3 a4
  have x2 := hq.ob.cell 2
  simp only [List.getElem?_cons_zero, List.getElem?_cons_succ] at x2
  have hdl : d.length ≤ 1000 := by
    have q1 := hI.perm.length_eq
    have q2 := sub_len h.sF h.no (fun y hy => (hX.cm.1 y (h.sF y hy)).sz.1.1)
    simp only [List.length_map, List.length_append, idsX] at q1
    omega
  obtain ⟨md, hmd⟩ : ∃ md, d.length = md + 1 := ⟨d.length - 1, by omega⟩
  obtain ⟨W2, hW2⟩ : ∃ W2, W2 = W1.alloc (.cells #[.int .u64 r.c.id, .slice r.a r.c.ps.length r.cap, .int .u64 r.c.gen, .int .u64 r.c.root, .string r.c.tx] 32) := ⟨_, rfl⟩
  have b2 : Below W1.heap.size W1 W2 := by rw [hW2]; exact (Below.refl _ _).alloc (Nat.le_refl _) _
  have s1 : W1.heap.size = w.heap.size + 1 := by rw [hW1]; simp
  have k2 : Ob W2 (w.heap.size + 1) 32 [.int .u64 r.c.id, .slice r.a r.c.ps.length r.cap, .int .u64 r.c.gen, .int .u64 r.c.root, .string r.c.tx] := by
    rw [hW2, ← s1]; exact Ob.new W1 [.int .u64 r.c.id, .slice r.a r.c.ps.length r.cap, .int .u64 r.c.gen, .int .u64 r.c.root, .string r.c.tx] 32
  have h2 := h1.old b2
  have HPOP := hide (hpop h2.q (by omega) hmd h2.hp)
  have B2 : Below w.heap.size w W2 := b1.trans (b2.mono (by omega))
  have k12 := k1.old b2
  have hnd : n = md + 1 := by omega
  have hrd := (hX.cm.1 r hrX)
  have HNX : Hid (∀ w3 d3, Qe w3 p (.map m, .map (some bm)) (Gro O W2 w3) d3 → (r :: d3).Perm d → Hp.HeapFrom ltQ (fq d3) d3.length 0 → (∀ y ∈ d3, ltQ y r = false) → Onl O W2 w3 →
      Ob w3 w.heap.size 32 [.int .u64 0, .slice none 0 0, .int .u64 0, .int .u64 0, .string ⟨#[]⟩] ∧ Ob w3 (w.heap.size + 1) 32 [.int .u64 r.c.id, .slice r.a r.c.ps.length r.cap, .int .u64 r.c.gen, .int .u64 r.c.root, .string r.c.tx] ∧
      Calls Try.prog 45 #[.pointer (some ⟨p, 0, none⟩), .slice r.a r.c.ps.length r.cap] w3 fun e w' => e = .returned (.tuple #[]) ∧ Ob w' w.heap.size 32 [.int .u64 0, .slice none 0 0, .int .u64 0, .int .u64 0, .string ⟨#[]⟩] ∧ Ob w' (w.heap.size + 1) 32 [.int .u64 r.c.id, .slice r.a r.c.ps.length r.cap, .int .u64 r.c.gen, .int .u64 r.c.root, .string r.c.tx] ∧ ∀ w'', Onl (fun i => i = w.heap.size) w' w'' → StP w0 w p bm m O X l id P (.returned (aggC r)) w'') := hide (by
    intro w3 d3 q3 p3 f3 y3 o3
    have hnO : ∀ k, w.heap.size ≤ k → ¬ O k := fun k hk hO => by have := h.q.lt k hO; omega
    have k13 := k12.onl o3 (hnO _ (Nat.le_refl _))
    have k23 := k2.onl o3 (hnO _ (by omega))
    have hs2 : W2.heap.size = w.heap.size + 2 := by rw [hW2]; simp [s1]
    have h3 : Wy w0 w3 p bm m (Gro O W2 w3) X F d3 := ⟨Below.onl h2.b o3 h.lo (Nat.le_refl _), q3, f3, h2.mp.onl o3 h.nb, h.no, h.sF, fun y hy => h.sd y (p3.mem_iff.1 (List.mem_cons_of_mem _ hy)), fun j hj => hj.elim (h.lo j) (fun q => Nat.le_trans h2.b.size q.1), h.lb, fun hj => hj.elim h.nb (fun q => by have := h2.mp.lt; omega)⟩
    have hI3 : WayI l id (P ++ [r.c]) (d3.map CmA.c) (idsX F) r.c.ps := hI.pop G (by have := p3.map CmA.c; rw [List.map_cons] at this; exact this) (fun y hy => by
      obtain ⟨y', hy', rfl⟩ := List.mem_map.1 hy
      exact ltQ_leC (y3 y' hy'))
    have hrow : ∀ W, Onl (fun k => Gro O W2 w3 k ∨ k = bm) w3 W → Rd .u64 W r.a r.c.ps := fun W hW => by
      have hb : Below w0.heap.size w0 W := Below.onl h3.b hW (fun i q => q.elim (h3.lo i) (fun e => by rw [e]; exact h.lb)) (Nat.le_refl _)
      exact hrd.rd.below hb
    refine ⟨k13, k23, (meet_any (tc := r.cap) h3 hX hl G hget hI3 hrow hrd.sz.2.1 (by have := (hX.cm.2.1 r hrX).2; omega)).mono ?_⟩
    rintro e w4 ⟨rfl, O4, F4, d4, m1, m2, m3, m4⟩
    have hbm : bm < w.heap.size := h.mp.lt
    have hnG : ∀ k, (k = w.heap.size ∨ k = w.heap.size + 1) → ¬ (Gro O W2 w3 k ∨ k = bm) := fun k hk hq => by
      rcases hq with (q | q) | q
      · exact hnO k (by omega) q
      · omega
      · omega
    have k14 := k13.onl m4 (hnG _ (.inl rfl))
    have k24 := k23.onl m4 (hnG _ (.inr rfl))
    refine ⟨rfl, k14, k24, fun w5 o5 => ⟨r, rfl, hrX, O4, F4, d4, ?_, m2, ?_, ?_⟩⟩
    · have hnO4 : ∀ j, O4 j → j ≠ w.heap.size := fun j hj e => by
        rcases m3 j hj with q | q
        · exact hnG j (.inl e) (.inl q)
        · have := o3.size; omega
      have hw0 : w0.heap.size ≤ w.heap.size := h.b.size
      exact ⟨Below.onl m1.b o5 (fun i q => by omega) (Nat.le_refl _), m1.q.onl o5 hnO4, m1.hp, m1.mp.onl o5 (by omega), m1.no, m1.sF, m1.sd, m1.lo, m1.lb, m1.nb⟩
    · intro j hj
      rcases m3 j hj with (q | q) | q
      · exact .inl q
      · right; omega
      · right; have := o3.size; omega
    · have o34 : Onl (fun k => O k ∨ k = bm) w w4 := by
        refine Onl.more (b := w3) ?_ m4 ?_
        · exact (Onl.ofBelow B2).trans (o3.mono (fun i q => .inl q))
        · rintro i ((q | q) | q)
          · exact .inl (.inl q)
          · right; omega
          · exact .inl (.inr q)
      exact o34.more o5 (fun i q => .inr (by omega)))
  obtain ⟨np, hnp⟩ : ∃ np, np = r.c.ps.length := ⟨_, rfl⟩
  have HR := hide hr
  have hgz : n ≤ 2000000 := by omega
  unfold aggC at HPOP
  subst hnd
  rw [hW2, hW1] at HPOP
  rw [hW1] at x2 a0 a1 a2 a3 a4
  have HW2 := hide (show W2 = (w.alloc (.cells #[.int .u64 0, .slice none 0 0, .int .u64 0, .int .u64 0, .string ⟨#[]⟩] 32)).alloc (.cells #[.int .u64 r.c.id, .slice r.a r.c.ps.length r.cap, .int .u64 r.c.gen, .int .u64 r.c.root, .string r.c.tx] 32) by rw [hW2, hW1])
  clear h hX hl G hget hI hd b1 k1 h1 hr0 hrX hq hOg hx hn hnc hcm hdl hmd hW2 hW1 b2 s1 k2 h2 B2 k12 hrd hnp hr
  go_enter Try.func46, Try.ntmps46
  go_wp2_with fail
  refine HPOP.out.mono ?_
  rintro e w3 ⟨rr, d3, e2, rfl, q3, p3, _, f3, y3, o3⟩
  rw [← HR.out] at e2
  subst e2
  rw [← HW2.out] at q3 o3
  obtain ⟨k13, k23, hm⟩ := HNX.out w3 d3 q3 p3 f3 y3 o3
  have z1 := k23.cell 1
  simp only [List.getElem?_cons_zero, List.getElem?_cons_succ] at z1
  have HM := hide hm
  clear q3 p3 f3 y3 o3 k13 k23 hm HPOP HNX x2 a0 a1 a2 a3 a4
  go_wp2_with fail
  refine HM.out.mono ?_
  rintro e w4 ⟨rfl, k14, k24, hF⟩
  have u0 := k24.cell 0
  have u1 := k24.cell 1
  have u2 := k24.cell 2
  have u3 := k24.cell 3
  have u4 := k24.cell 4
  have r0 := k14.cell 0
  have r1 := k14.cell 1
  have r2 := k14.cell 2
  have r3 := k14.cell 3
  have r4 := k14.cell 4
  have p0 := k14.frozen 0
  have p1 := k14.frozen 1
  have p2 := k14.frozen 2
  have p3 := k14.frozen 3
  have p4 := k14.frozen 4
  simp only [List.getElem?_cons_zero, List.getElem?_cons_succ] at u0 u1 u2 u3 u4 r0 r1 r2 r3 r4
  have HF := hide hF
  have HK := hide k14
  clear hF k14 k24 HM z1
  go_wp2
  obtain ⟨WF, hWF⟩ : ∃ WF, WF = ((((w4.setCell ⟨w.heap.size, 0, none⟩ (.int .u64 rr.c.id)).setCell ⟨w.heap.size, 1, none⟩ (.slice rr.a rr.c.ps.length rr.cap)).setCell ⟨w.heap.size, 2, none⟩ (.int .u64 rr.c.gen)).setCell ⟨w.heap.size, 3, none⟩ (.int .u64 rr.c.root)).setCell ⟨w.heap.size, 4, none⟩ (.string rr.c.tx) := ⟨_, rfl⟩
  obtain ⟨kF, oF⟩ := ob_store5 HK.out hWF
  rw [← hWF]
  exact fin_Step kF rfl (HF.out WF oF)
end Go.Proofs.Ytmkafoidfgaokaa
namespace Go.Proofs.Ytmkafoidfgaokaa
open Go.RowKit Apo
/-- what Log tells -/
def LgQ (w : World) (l' : List Cm) (e : Ending) (w' : World) : Prop := ∃ (a : Option Addr) (n c : Nat) (S : List CmA), e = .returned (.slice a n c) ∧ n = S.length ∧ S.map CmA.c = l' ∧ (∀ x ∈ S, CmR w' x.c x.a x.cap) ∧ RdG cCm 5 w' a S ∧ Below w.heap.size w w' ∧ n ≤ c ∧ c ≤ 9223372036854775807
/-- what holds while the log is told: S told, in a row of its own -/
structure LgI (w wr : World) (p bm : Nat) (m : Option Nat) (X : List CmA) (l : List Cm) (id : Int) (S : List CmA) (a : Option Addr) (c : Nat) (O : Nat → Prop) (F d : List CmA) : Prop where
  wy : Wy w wr p bm m O X F d
  wi : WayI l id (S.map CmA.c) (d.map CmA.c) (idsX F) []
  row : Row (fun g => w.heap.size ≤ g ∧ ¬ O g ∧ g ≠ bm) wr 32 5 (.slice a S.length c) S.length (gcells cCm S)
  cm : ∀ y ∈ S, CmR wr y.c y.a y.cap ∧ ∀ ad, y.a = some ad → 0 < y.c.ps.length → w.heap.size ≤ ad.block ∧ ¬ O ad.block ∧ ad.block ≠ bm ∧ (Value.slice a S.length c).ownBlock ≠ some ad.block
section
variable {w wr : World} {p bm : Nat} {m : Option Nat} {X : List CmA} {l : List Cm} {id : Int} {S : List CmA} {a : Option Addr} {c : Nat} {O : Nat → Prop} {F d : List CmA}
theorem LgI.few (h : LgI w wr p bm m X l id S a c O F d) (hX : CsO w m X) : S.length + d.length ≤ X.length := by
  have q1 := h.wi.perm.length_eq
  have q2 := sub_len h.wy.sF h.wy.no (fun y hy => (hX.cm.1 y (h.wy.sF y hy)).sz.1.1)
  simp only [List.length_map, List.length_append, idsX] at q1
  omega
/-- at its end -/
theorem LgI.fin (h : LgI w wr p bm m X l id S a c O F d) (G : Gok l) {most : Int} (hm : S = [] ∨ (S.length : Int) ≤ most) (he : d = [] ∨ ¬ (S.length : Int) < most) : LgQ w (logG l id most) (.returned (.slice a S.length c)) wr := by
  obtain ⟨q1, q2⟩ := h.wi.log G
  have hcap : S.length ≤ c ∧ c ≤ 9223372036854775807 := by
    obtain ⟨a', c', hv, h1, h2, _, _⟩ := h.row.form
    injection hv with e1 e2 e3
    subst e3
    unfold maxLen at h2
    omega
  refine ⟨a, _, c, S, rfl, rfl, ?_, fun y hy => (h.cm y hy).1, ?_, h.wy.b, hcap⟩
  · unfold logG
    rcases he with e | e
    · have q3 := q2 (by rw [e]; rfl)
      rw [← q3]
      have hl : (S.map CmA.c).length ≤ most.toNat := by
        rw [List.length_map]
        rcases hm with e2 | e2
        · rw [e2]; simp
        · omega
      rw [List.take_of_length_le hl]
    · rw [q1, List.length_map]
      congr 1
      rcases hm with e2 | e2
      · subst e2
        simp only [List.length_nil] at e ⊢
        omega
      · omega
  · obtain ⟨a2, c2, hv, rd, _, _, _, _⟩ := rd_gcells cCm_len h.row
    injection hv with e1 e2 e3
    subst e1
    exact rd
/-- one more is told -/
theorem LgI.more (h : LgI w wr p bm m X l id S a c O F d) (hX : CsO w m X) (hl : X.length ≤ 1000) {r : CmA} {w5 w6 : World} {y : CmA} (hm : MtP w wr p bm m O X l id (S.map CmA.c ++ [r.c]) w5) (hy : OwP r w5.heap.size w5 w6 y) :
    ∃ a' c' w7 O' F' d', (Builtin.append_ #[22, 22] 22 #[.slice a S.length c, .slice (some ⟨w6.heap.size, 0, none⟩) 1 1]).run Try.prog (w6.alloc (.cells #[.int .u64 y.c.id, .slice y.a y.c.ps.length y.cap, .int .u64 y.c.gen, .int .u64 y.c.root, .string y.c.tx] 32)) = .ok (.slice a' (S ++ [y]).length c') w7 ∧ LgI w w7 p bm m X l id (S ++ [y]) a' c' O' F' d' := by
  obtain ⟨O', F', d', m1, m2, m3, m4⟩ := hm
  obtain ⟨y1, y2, y3, y4, y5⟩ := hy
  have hf := h.few hX
  have hw5 := m4.size
  have hw6 := y5.size
  have hbmw : bm < wr.heap.size := h.wy.mp.lt
  have hrl : ∀ g, (Value.slice a S.length c).ownBlock = some g → g < wr.heap.size := fun g hg => h.row.lt g hg
  have row5 := h.row.onl m4 (fun g hg q => by
    have := h.row.2 g hg
    exact q.elim this.2.1 this.2.2)
  have bA : Below w5.heap.size w5 (w6.alloc (.cells #[.int .u64 y.c.id, .slice y.a y.c.ps.length y.cap, .int .u64 y.c.gen, .int .u64 y.c.root, .string y.c.tx] 32)) := y5.alloc hw6 _
  have row6 := row5.onl (F := fun _ => False) (Onl.ofBelow bA) (fun _ _ q => q)
  have rA : RdG cCm 5 (w6.alloc (.cells #[.int .u64 y.c.id, .slice y.a y.c.ps.length y.cap, .int .u64 y.c.gen, .int .u64 y.c.root, .string y.c.tx] 32)) (some ⟨w6.heap.size, 0, none⟩) [y] := rd_lit (c := cCm) (k := 5) 32 w6 y
  obtain ⟨v7, w7, R7, r7, o7, hv7⟩ := app_cm (cp := 1) row6 (by simp; omega) rA
  have hz6 : (w6.alloc (.cells #[.int .u64 y.c.id, .slice y.a y.c.ps.length y.cap, .int .u64 y.c.gen, .int .u64 y.c.root, .string y.c.tx] 32)).heap.size = w6.heap.size + 1 := by simp
  obtain ⟨a7, c7, rfl, _⟩ := r7.form
  refine ⟨a7, c7, w7, O', F', d', R7, ?_⟩
  have hO'n : ∀ g, g < wr.heap.size → ¬ O g → ¬ O' g := fun g hg hn hO => (m3 g hO).elim hn (fun q => by omega)
  have hvO : ∀ g, (Value.slice a S.length c).ownBlock = some g → ¬ O' g ∧ g ≠ bm := fun g hg => ⟨hO'n g (hrl g hg) (h.row.2 g hg).2.1, (h.row.2 g hg).2.2⟩
  have wy6 := m1.old bA
  have hvlo : ∀ g, (Value.slice a S.length c).ownBlock = some g → w.heap.size ≤ g := fun g hg => (h.row.2 g hg).1
  have hkeep : ∀ {z : CmA}, CmR (w6.alloc (.cells #[.int .u64 y.c.id, .slice y.a y.c.ps.length y.cap, .int .u64 y.c.gen, .int .u64 y.c.root, .string y.c.tx] 32)) z.c z.a z.cap → (∀ ad, z.a = some ad → 0 < z.c.ps.length → (Value.slice a S.length c).ownBlock ≠ some ad.block) → CmR w7 z.c z.a z.cap := fun hz hn => hz.onl o7 (fun ad h1 h2 e => hn ad h1 h2 e)
  have hlt7 : ∀ {z : CmA} {W : World}, CmR W z.c z.a z.cap → ∀ ad, z.a = some ad → 0 < z.c.ps.length → ad.block < W.heap.size := fun hz ad h1 h2 => by
    have h3 := hz.rd
    rw [h1] at h3
    exact h3.lt h2
  refine ⟨⟨Below.onl wy6.b o7 hvlo (Nat.le_refl _), wy6.q.onl o7 (fun j hj hq => (hvO j hq).1 hj), wy6.hp, wy6.mp.onl o7 (fun hq => (hvO bm hq).2 rfl), wy6.no, wy6.sF, wy6.sd, wy6.lo, wy6.lb, wy6.nb⟩, ?_, ⟨r7.1, fun g hg => ?_⟩, ?_⟩
  · rw [List.map_append, List.map_singleton, y1]
    exact m2
  · rcases hv7 g hg with q | q
    · exact ⟨hvlo g q, (hvO g q).1, (hvO g q).2⟩
    · refine ⟨by have := wy6.b.size; omega, fun hO => by have := wy6.q.lt g hO; omega, by omega⟩
  · intro z hz
    rcases List.mem_append.1 hz with q | q
    · obtain ⟨z1, z2⟩ := h.cm z q
      have z5 : CmR w5 z.c z.a z.cap := z1.onl m4 (fun ad h1 h2 e => (z2 ad h1 h2).2.1 (e.elim (fun s => s) (fun s => absurd s (z2 ad h1 h2).2.2.1)))
      refine ⟨hkeep (z5.below bA) (fun ad h1 h2 => (z2 ad h1 h2).2.2.2), fun ad h1 h2 => ?_⟩
      have hlt := hlt7 z1 ad h1 h2
      refine ⟨(z2 ad h1 h2).1, hO'n _ hlt (z2 ad h1 h2).2.1, (z2 ad h1 h2).2.2.1, fun e => ?_⟩
      rcases hv7 _ e with s | s
      · exact (z2 ad h1 h2).2.2.2 s
      · omega
    · rw [List.mem_singleton.1 q]
      have hn : ∀ ad, y.a = some ad → 0 < y.c.ps.length → (Value.slice a S.length c).ownBlock ≠ some ad.block := fun ad h1 _ e => by
        have := y4 ad h1
        have := hrl _ e
        omega
      refine ⟨hkeep (y2.below ((Below.refl _ _).alloc (Nat.le_refl _) _)) hn, fun ad h1 h2 => ?_⟩
      have hlt := hlt7 y2 ad h1 h2
      have h4 := y4 ad h1
      refine ⟨by have := h.wy.b.size; omega, fun hO => by have := m1.q.lt _ hO; omega, by omega, fun e => ?_⟩
      rcases hv7 _ e with s | s
      · exact hn ad h1 h2 s
      · omega
end
def lnV : Value → Nat
  | .slice _ n _ => n
  | _ => 0
attribute [local go_sem ↓] Apo.app_exec
set_option maxRecDepth 100000 in
set_option maxHeartbeats 8000000 in
theorem logp_any {w : World} {v : Value} {m : Option Nat} {X : List CmA} {l : List Cm} (h : Gv w v m X l) (G : Gok l) {id : Int} (hid : 0 ≤ id ∧ id ≤ 18446744073709551615) (most : Int) :
    Calls Try.prog 27 #[v, .int .u64 id, .int .i64 most] w (LgQ w (logG l id most)) := by
  have HC := hide (h.com w (Below.refl _ _))
  have HX := hide h.cs
  have HL := hide h.few
  have HGET : Hid (∀ z, getG l z = (fX X z).map CmA.c) := hide h.get
  have HGK := hide G
  obtain ⟨W1, hW1⟩ : ∃ W1, W1 = w.alloc (.map #[] 0) := ⟨_, rfl⟩
  have s1 : W1.heap.size = w.heap.size + 1 := by rw [hW1]; simp
  obtain ⟨W2, hW2⟩ : ∃ W2, W2 = W1.alloc (.cells #[.map m, .map (some w.heap.size), .slice none 0 0] 78) := ⟨_, rfl⟩
  have s2 : W2.heap.size = w.heap.size + 2 := by rw [hW2]; simp [s1]
  obtain ⟨W3, hW3⟩ : ∃ W3, W3 = W2.alloc (.cells #[.int .u64 id] 23) := ⟨_, rfl⟩
  have b1 : Below w.heap.size w W1 := by rw [hW1]; exact (Below.refl _ _).alloc (Nat.le_refl _) _
  have b2 : Below W1.heap.size W1 W2 := by rw [hW2]; exact (Below.refl _ _).alloc (Nat.le_refl _) _
  have b3 : Below W2.heap.size W2 W3 := by rw [hW3]; exact (Below.refl _ _).alloc (Nat.le_refl _) _
  have k2 : Ob W2 (w.heap.size + 1) 78 [.map m, .map (some w.heap.size), .slice none 0 0] := by
    rw [hW2, ← s1]; exact Ob.new W1 [.map m, .map (some w.heap.size), .slice none 0 0] 78
  have cs1 : Cs W1 w.heap.size [] := by rw [hW1]; exact Cs.new w
  have b23 := b2.trans (b3.mono (by omega))
  have h3 : Wy w W3 (w.heap.size + 1) w.heap.size m (fun k => k = w.heap.size + 1) X [] [] :=
    ⟨b1.trans (b23.mono b1.size), ⟨rfl, fun k hk => by have := b3.size; omega, none, 0, 0, rfl, k2.old b3, Row.nil _ _ _ _⟩, fun k hk0 hk => by simp at hk, (cs1.old b23).mp, List.Pairwise.nil, by simp, by simp, fun k hk => by omega, Nat.le_refl _, by omega⟩
  have hrd : Rd .u64 W3 (some ⟨w.heap.size + 2, 0, none⟩) [id] := by rw [hW3, ← s2]; exact rd_lit1 .u64 W2 23 id
  have HME := hide (meet_any (tc := 1) h3 h.cs h.few G h.get (WayI.start l id) (ta := some ⟨w.heap.size + 2, 0, none⟩) (fun W hW => hrd.onl hW (fun ad e _ => by cases e; simp only; omega)) (by intro z hz; simp at hz; subst hz; omega) (by simp))
  simp only [List.length_singleton] at HME
  rw [hW3, hW2, hW1] at HME
  have hs3 : w.heap.size < W3.heap.size := by have := b3.size; omega
  have hmm := @run_makeMap Try.prog
  clear h G hid b1 b2 b3 k2 cs1 b23 h3 hrd hs3 s1 s2 hW1 hW2 hW3
  go_enter Try.func27, Try.ntmps27
  go_wp2_with fail
  refine HC.out.mono ?_
  rintro e w1 ⟨rfl, rfl⟩
  go_wp2_with fail
  refine HME.out.mono ?_
  rintro e w4 ⟨rfl, O4, F4, d4, m1, m2, _, _⟩
  have HI : Hid (LgI w w4 (w.heap.size + 1) w.heap.size m X l id [] none 0 O4 F4 d4) := hide ⟨m1, m2, Row.nil _ _ _ _, by simp⟩
  clear m1 m2 HME HC
  go_wp2
  go_loopw [8] (fun v wr => ∃ (S : List CmA) (a : Option Addr) (n c : Nat) (O : Nat → Prop) (F d : List CmA), v = .slice a n c ∧ n ≤ X.length ∧ Hid (n = S.length) ∧ Hid (S = [] ∨ (S.length : Int) ≤ most) ∧ Hid (LgI w wr (w.heap.size + 1) w.heap.size m X l id S a c O F d)) (fun v _ => X.length - lnV v)
  case atStart => exact ⟨[], none, 0, 0, O4, F4, d4, rfl, Nat.zero_le _, hide rfl, hide (.inl rfl), HI⟩
  case round =>
    clear HI
    obtain ⟨S, a, n, c, O, F, d, rfl, hnX, HN, HM, HI⟩ := hrel
    obtain ⟨qa, qn, qc, hqn, ob, _⟩ := HI.out.wy.q.mem
    have p2 := ob.cell 2
    simp only [List.getElem?_cons_zero, List.getElem?_cons_succ] at p2
    have hfew := HI.out.few HX.out
    have hnS := HN.out
    rcases Nat.eq_zero_or_pos d.length with hd0 | hd0
    · have hd : d = [] := List.eq_nil_of_length_eq_zero hd0
      obtain rfl : qn = 0 := by omega
      have HF := hide (HI.out.fin HGK.out HM.out (.inl hd))
      rw [← HN.out] at HF
      clear ob hqn hd hd0 hfew hnS HI
      go_wp2
      go_ret
      exact HF.out
    · have hq0 : decide ((0 : Int) < (qn : Int)) = true := by simp; omega
      have hq1 : 0 < qn := by omega
      by_cases hlm : (n : Int) < most
      · have HST := hide (step_any HI.out.wy HX.out HL.out HGK.out HGET.out HI.out.wi hd0)
        have HLT : Hid (n < X.length) := hide (by omega)
        have HLM : Hid ((n : Int) < most) := hide hlm
        have HMO : Hid (∀ (r : CmA) w5, r ∈ X → MtP w wr (w.heap.size + 1) w.heap.size m O X l id (S.map CmA.c ++ [r.c]) w5 → CmR w5 r.c r.a r.cap ∧ (r.a = none → r.cap = 0) ∧ r.c.ps.length ≤ 2) := hide (fun r w5 hr hm => by
          obtain ⟨_, _, _, q1, _, _, _⟩ := hm
          exact ⟨(HX.out.cm.1 r hr).below q1.b, HX.out.cm.2.1 r hr⟩)
        clear ob hqn hd0 hfew hnS
        go_wp2_with fail
        refine HST.out.mono ?_
        rintro e w5 ⟨r, rfl, hrX, hm⟩
        obtain ⟨r1, r2, r3⟩ := HMO.out r w5 hrX hm
        have HOW := hide (own_any r r1 r2 r3)
        have HMT := hide hm
        clear r1 r2 r3 hm hrX HST HMO
        go_wp2_with fail
        refine HOW.out.mono ?_
        rintro e w6 ⟨y, rfl, hy⟩
        obtain ⟨a', c', w7, O', F', d', R7, hI7⟩ := HI.out.more HX.out HL.out HMT.out hy
        have HI7 := hide hI7
        have hls : (S ++ [y]).length = n + 1 := by rw [List.length_append, List.length_singleton, ← HN.out]
        have HN7 : Hid (n + 1 = (S ++ [y]).length) := hide hls.symm
        have HM7 : Hid (S ++ [y] = [] ∨ ((S ++ [y]).length : Int) ≤ most) := hide (.inr (by have := HLM.out; omega))
        rw [hls, ← HN.out] at R7
        obtain ⟨z1, z2, z3⟩ := app_runs R7
        have hX1 := HLT.out
        clear hy hI7 R7 hls HOW HMT HI HM HN p2 hlm
        unfold aggC
        generalize y.c.ps.length = np at *
        go_wp2
        go_roundw
        case rel => exact ⟨S ++ [y], a', n + 1, c', O', F', d', rfl, hX1, HN7, HM7, HI7⟩
        case measure => simp only [lnV]; omega
      · have HF := hide (HI.out.fin HGK.out HM.out (.inr (by rw [← HN.out]; exact hlm)))
        rw [← HN.out] at HF
        have hlm2 : decide ((n : Int) < most) = false := by simpa using hlm
        clear ob hqn hd0 hfew hnS HI
        go_wp2
        go_ret
        exact HF.out
end Go.Proofs.Ytmkafoidfgaokaa
