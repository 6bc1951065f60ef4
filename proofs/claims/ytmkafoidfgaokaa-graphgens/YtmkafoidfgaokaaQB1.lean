/- Maps of commits by their Ids, in memory. Over the translation. A commit with parents of its own; which commits a graph has. Over the translation. The program's graph in memory: New, commits, Get. Over the translation. -/
import Derived.BigRegion
import Derived.BigQuiet
import Derived.Carry
import Derived.Shelf.SlMaps.Clone
import Derived.Test.YtmkafoidfgaokaaQA9
import Derived.Test.YtmkafoidfgaokaaQA8
import Derived.Test.YtmkafoidfgaokaaQA7
namespace Go.Proofs.Ytmkafoidfgaokaa
open Go.RowKit Apo
/-- the commit of an Id -/
def fX (X : List CmA) (id : Int) : Option CmA := X.find? (fun x => x.c.id == id)
def mC (X : List CmA) : Nat → Option Value := fun i => if i < 18446744073709551616 then (fX X (i : Int)).map aggC else none
def zeroA : CmA := ⟨zeroCm, none, 0⟩
/-- no Id twice -/
def NoTw (X : List CmA) : Prop := X.Pairwise (fun x y => x.c.id ≠ y.c.id)
theorem NoTw.perm {X Y : List CmA} (h : NoTw X) (p : X.Perm Y) : NoTw Y := (p.pairwise_iff (fun {_ _} q => Ne.symm q)).1 h
theorem NoTw.eq : ∀ {X : List CmA} (_ : NoTw X) {x y : CmA} (_ : x ∈ X) (_ : y ∈ X) (_ : x.c.id = y.c.id), x = y
  | [], _, _, _, hx, _, _ => by cases hx
  | z :: X, h, x, y, hx, hy, e => by
    unfold NoTw at h
    rw [List.pairwise_cons] at h
    rcases List.mem_cons.1 hx with q | q
    · rcases List.mem_cons.1 hy with r | r
      · rw [q, r]
      · subst q
        exact absurd e (h.1 y r)
    · rcases List.mem_cons.1 hy with r | r
      · subst r
        exact absurd e.symm (h.1 x q)
      · exact NoTw.eq h.2 q r e
theorem fX_some {X : List CmA} {id : Int} {x : CmA} (h : fX X id = some x) : x ∈ X ∧ x.c.id = id := by
  unfold fX at h
  exact ⟨List.mem_of_find?_eq_some h, by simpa using List.find?_some h⟩
theorem fX_none {X : List CmA} {id : Int} (h : fX X id = none) : ∀ x ∈ X, x.c.id ≠ id := by
  unfold fX at h
  rw [List.find?_eq_none] at h
  intro x hx
  simpa using h x hx
theorem fX_is {X : List CmA} (h : NoTw X) {x : CmA} (hx : x ∈ X) : fX X x.c.id = some x := by
  cases hq : fX X x.c.id with
  | none => exact absurd rfl (fX_none hq x hx)
  | some y =>
    obtain ⟨h1, h2⟩ := fX_some hq
    rw [h.eq h1 hx h2]
theorem fX_no {X : List CmA} {id : Int} (h : ∀ x ∈ X, x.c.id ≠ id) : fX X id = none := by
  cases hq : fX X id with
  | none => rfl
  | some y => exact absurd (fX_some hq).2 (h y (fX_some hq).1)
theorem fX_ext {X Y : List CmA} (hX : NoTw X) (h : ∀ x, x ∈ X ↔ x ∈ Y) (id : Int) : fX X id = fX Y id := by
  cases hq : fX Y id with
  | none => exact fX_no (fun x hx => fX_none hq x ((h x).1 hx))
  | some y =>
    obtain ⟨h1, h2⟩ := fX_some hq
    rw [← h2]
    exact fX_is hX ((h y).2 h1)
/-- the same commits, pure -/
theorem fX_get {X : List CmA} {l : List Cm} (hp : (X.map CmA.c).Perm l) (hr : l.Pairwise (fun a b => a.id < b.id)) (id : Int) : getG l id = (fX X id).map CmA.c := by
  have hm : ∀ c, c ∈ l ↔ ∃ x ∈ X, x.c = c := fun c => by rw [← hp.mem_iff, List.mem_map]
  cases hq : fX X id with
  | none =>
    refine (getG_no (fun c hc => ?_)).1
    obtain ⟨x, hx, rfl⟩ := (hm c).1 hc
    exact fX_none hq x hx
  | some x =>
    obtain ⟨h1, h2⟩ := fX_some hq
    rw [← h2]
    exact getG_is hr ((hm _).2 ⟨x, h1, rfl⟩)
theorem noTw_of {X : List CmA} {l : List Cm} (hp : (X.map CmA.c).Perm l) (hr : l.Pairwise (fun a b => a.id < b.id)) : NoTw X := by
  have h1 : l.Pairwise (fun a b => a.id ≠ b.id) := hr.imp (fun q => by omega)
  have h2 := (hp.pairwise_iff (R := fun a b : Cm => a.id ≠ b.id) (fun {_ _} q => Ne.symm q)).2 h1
  rw [List.pairwise_map] at h2
  exact h2
theorem mC_at {X : List CmA} {i : Nat} (h : i < 18446744073709551616) : mC X i = (fX X (i : Int)).map aggC := by
  unfold mC
  rw [if_pos h]
theorem mC_in {X : List CmA} {i : Nat} (h : mC X i ≠ none) : i ∈ X.map (fun x => x.c.id.toNat) := by
  unfold mC at h
  split at h
  · cases hq : fX X (i : Int) with
    | none => rw [hq] at h; simp at h
    | some x =>
      obtain ⟨h1, h2⟩ := fX_some hq
      rw [List.mem_map]
      exact ⟨x, h1, by rw [h2]; simp⟩
  · simp at h
/-- one more -/
theorem mC_more {X Y : List CmA} {x : CmA} (hY : NoTw Y) (hm : ∀ y, y ∈ Y ↔ y = x ∨ y ∈ X) (h0 : 0 ≤ x.c.id) (h1 : x.c.id ≤ 18446744073709551615) (hn : fX X x.c.id = none) : upd (mC X) x.c.id.toNat (some (aggC x)) = mC Y := by
  funext j
  by_cases q : j = x.c.id.toNat
  · subst q
    rw [upd_same, mC_at (by omega), show ((x.c.id.toNat : Nat) : Int) = x.c.id by omega, fX_is hY ((hm x).2 (.inl rfl))]
    rfl
  · rw [upd_other _ _ q]
    unfold mC
    split
    · congr 1
      cases hq : fX X (j : Int) with
      | none =>
        refine (fX_no (fun y hy e => ?_)).symm
        rcases (hm y).1 hy with r | r
        · subst r; omega
        · exact fX_none hq y r e
      | some y =>
        obtain ⟨h2, h3⟩ := fX_some hq
        rw [← h3]
        exact (fX_is hY ((hm y).2 (.inr h2))).symm
    · rfl
/-- one less -/
theorem mC_less {X Y : List CmA} {i : Nat} (hY : NoTw Y) (hm : ∀ y, y ∈ Y ↔ y ∈ X ∧ y.c.id ≠ (i : Int)) : upd (mC X) i none = mC Y := by
  funext j
  by_cases q : j = i
  · subst q
    rw [upd_same]
    unfold mC
    split
    · rw [fX_no (fun y hy => ((hm y).1 hy).2)]; rfl
    · rfl
  · rw [upd_other _ _ q]
    unfold mC
    split
    · congr 1
      cases hq : fX X (j : Int) with
      | none => exact (fX_no (fun y hy => fX_none hq y ((hm y).1 hy).1)).symm
      | some y =>
        obtain ⟨h2, h3⟩ := fX_some hq
        have := fX_is hY ((hm y).2 ⟨h2, by rw [h3]; omega⟩)
        rw [h3] at this
        exact this.symm
    · rfl
set_option maxRecDepth 100000 in
theorem k64u : Try.prog.underlying 23 = some (.int .u64) := Try.underlying23
set_option maxRecDepth 100000 in
theorem zero_cm (W : World) : (zeroValue 32).run Try.prog W = .ok (aggC zeroA) W := by kernel_rfl
/-- a look-up, told whether it is there -/
theorem mc_look2 {w : World} {b : Nat} {X : List CmA} (h : Mp Try.prog 23 w b (mC X)) {id : Int} (h0 : 0 ≤ id) (h1 : id ≤ 18446744073709551615) :
    (Instr.lookup 61 (.map (some b)) (.int .u64 id) true).run Try.prog w = .ok (.tuple #[aggC ((fX X id).getD zeroA), .bool (fX X id).isSome]) w := by
  have := h.look2 (z := aggC zeroA) k64u Try.underlying61 zero_cm (i := id.toNat) (by omega)
  rw [mC_at (by omega), show ((id.toNat : Nat) : Int) = id by omega] at this
  rw [this]
  cases fX X id <;> rfl
theorem mc_look {w : World} {b : Nat} {X : List CmA} (h : Mp Try.prog 23 w b (mC X)) {id : Int} (h0 : 0 ≤ id) (h1 : id ≤ 18446744073709551615) :
    (Instr.lookup 61 (.map (some b)) (.int .u64 id) false).run Try.prog w = .ok (aggC ((fX X id).getD zeroA)) w := by
  have := h.look (z := aggC zeroA) k64u Try.underlying61 zero_cm (i := id.toNat) (by omega)
  rw [mC_at (by omega), show ((id.toNat : Nat) : Int) = id by omega] at this
  rw [this]
  cases fX X id <;> rfl
/-- a map's block holds no cells -/
theorem mp_cell {P : Program} {k : TypeId} {w : World} {b : Nat} {M : Nat → Option Value} (h : Mp P k w b M) (i : Nat) : w.cell? ⟨b, i, none⟩ = none := by
  obtain ⟨D, ⟨es, c, h1, _⟩, _⟩ := h
  unfold World.cell?
  rw [h1]
theorem rd_notmp {P : Program} {k : TypeId} {w : World} {b : Nat} {M : Nat → Option Value} (h : Mp P k w b M) {ki : IntKind} {a : Option Addr} {l : List Int} (hr : Rd ki w a l) : ∀ x, a = some x → 0 < l.length → x.block ≠ b := by
  intro x hx hl e
  obtain ⟨g, o, ha, hc⟩ := hr 0 hl
  rw [hx] at ha
  injection ha with ha
  subst ha
  simp only at e
  subst e
  rw [mp_cell h] at hc
  cases hc
theorem CmR.onl {O : Nat → Prop} {w w' : World} {c : Cm} {a : Option Addr} {cap : Nat} (h : CmR w c a cap) (o : Onl O w w') (hr : ∀ x, a = some x → 0 < c.ps.length → ¬ O x.block) : CmR w' c a cap := { h with rd := h.rd.onl o hr }
/-- a map of the commits X at b -/
structure Cs (w : World) (b : Nat) (X : List CmA) : Prop where
  mp : Mp Try.prog 23 w b (mC X)
  cm : ∀ x ∈ X, CmR w x.c x.a x.cap
  sm : ∀ x ∈ X, (x.a = none → x.cap = 0) ∧ x.c.ps.length ≤ 2
  no : NoTw X
theorem Cs.lt {w : World} {b : Nat} {X : List CmA} (h : Cs w b X) : b < w.heap.size := h.mp.lt
theorem Cs.old {w w' : World} {b : Nat} {X : List CmA} (h : Cs w b X) (o : Below w.heap.size w w') : Cs w' b X := { h with mp := h.mp.below o, cm := fun x hx => (h.cm x hx).below o }
theorem Cs.id {w : World} {b : Nat} {X : List CmA} (h : Cs w b X) {x : CmA} (hx : x ∈ X) : 0 ≤ x.c.id ∧ x.c.id ≤ 18446744073709551615 := (h.cm x hx).sz.1
/-- what it tells of an Id, or of one that isn't there -/
theorem Cs.got {w : World} {b : Nat} {X : List CmA} (h : Cs w b X) (id : Int) : CmR w ((fX X id).getD zeroA).c ((fX X id).getD zeroA).a ((fX X id).getD zeroA).cap := by
  cases hq : fX X id with
  | none => exact ⟨Rd.nil _ _ _, by simp [zeroA, zeroCm], by simp [zeroA], by simp [zeroA, zeroCm]; exact Nat.zero_le _, by simp [zeroA, zeroCm, Cm.Sz]⟩
  | some x => exact h.cm x (fX_some hq).1
theorem Cs.gotS {w : World} {b : Nat} {X : List CmA} (h : Cs w b X) (id : Int) : (((fX X id).getD zeroA).a = none → ((fX X id).getD zeroA).cap = 0) ∧ ((fX X id).getD zeroA).c.ps.length ≤ 2 := by
  cases hq : fX X id with
  | none => simp [zeroA, zeroCm]
  | some x => exact h.sm x (fX_some hq).1
/-- other maps and rows of commits stay where one map is changed -/
theorem Cs.beside {O : Nat → Prop} {w w' : World} {b : Nat} {X : List CmA} (h : Cs w b X) (o : Onl O w w') (hb : ¬ O b) (hr : ∀ x ∈ X, ∀ ad, x.a = some ad → 0 < x.c.ps.length → ¬ O ad.block) : Cs w' b X :=
  { h with mp := h.mp.onl o hb, cm := fun x hx => (h.cm x hx).onl o (hr x hx) }
theorem Cs.new (w : World) : Cs (w.alloc (.map #[] 0)) w.heap.size [] := by
  refine ⟨?_, by simp, by simp, List.Pairwise.nil⟩
  have := Mp.made w Try.prog 23
  have e : mC [] = fun _ => none := by funext i; simp [mC, fX]
  rw [e]
  exact this
/-- one more, whose parents are read -/
theorem Cs.put {w : World} {b : Nat} {X Y : List CmA} {x : CmA} (h : Cs w b X) (hx : CmR w x.c x.a x.cap) (hs : (x.a = none → x.cap = 0) ∧ x.c.ps.length ≤ 2) (hY : NoTw Y) (hm : ∀ y, y ∈ Y ↔ y = x ∨ y ∈ X) (hn : fX X x.c.id = none) (hl : X.length < 1000000) :
    ∃ w', (Instr.mapUpdate 61 (.map (some b)) (.int .u64 x.c.id) (aggC x)).run Try.prog w = .ok () w' ∧ Cs w' b Y ∧ Onl (fun i => i = b) w w' := by
  obtain ⟨h0, h1⟩ := hx.sz.1
  obtain ⟨w', r, m, t⟩ := h.mp.store k64u Try.underlying61 (L := X.map (fun x => x.c.id.toNat)) (fun i hi => mC_in hi) (by rw [List.length_map]; unfold maxLen; omega) (i := x.c.id.toNat) (by omega) (aggC x)
  rw [show ((x.c.id.toNat : Nat) : Int) = x.c.id by omega] at r
  have o : Onl (fun i => i = b) w w' := turned_onl t
  refine ⟨w', r, ⟨?_, ?_, fun y hy => ((hm y).1 hy).elim (fun q => by rw [q]; exact hs) (fun q => h.sm y q), hY⟩, o⟩
  · rw [mC_more hY hm h0 h1 hn] at m
    exact m
  · intro y hy
    have : CmR w y.c y.a y.cap := by
      rcases (hm y).1 hy with q | q
      · rw [q]; exact hx
      · exact h.cm y q
    exact this.onl o (rd_notmp h.mp this.rd)
/-- one less -/
theorem Cs.del {w : World} {b : Nat} {X Y : List CmA} {id : Int} (h : Cs w b X) (h0 : 0 ≤ id) (h1 : id ≤ 18446744073709551615) (hY : NoTw Y) (hm : ∀ y, y ∈ Y ↔ y ∈ X ∧ y.c.id ≠ id) (ty : TypeId) :
    ∃ w', (Builtin.delete_ #[61, 23] ty #[.map (some b), .int .u64 id]).run Try.prog w = .ok (.tuple #[]) w' ∧ Cs w' b Y ∧ Onl (fun i => i = b) w w' := by
  obtain ⟨w', r, m, t⟩ := h.mp.drop k64u Try.underlying61 (i := id.toNat) (by omega) ty
  rw [show ((id.toNat : Nat) : Int) = id by omega] at r
  have o : Onl (fun i => i = b) w w' := turned_onl t
  refine ⟨w', r, ⟨?_, ?_, fun y hy => h.sm y ((hm y).1 hy).1, hY⟩, o⟩
  · rw [mC_less hY (i := id.toNat) (fun y => by rw [hm y, show ((id.toNat : Nat) : Int) = id by omega])] at m
    exact m
  · intro y hy
    have := h.cm y ((hm y).1 hy).1
    exact this.onl o (rd_notmp h.mp this.rd)
theorem Cs.len {w : World} {b : Nat} {X : List CmA} (h : Cs w b X) (ty : TypeId) : (Builtin.len_ #[61] ty #[.map (some b)]).run Try.prog w = .ok (.int .i64 X.length) w := by
  have := h.mp.len k64u Try.underlying61 (L := X.map (fun x => x.c.id.toNat)) (fun i => ?_) ?_ ty
  · rw [List.length_map] at this
    exact this
  · constructor
    · exact mC_in
    · intro hi
      obtain ⟨x, hx, rfl⟩ := List.mem_map.1 hi
      have hb := h.id hx
      rw [mC_at (by omega), show ((x.c.id.toNat : Nat) : Int) = x.c.id by omega, fX_is h.no hx]
      simp
  · rw [List.nodup_iff_pairwise_ne, List.pairwise_map]
    refine List.Pairwise.imp_of_mem (fun {x y} hx hy q e => q ?_) h.no
    have := h.id hx
    have := h.id hy
    omega
end Go.Proofs.Ytmkafoidfgaokaa
namespace Go.Proofs.Ytmkafoidfgaokaa
open Go.RowKit Apo
theorem own_to0 {w : World} {B : Nat} {e : TypeId} {size : Nat} {v : Value} {n : Nat} {xs : List Value} (h : w.ownsRow B e size v n xs) : Row (fun g => B ≤ g) w e size v n xs := by
  refine ⟨⟨h.1, ?_⟩, fun g hg => (h.lt g hg).1⟩
  rcases h.2 with q | ⟨g, cap, cur, h1, h2, h3⟩
  · exact .inl q
  · exact .inr ⟨g, cap, cur, h1, Nat.zero_le _, h3⟩
set_option maxRecDepth 100000 in
theorem info_n8 : (Try.prog.info? 23).map (fun i => (i.zero, i.size, i.bytes)) = some (some (.int .u64 0), 1, 8) := by kernel_rfl
/-- append(v, l...) at 64-bit numbers, v the call's own from base on -/
theorem app_u {W : World} (base : Nat) {v : Value} {cur l : List Int} {a : Option Addr} {c : Nat} (h : W.ownsRow base 23 1 v cur.length (cur.map (Value.int .u64))) (hr : Rd .u64 W a l) (hn : a = none → c = 0) (hl : cur.length + l.length ≤ 100000000) (hb : base ≤ W.heap.size) :
    ∃ a' n' c' w', (Builtin.append_ #[30, 30] 30 #[v, .slice a l.length c]).run Try.prog W = .ok (.slice a' n' c') w' ∧ n' = (cur ++ l).length ∧ w'.ownsRow base 23 1 (.slice a' n' c') (cur ++ l).length ((cur ++ l).map (Value.int .u64)) ∧ W.grownBy w' v.ownBlock := by
  have hi := info_n8
  cases hq : Try.prog.info? 23 with
  | none => rw [hq] at hi; cases hi
  | some i =>
    rw [hq] at hi
    simp only [Option.map_some, Option.some.injEq, Prod.mk.injEq] at hi
    obtain ⟨v', w', R, r, g⟩ := run_append_rd (P := Try.prog) (w := W) base 30 30 23 i (.int .u64 0) 8 Try.underlying30 hq hi.1 hi.2.1 hi.2.2 rfl .u64 v cur h a c l hr hn (by unfold maxLen; omega) (by omega) hb
    obtain ⟨a', c', rfl⟩ := own_len r
    exact ⟨a', _, c', w', R, rfl, r, g⟩
set_option maxRecDepth 100000 in
theorem fin_Own {W : World} {g : Nat} {c0 c1 c2 c3 c4 : Value} {tmps : Array Value} {Q : Ending → World → Prop} (k : Ob W g 32 [c0, c1, c2, c3, c4]) (h2 : tmps.getD 2 undef = .pointer (some ⟨g, 0, none⟩)) (hq : Q (.returned (.agg #[c0, c1, c2, c3, c4])) W) :
    bodyPost Try.prog Try.f36 Q Exit.ret { tmps := tmps, defers := [] } W := by
  have hl := run_loadVar_row (P := Try.prog) W g 32 32 #[c0, c1, c2, c3, c4] (0, 0) _ k Try.underlying32 rfl (by rw [size_CmG]; rfl)
  have h2' : tmps[2]?.getD undef = .pointer (some ⟨g, 0, none⟩) := by simpa using h2
  refine bodyPost_ret (v := .agg #[c0, c1, c2, c3, c4]) ?_ rfl hq
  simp [results, Try.results36, asAddr, h2', hl]
/-- a commit stored whole -/
theorem ob_store5 {W WF : World} {g : Nat} {d0 d1 d2 d3 d4 c0 c1 c2 c3 c4 : Value} (k : Ob W g 32 [d0, d1, d2, d3, d4]) (hW : WF = ((((W.setCell ⟨g, 0, none⟩ c0).setCell ⟨g, 1, none⟩ c1).setCell ⟨g, 2, none⟩ c2).setCell ⟨g, 3, none⟩ c3).setCell ⟨g, 4, none⟩ c4) :
    Ob WF g 32 [c0, c1, c2, c3, c4] ∧ Onl (fun i => i = g) W WF := by
  subst hW
  exact ⟨((((k.set 0 c0).set 1 c1).set 2 c2).set 3 c3).set 4 c4, (((((Onl.refl (fun i => i = g) W).set (p := g) (.inl rfl) _).set (p := g) (.inl rfl) _).set (p := g) (.inl rfl) _).set (p := g) (.inl rfl) _).set (p := g) (.inl rfl) _⟩
/-- a commit's copy: parents of its own -/
def OwP (x : CmA) (B : Nat) (w w' : World) (y : CmA) : Prop := y.c = x.c ∧ CmR w' y.c y.a y.cap ∧ (y.a = none → y.cap = 0) ∧ (∀ ad, y.a = some ad → B ≤ ad.block) ∧ Below w.heap.size w w'
attribute [local go_sem ↓] Apo.app_exec
set_option maxRecDepth 100000 in
set_option maxHeartbeats 4000000 in
theorem own_any {w : World} (x : CmA) (hx : CmR w x.c x.a x.cap) (hn : x.a = none → x.cap = 0) (hp : x.c.ps.length ≤ 2) :
    Calls Try.prog 36 #[aggC x] w fun e w' => ∃ y : CmA, e = .returned (aggC y) ∧ OwP x w.heap.size w w' y := by
  obtain ⟨c, a, cap⟩ := x
  simp only at hx hn hp
  unfold aggC
  simp only
  have hsz := hx.sz
  obtain ⟨W1, hW1⟩ : ∃ W1, W1 = w.alloc (.cells #[.int .u64 c.id, .slice a c.ps.length cap, .int .u64 c.gen, .int .u64 c.root, .string c.tx] 32) := ⟨_, rfl⟩
  obtain ⟨W2, hW2⟩ : ∃ W2, W2 = W1.alloc (.cells #[.int .u64 0, .slice none 0 0, .int .u64 0, .int .u64 0, .string ⟨#[]⟩] 32) := ⟨_, rfl⟩
  have b1 : Below w.heap.size w W1 := by rw [hW1]; exact (Below.refl _ w).alloc (Nat.le_refl _) _
  have b2 : Below w.heap.size w W2 := by rw [hW2]; exact b1.alloc b1.size _
  have s1 : W1.heap.size = w.heap.size + 1 := by rw [hW1]; simp
  have s2 : W2.heap.size = w.heap.size + 2 := by rw [hW2]; simp [s1]
  have k1 : Ob W2 w.heap.size 32 [.int .u64 c.id, .slice a c.ps.length cap, .int .u64 c.gen, .int .u64 c.root, .string c.tx] := by
    rw [hW2, hW1]
    exact (Ob.new w [.int .u64 c.id, .slice a c.ps.length cap, .int .u64 c.gen, .int .u64 c.root, .string c.tx] 32).alloc _
  have k2 : Ob W2 (w.heap.size + 1) 32 [.int .u64 0, .slice none 0 0, .int .u64 0, .int .u64 0, .string ⟨#[]⟩] := by
    rw [← s1, hW2]
    exact Ob.new W1 [.int .u64 0, .slice none 0 0, .int .u64 0, .int .u64 0, .string ⟨#[]⟩] 32
  obtain ⟨a3, n3, c3, w3, R3, hn3, r3, g3⟩ := app_u (W := W2) (w.heap.size + 2) (v := .slice none 0 0) (cur := []) (World.ownsRow_nil _ _ _ _) (hx.rd.below b2) hn (by simp; omega) (by omega)
  simp only [List.nil_append] at hn3 r3
  subst hn3
  have b3 : Below W2.heap.size W2 w3 := ⟨g3.os, g3.tape, g3.output, g3.size, fun k hk => g3.block k hk (by simp [Value.ownBlock])⟩
  have k13 := k1.old b3
  have k23 := k2.old b3
  have x1 := k1.cell 1
  have f1 := k1.frozen 1
  have y1 := k13.cell 1
  have fy1 := k13.frozen 1
  simp only [List.getElem?_cons_succ, List.getElem?_cons_zero] at x1 y1
  obtain ⟨W4, hW4⟩ : ∃ W4, W4 = w3.setCell ⟨w.heap.size, 1, none⟩ (.slice a3 c.ps.length c3) := ⟨_, rfl⟩
  have k14 : Ob W4 w.heap.size 32 [.int .u64 c.id, .slice a3 c.ps.length c3, .int .u64 c.gen, .int .u64 c.root, .string c.tx] := by rw [hW4]; exact k13.set 1 _
  have k24 : Ob W4 (w.heap.size + 1) 32 [.int .u64 0, .slice none 0 0, .int .u64 0, .int .u64 0, .string ⟨#[]⟩] := by rw [hW4]; exact k23.set_other (by omega) _
  obtain ⟨z1, z2, z3⟩ := app_runs R3
  have b4 : Below w.heap.size w W4 := by rw [hW4]; exact (b2.trans (b3.mono (by omega))).setCell (Nat.le_refl _) _
  have o4 : Onl (fun i => i = w.heap.size) w3 W4 := by rw [hW4]; exact (Onl.refl (fun i => i = w.heap.size) w3).set (p := w.heap.size) (.inl rfl) _
  have hrow : Row (fun g => w.heap.size + 2 ≤ g) w3 23 1 (.slice a3 c.ps.length c3) c.ps.length (c.ps.map (Value.int .u64)) := own_to0 r3
  have hrow4 := hrow.onl o4 (fun g hg e => by have := hrow.2 g hg; omega)
  obtain ⟨fa, fc, hf, hf1, hf2, hf3, hf4⟩ := hrow4.form
  injection hf with e1 _ e3
  subst e1 e3
  have hrd : Rd .u64 W4 a3 c.ps := (Rd.own hrow4.1).1
  have HF : ∀ W5, Onl (fun i => i = w.heap.size + 1) W4 W5 → Hid (OwP ⟨c, a, cap⟩ w.heap.size w W5 ⟨c, a3, c3⟩) := fun W5 ho => hide ⟨rfl, ⟨hrd.onl ho (fun ad h _ e => by
      obtain ⟨g, rfl, hg⟩ := hf4 ad h
      simp only at e
      omega), hf1, by unfold maxLen at hf2; simp only; omega, hx.txt, hsz⟩, hf3, fun ad h => by
      obtain ⟨g, rfl, hg⟩ := hf4 ad h
      simp only
      omega, Below.onl b4 ho (fun i q => by omega) (Nat.le_refl _)⟩
  have HK2 := hide k24
  have q0 := k14.cell 0
  have q1 := k14.cell 1
  have q2 := k14.cell 2
  have q3 := k14.cell 3
  have q4 := k14.cell 4
  have p0 := k24.frozen 0
  have p1 := k24.frozen 1
  have p2 := k24.frozen 2
  have p3 := k24.frozen 3
  have p4 := k24.frozen 4
  have r0 := k24.cell 0
  have r1 := k24.cell 1
  have r2 := k24.cell 2
  have r3 := k24.cell 3
  have r4 := k24.cell 4
  simp only [List.getElem?_cons_succ, List.getElem?_cons_zero] at q0 q1 q2 q3 q4 r0 r1 r2 r3 r4
  subst hW1 hW2 hW4
  clear R3 hrow hrow4 hrd o4 b4 b3 b2 b1 k14 k24 k13 k23 k1 k2 hx hf1 hf2 hf3 hf4 g3 hn hp hsz s2 s1
  go_enter Try.func36, Try.ntmps36
  go_wp2
  obtain ⟨WF, hWF⟩ : ∃ WF, WF = (((((w3.setCell ⟨w.heap.size, 1, none⟩ (.slice a3 c.ps.length c3)).setCell ⟨w.heap.size + 1, 0, none⟩ (.int .u64 c.id)).setCell ⟨w.heap.size + 1, 1, none⟩ (.slice a3 c.ps.length c3)).setCell ⟨w.heap.size + 1, 2, none⟩ (.int .u64 c.gen)).setCell ⟨w.heap.size + 1, 3, none⟩ (.int .u64 c.root)).setCell ⟨w.heap.size + 1, 4, none⟩ (.string c.tx) := ⟨_, rfl⟩
  obtain ⟨kF, oF⟩ := ob_store5 HK2.out hWF
  rw [← hWF]
  exact fin_Own kF rfl ⟨⟨c, a3, c3⟩, rfl, (HF WF oF).out⟩
end Go.Proofs.Ytmkafoidfgaokaa
namespace Go.Proofs.Ytmkafoidfgaokaa
open Go.RowKit Apo
/-- the program's graph at p, its map at b: the commits X, which are those of l -/
structure Gp (w : World) (p b : Nat) (X : List CmA) (l : List Cm) : Prop where
  ob : Ob w p 69 [.map (some b)]
  cs : Cs w b X
  pm : (X.map CmA.c).Perm l
  rise : l.Pairwise (fun a b => a.id < b.id)
  few : X.length ≤ 1000
theorem Gp.old {w w' : World} {p b : Nat} {X : List CmA} {l : List Cm} (h : Gp w p b X l) (o : Below w.heap.size w w') : Gp w' p b X l := { h with ob := h.ob.old o, cs := h.cs.old o }
theorem Gp.get {w : World} {p b : Nat} {X : List CmA} {l : List Cm} (h : Gp w p b X l) (id : Int) : getG l id = (fX X id).map CmA.c := fX_get h.pm h.rise id
theorem Gp.len {w : World} {p b : Nat} {X : List CmA} {l : List Cm} (h : Gp w p b X l) : X.length = l.length := by
  have := h.pm.length_eq
  simpa using this
theorem Gp.mem {w : World} {p b : Nat} {X : List CmA} {l : List Cm} (h : Gp w p b X l) {c : Cm} (hc : c ∈ l) : ∃ x ∈ X, x.c = c := by
  have := h.pm.mem_iff.2 hc
  rwa [List.mem_map] at this
/-- a row of numbers lies beside an object that holds none -/
theorem rd_notob {w : World} {p : Nat} {t : TypeId} {cs : List Value} (h : Ob w p t cs) (hc : ∀ v ∈ cs, ∀ k z, v ≠ .int k z) {ki : IntKind} {a : Option Addr} {l : List Int} (hr : Rd ki w a l) : ∀ x, a = some x → 0 < l.length → x.block ≠ p := by
  intro x hx hl e
  obtain ⟨g, o, ha, hcell⟩ := hr 0 hl
  rw [hx] at ha
  injection ha with ha
  subst ha
  simp only at e
  subst e
  rw [h.cell] at hcell
  exact hc _ (List.mem_of_getElem? hcell) _ _ rfl
/-- where another block is changed -/
theorem Gp.onl {O : Nat → Prop} {w w' : World} {p b : Nat} {X : List CmA} {l : List Cm} (h : Gp w p b X l) (o : Onl O w w') (hp : ¬ O p) (hb : ¬ O b) (hx : ∀ x ∈ X, ∀ ad, x.a = some ad → 0 < x.c.ps.length → ¬ O ad.block) : Gp w' p b X l :=
  { h with ob := h.ob.onl o hp, cs := h.cs.beside o hb hx }
/-- a map held against nil -/
theorem eql_map (w : World) (r : Option Nat) : (binOp .eql 61 (.map r) (.map none)).run Try.prog w = .ok (.bool r.isNone) w := run_eql_map_nil_sl w _ _ _ r Try.underlying61
theorem commits_any {w : World} {p : Nat} {v : Value} (h : Ob w p 69 [v]) (hv : ∃ b, v = .map b) :
    Calls Try.prog 35 #[.pointer (some ⟨p, 0, none⟩)] w fun e w' => e = .returned v ∧ w = w' := by
  obtain ⟨b, rfl⟩ := hv
  have x0 := h.cell 0
  simp only [List.getElem?_cons_zero] at x0
  clear h
  go_enter Try.func35, Try.ntmps35
  go_wp2
  go_ret
  exact ⟨rfl, rfl⟩
theorem commits_nil (w : World) :
    Calls Try.prog 35 #[.pointer none] w fun e w' => e = .returned (.map none) ∧ w = w' := by
  go_enter Try.func35, Try.ntmps35
  go_wp2
  go_ret
  exact ⟨rfl, rfl⟩
theorem gp_new (w : World) : Gp ((w.alloc (.map #[] 0)).alloc (.cells #[.map (some w.heap.size)] 69)) (w.heap.size + 1) w.heap.size [] [] := by
  refine ⟨?_, (Cs.new w).old ((Below.refl _ _).alloc (Nat.le_refl _) _), List.Perm.refl _, List.Pairwise.nil, by simp⟩
  have := Ob.new (w.alloc (.map #[] 0)) [.map (some w.heap.size)] 69
  simpa using this
theorem new_any (w : World) : Calls Try.prog 33 #[] w fun e w' => e = .returned (.pointer (some ⟨w.heap.size + 1, 0, none⟩)) ∧ Gp w' (w.heap.size + 1) w.heap.size [] [] ∧ Below w.heap.size w w' ∧ w'.heap.size = w.heap.size + 2 := by
  have HG := hide (gp_new w)
  have HB : Hid (Below w.heap.size w ((w.alloc (.map #[] 0)).alloc (.cells #[.map (some w.heap.size)] 69))) := hide (((Below.refl _ w).alloc (Nat.le_refl _) _).alloc (by simp) _)
  have hmm := @run_makeMap Try.prog
  go_enter Try.func33, Try.ntmps33
  go_wp2
  go_ret
  exact ⟨rfl, HG.out, HB.out, by simp⟩
set_option maxRecDepth 100000 in
theorem fin_GetP {W : World} {g : Nat} {c0 c1 c2 c3 c4 er : Value} {tmps : Array Value} {Q : Ending → World → Prop} (k : Ob W g 32 [c0, c1, c2, c3, c4]) (h2 : tmps.getD 4 undef = .pointer (some ⟨g, 0, none⟩)) (h3 : tmps.getD 5 undef = er) (hq : Q (.returned (.tuple #[.agg #[c0, c1, c2, c3, c4], er])) W) :
    bodyPost Try.prog Try.f12 Q Exit.ret { tmps := tmps, defers := [] } W := by
  have hl := run_loadVar_row (P := Try.prog) W g 32 32 #[c0, c1, c2, c3, c4] (0, 0) _ k Try.underlying32 rfl (by rw [size_CmG]; rfl)
  have h2' : tmps[4]?.getD undef = .pointer (some ⟨g, 0, none⟩) := by simpa using h2
  have h3' : tmps[5]?.getD undef = er := by simpa using h3
  refine bodyPost_ret (v := .tuple #[.agg #[c0, c1, c2, c3, c4], er]) ?_ rfl hq
  simp [results, Try.results12, asAddr, h2', h3', hl]
/-- what Get answers: a copy of what is there, or of none -/
def GpG (X : List CmA) (id : Int) (w : World) (e : Ending) (w' : World) : Prop :=
  ∃ y : CmA, e = .returned (.tuple #[aggC y, .bool (fX X id).isSome]) ∧ y.c = ((fX X id).getD zeroA).c ∧ CmR w' y.c y.a y.cap ∧ (y.a = none → y.cap = 0) ∧ Below w.heap.size w w'
set_option maxRecDepth 100000 in
set_option maxHeartbeats 4000000 in
theorem getp_any {w : World} {p b : Nat} {X : List CmA} {l : List Cm} (h : Gp w p b X l) {id : Int} (h0 : 0 ≤ id) (h1 : id ≤ 18446744073709551615) :
    Calls Try.prog 12 #[.pointer (some ⟨p, 0, none⟩), .int .u64 id] w (GpG X id w) := by
  obtain ⟨x, hx⟩ : ∃ x, x = (fX X id).getD zeroA := ⟨_, rfl⟩
  obtain ⟨W1, hW1⟩ : ∃ W1, W1 = w.alloc (.cells #[.int .u64 0, .slice none 0 0, .int .u64 0, .int .u64 0, .string ⟨#[]⟩] 32) := ⟨_, rfl⟩
  have b1 : Below w.heap.size w W1 := by rw [hW1]; exact (Below.refl _ w).alloc (Nat.le_refl _) _
  have hg1 := h.old b1
  have HC := hide (commits_any hg1.ob ⟨_, rfl⟩)
  have hlk := mc_look2 hg1.cs.mp h0 h1
  rw [← hx] at hlk
  have s1 : W1.heap.size = w.heap.size + 1 := by rw [hW1]; simp
  obtain ⟨W2, hW2⟩ : ∃ W2, W2 = W1.alloc (.cells #[.int .u64 x.c.id, .slice x.a x.c.ps.length x.cap, .int .u64 x.c.gen, .int .u64 x.c.root, .string x.c.tx] 32) := ⟨_, rfl⟩
  have b2 : Below W1.heap.size W1 W2 := by rw [hW2]; exact (Below.refl _ _).alloc (Nat.le_refl _) _
  have hc2 : CmR W2 x.c x.a x.cap := by rw [hx]; exact (hg1.cs.got id).below b2
  have hs2 := h.cs.gotS id
  rw [← hx] at hs2
  have HO := hide (own_any x hc2 hs2.1 hs2.2)
  have k1 : Ob W2 w.heap.size 32 [.int .u64 0, .slice none 0 0, .int .u64 0, .int .u64 0, .string ⟨#[]⟩] := by
    have := Ob.new w [.int .u64 0, .slice none 0 0, .int .u64 0, .int .u64 0, .string ⟨#[]⟩] 32
    rw [← hW1] at this
    exact this.old b2
  have HK := hide k1
  have HB := hide (b1.trans (b2.mono (by omega)))
  have HX := hide hx
  have HS : Hid (w.heap.size < W2.heap.size) := hide k1.lt
  unfold aggC at hlk HO
  clear h hg1 b1 b2 hc2 hs2 k1 hx h0 h1
  rw [hW1] at HC hlk
  rw [hW2, hW1] at HO HK HB HS
  clear hW1 hW2 s1
  go_enter Try.func12, Try.ntmps12
  go_wp2_with fail
  refine HC.out.mono ?_
  rintro e w1 ⟨rfl, rfl⟩
  go_wp2_with fail
  refine HO.out.mono ?_
  rintro e w2 ⟨y, rfl, y1, y2, y3, y4, b5⟩
  have k5 := HK.out.old b5
  have r0 := k5.cell 0
  have r1 := k5.cell 1
  have r2 := k5.cell 2
  have r3 := k5.cell 3
  have r4 := k5.cell 4
  have p0 := k5.frozen 0
  have p1 := k5.frozen 1
  have p2 := k5.frozen 2
  have p3 := k5.frozen 3
  have p4 := k5.frozen 4
  simp only [List.getElem?_cons_succ, List.getElem?_cons_zero] at r0 r1 r2 r3 r4
  have HK5 := hide k5
  have HY : Hid (y.c = x.c ∧ CmR w2 y.c y.a y.cap ∧ (y.a = none → y.cap = 0) ∧ (∀ ad, y.a = some ad → ad.block ≠ w.heap.size)) := hide ⟨y1, y2, y3, fun ad h e => by have := y4 ad h; have := HS.out; omega⟩
  have HB5 := hide (HB.out.trans (b5.mono HB.out.size))
  clear k5 y1 y2 y3 y4 b5 HB HO HC hlk HK
  go_wp2
  obtain ⟨WF, hWF⟩ : ∃ WF, WF = ((((w2.setCell ⟨w.heap.size, 0, none⟩ (.int .u64 y.c.id)).setCell ⟨w.heap.size, 1, none⟩ (.slice y.a y.c.ps.length y.cap)).setCell ⟨w.heap.size, 2, none⟩ (.int .u64 y.c.gen)).setCell ⟨w.heap.size, 3, none⟩ (.int .u64 y.c.root)).setCell ⟨w.heap.size, 4, none⟩ (.string y.c.tx) := ⟨_, rfl⟩
  obtain ⟨kF, oF⟩ := ob_store5 HK5.out hWF
  rw [← hWF]
  refine fin_GetP kF rfl rfl ⟨y, rfl, by rw [HY.out.1, HX.out], HY.out.2.1.onl oF (fun ad h _ e => HY.out.2.2.2 ad h e), HY.out.2.2.1, Below.onl HB5.out oF (fun i q => by omega) (Nat.le_refl _)⟩
end Go.Proofs.Ytmkafoidfgaokaa
