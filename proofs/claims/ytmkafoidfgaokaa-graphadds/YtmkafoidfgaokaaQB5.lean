/- slices.Clone at 64-bit numbers; a map that may be nil. Over the translation. Going through ancestors, pure. Ancestors of what is there. Over the translation. -/
import Derived.Lib.SliceRun
import Derived.Deep.LoopGhost
import Derived.Test.YtmkafoidfgaokaaQB1
import Derived.Test.YtmkafoidfgaokaaQA7
namespace Go.Proofs.Ytmkafoidfgaokaa
open Go.RowKit Apo
attribute [local go_sem ↓] Apo.app_exec
set_option maxRecDepth 100000 in
set_option maxHeartbeats 4000000 in
theorem clone_u {w : World} {a : Option Addr} {l : List Int} {c : Nat} (hr : Rd .u64 w a l) (hn : a = none → c = 0) (hl : l.length ≤ 1000000) :
    Calls Try.prog 52 #[.slice a l.length c] w fun e w' => ∃ a' n' c', e = .returned (.slice a' n' c') ∧ n' = l.length ∧ w'.ownsRow w.heap.size 23 1 (.slice a' n' c') l.length (l.map (Value.int .u64)) ∧ Below w.heap.size w w' := by
  cases a with
  | none =>
    have hc := hn rfl
    have hl0 : l = [] := by
      rcases Nat.eq_zero_or_pos l.length with h | h
      · exact List.eq_nil_of_length_eq_zero h
      · obtain ⟨_, _, h', _⟩ := hr 0 h; cases h'
    subst hc hl0
    clear hr hn hl
    have heq := fun (W : World) a n c => Go.Lib.run_eql_slice_nil (P := Try.prog) W 30 23 a n c 0 0 Try.underlying30
    go_enter Try.func52, Try.ntmps52
    go_wp2
    go_ret
    exact ⟨none, 0, 0, rfl, rfl, World.ownsRow_nil _ _ _ _, Below.refl _ _⟩
  | some ad =>
    have bA : Below w.heap.size w (w.alloc (.cells #[] 23)) := (Below.refl _ _).alloc (Nat.le_refl _) _
    have hown : (w.alloc (.cells #[] 23)).ownsRow w.heap.size 23 1 (.slice (some ⟨w.heap.size, 0, none⟩) 0 0) ([] : List Int).length (([] : List Int).map (Value.int .u64)) := ⟨by simp, .inr ⟨w.heap.size, 0, #[], rfl, Nat.le_refl _, heap_alloc_new w _, Nat.le_refl _, Nat.zero_le _, by simp, by simp⟩⟩
    obtain ⟨a3, n3, c3, w3, R3, hn3, r3, g3⟩ := app_u (W := w.alloc (.cells #[] 23)) w.heap.size hown (hr.below bA) hn (by simp; omega) (by simp)
    simp only [List.nil_append] at hn3 r3
    have HF : Hid (n3 = l.length ∧ w3.ownsRow w.heap.size 23 1 (.slice a3 n3 c3) l.length (l.map (Value.int .u64)) ∧ Below w.heap.size w w3) := hide ⟨hn3, r3, bA.grown g3 (by simp) (fun k hk => by simp [Value.ownBlock] at hk; omega)⟩
    obtain ⟨z1, z2, z3⟩ := app_runs R3
    generalize l.length = n at *
    clear hr hn bA hown r3 g3 R3 hn3
    have heq := fun (W : World) a n c => Go.Lib.run_eql_slice_nil (P := Try.prog) W 30 23 a n c 0 0 Try.underlying30
    go_enter Try.func52, Try.ntmps52
    go_wp2
    go_ret
    exact ⟨a3, n3, c3, rfl, HF.out.1, HF.out.2.1, HF.out.2.2⟩
/-- one number less, from a row's end -/
theorem own_less {w : World} {B e : Nat} {g c n : Nat} {xs : List Value} {x : Value} (h : w.ownsRow B e 1 (.slice (some ⟨g, 0, none⟩) (n + 1) c) (n + 1) (xs ++ [x])) : w.ownsRow B e 1 (.slice (some ⟨g, 0, none⟩) n c) n xs := by
  obtain ⟨h1, h2⟩ := h
  have hx : xs.length = n := by simp at h1; omega
  refine ⟨by omega, ?_⟩
  rcases h2 with ⟨hv, _⟩ | ⟨g', cap, cur, hv, hb, hg, hnc, hcm, hs, ht⟩
  · cases hv
  · injection hv with e1 e2 e3
    injection e1 with e1
    injection e1 with e1
    subst e1 e3
    refine .inr ⟨g, c, cur, rfl, hb, hg, by omega, hcm, hs, ?_⟩
    rw [Nat.mul_one] at ht ⊢
    have := congrArg (List.take n) ht
    rw [List.take_take, Nat.min_eq_left (by omega), List.take_append_of_le_length (by omega), List.take_of_length_le (l := xs) (by omega)] at this
    exact this
set_option maxRecDepth 100000 in
/-- a look-up in nil -/
theorem nil_look2 (id : Int) (w : World) : (Instr.lookup 61 (.map none) (.int .u64 id) true).run Try.prog w = .ok (.tuple #[aggC zeroA, .bool false]) w := by kernel_rfl
/-- a map that may be nil -/
def CsO (w : World) (m : Option Nat) (X : List CmA) : Prop := match m with
  | none => X = []
  | some b => Cs w b X
theorem CsO.old {w w' : World} {m : Option Nat} {X : List CmA} (h : CsO w m X) (o : Below w.heap.size w w') : CsO w' m X := by
  cases m with
  | none => exact h
  | some b => exact Cs.old h o
theorem CsO.cm {w : World} {m : Option Nat} {X : List CmA} (h : CsO w m X) : (∀ x ∈ X, CmR w x.c x.a x.cap) ∧ (∀ x ∈ X, (x.a = none → x.cap = 0) ∧ x.c.ps.length ≤ 2) ∧ NoTw X := by
  cases m with
  | none =>
    have : X = [] := h
    subst this
    exact ⟨by simp, by simp, List.Pairwise.nil⟩
  | some b =>
    have q : Cs w b X := h
    exact ⟨q.cm, q.sm, q.no⟩
theorem CsO.look2 {w : World} {m : Option Nat} {X : List CmA} (h : CsO w m X) {id : Int} (h0 : 0 ≤ id) (h1 : id ≤ 18446744073709551615) :
    (Instr.lookup 61 (.map m) (.int .u64 id) true).run Try.prog w = .ok (.tuple #[aggC ((fX X id).getD zeroA), .bool (fX X id).isSome]) w := by
  cases m with
  | none =>
    have : X = [] := h
    subst this
    exact nil_look2 id w
  | some b => exact mc_look2 (Cs.mp h) h0 h1
/-- other things are changed -/
theorem CsO.lt {w : World} {b : Nat} {X : List CmA} (h : CsO w (some b) X) : b < w.heap.size := Cs.lt h
end Go.Proofs.Ytmkafoidfgaokaa
namespace Go.Proofs.Ytmkafoidfgaokaa
open Go.RowKit Apo
/-- found so far, and still to be looked at -/
structure Dfs (l : List Cm) (ids F W : List Int) : Prop where
  fnd : ∀ f ∈ F, ∃ i ∈ ids, Anc l f i
  wai : ∀ z ∈ W, z ∈ ids ∨ ∃ f ∈ F, ∃ c, getG l f = some c ∧ z ∈ c.ps
  clo : ∀ f ∈ F, ∀ c, getG l f = some c → ∀ p ∈ c.ps, p ∈ F ∨ p ∈ W ∨ getG l p = none
  ask : ∀ i ∈ ids, i ∈ F ∨ i ∈ W ∨ getG l i = none
theorem Dfs.start (l : List Cm) (ids : List Int) : Dfs l ids [] ids := ⟨by simp, fun z h => .inl h, by simp, fun i h => .inr (.inl h)⟩
theorem Dfs.skip {l : List Cm} {ids F W : List Int} {z : Int} (h : Dfs l ids F (W ++ [z])) (hz : z ∈ F ∨ getG l z = none) : Dfs l ids F W := by
  have key : ∀ p, (p ∈ F ∨ p ∈ W ++ [z] ∨ getG l p = none) → p ∈ F ∨ p ∈ W ∨ getG l p = none := by
    rintro p (q | q | q)
    · exact .inl q
    · rcases List.mem_append.1 q with r | r
      · exact .inr (.inl r)
      · rw [List.mem_singleton.1 r]
        exact hz.elim .inl (fun s => .inr (.inr s))
    · exact .inr (.inr q)
  exact ⟨h.fnd, fun y hy => h.wai y (List.mem_append_left _ hy), fun f hf c hc p hp => key p (h.clo f hf c hc p hp), fun i hi => key i (h.ask i hi)⟩
theorem Dfs.take {l : List Cm} {ids F W : List Int} {z : Int} {c : Cm} (h : Dfs l ids F (W ++ [z])) (hc : getG l z = some c) : Dfs l ids (F ++ [z]) (W ++ c.ps) := by
  have hz : ∃ i ∈ ids, Anc l z i := by
    rcases h.wai z (by simp) with q | ⟨f, hf, d, hd, hp⟩
    · exact ⟨z, q, .self c hc⟩
    · obtain ⟨i, hi, ha⟩ := h.fnd f hf
      exact ⟨i, hi, (Anc.step f z d hd hp (.self c hc)).trans ha⟩
  have key : ∀ p, (p ∈ F ∨ p ∈ W ++ [z] ∨ getG l p = none) → p ∈ F ++ [z] ∨ p ∈ W ++ c.ps ∨ getG l p = none := by
    rintro p (q | q | q)
    · exact .inl (List.mem_append_left _ q)
    · rcases List.mem_append.1 q with r | r
      · exact .inr (.inl (List.mem_append_left _ r))
      · exact .inl (List.mem_append_right _ r)
    · exact .inr (.inr q)
  refine ⟨fun f hf => ?_, fun y hy => ?_, fun f hf d hd p hp => ?_, fun i hi => key i (h.ask i hi)⟩
  · rcases List.mem_append.1 hf with q | q
    · exact h.fnd f q
    · rw [List.mem_singleton.1 q]; exact hz
  · rcases List.mem_append.1 hy with q | q
    · rcases h.wai y (List.mem_append_left _ q) with r | ⟨f, hf, d, hd, hp⟩
      · exact .inl r
      · exact .inr ⟨f, List.mem_append_left _ hf, d, hd, hp⟩
    · exact .inr ⟨z, by simp, c, hc, q⟩
  · rcases List.mem_append.1 hf with q | q
    · exact key p (h.clo f q d hd p hp)
    · rw [List.mem_singleton.1 q, hc] at hd
      injection hd with hd
      subst hd
      exact .inr (.inl (List.mem_append_right _ hp))
theorem Dfs.done {l : List Cm} {ids F : List Int} (h : Dfs l ids F []) (z : Int) : z ∈ F ↔ ∃ i ∈ ids, Anc l z i := by
  constructor
  · exact h.fnd z
  · rintro ⟨i, hi, ha⟩
    have key : ∀ m, Anc l z m → m ∈ F → z ∈ F := by
      intro m hm
      induction hm with
      | self c hc => exact id
      | step b p c hc hp r ih =>
        intro hb
        rcases h.clo b hb c hc p hp with q | q | q
        · exact ih q
        · cases q
        · obtain ⟨d, hd⟩ := r.there.2
          rw [hd] at q
          cases q
    refine key i ha ?_
    rcases h.ask i hi with q | q | q
    · exact q
    · cases q
    · obtain ⟨d, hd⟩ := ha.there.2
      rw [hd] at q
      cases q
end Go.Proofs.Ytmkafoidfgaokaa
namespace Go.Proofs.Ytmkafoidfgaokaa
open Go.RowKit Apo
def idsX (F : List CmA) : List Int := F.map (fun x => x.c.id)
theorem mem_idsX {F : List CmA} {z : Int} : z ∈ idsX F ↔ ∃ x ∈ F, x.c.id = z := by simp [idsX]
theorem fX_in (F : List CmA) (z : Int) : (fX F z).isSome = decide (z ∈ idsX F) := by
  cases hq : fX F z with
  | none =>
    have : ¬ z ∈ idsX F := fun q => by
      obtain ⟨y, hy, e⟩ := mem_idsX.1 q
      exact fX_none hq y hy e
    simp [this]
  | some y =>
    obtain ⟨h3, h4⟩ := fX_some hq
    have : z ∈ idsX F := mem_idsX.2 ⟨y, h3, h4⟩
    simp [this]
theorem fX_sub {F X : List CmA} (hs : ∀ x ∈ F, x ∈ X) (hX : NoTw X) {z : Int} {x : CmA} (hx : fX X z = some x) : fX F z = none ∨ fX F z = some x := by
  cases hq : fX F z with
  | none => exact .inl rfl
  | some y =>
    right
    obtain ⟨h1, h2⟩ := fX_some hx
    obtain ⟨h3, h4⟩ := fX_some hq
    rw [hX.eq (hs y h3) h1 (by rw [h2, h4])]
theorem sub_len {F X : List CmA} (hs : ∀ x ∈ F, x ∈ X) (hF : NoTw F) (hb : ∀ x ∈ F, 0 ≤ x.c.id) : F.length ≤ X.length := by
  have h1 : (F.map (fun x => x.c.id.toNat)).Nodup := by
    rw [List.nodup_iff_pairwise_ne, List.pairwise_map]
    refine List.Pairwise.imp_of_mem (fun {x y} hx hy q e => q ?_) hF
    have := hb x hx
    have := hb y hy
    omega
  have := nodup_le _ (X.map (fun x => x.c.id.toNat)) h1 (fun i hi => by
    obtain ⟨x, hx, e⟩ := List.mem_map.1 hi
    exact List.mem_map.2 ⟨x, hs x hx, e⟩)
  simpa using this
theorem noTw_add {F : List CmA} {x : CmA} (hF : NoTw F) (hn : fX F x.c.id = none) : NoTw (F ++ [x]) := by
  unfold NoTw at hF ⊢
  rw [List.pairwise_append]
  exact ⟨hF, by simp, fun a ha b hb => by rw [List.mem_singleton.1 hb]; exact fX_none hn a ha⟩
theorem row_own {w : World} {B e size : Nat} {v : Value} {n : Nat} {xs : List Value} (h : Row (fun g => B ≤ g) w e size v n xs) : w.ownsRow B e size v n xs := by
  refine ⟨h.1.1, ?_⟩
  rcases h.1.2 with q | ⟨g, cap, cur, rfl, _, rest⟩
  · exact .inl q
  · exact .inr ⟨g, cap, cur, rfl, h.2 g rfl, rest⟩
/-- what holds while ancestors are gone through -/
structure AnI (w wr : World) (bf : Nat) (X F : List CmA) (l : List Cm) (ids W : List Int) (a : Option Addr) (c : Nat) : Prop where
  b : Below w.heap.size w wr
  cs : Cs wr bf F
  lo : w.heap.size ≤ bf
  sub : ∀ x ∈ F, x ∈ X
  row : Row (fun g => w.heap.size ≤ g) wr 23 1 (.slice a W.length c) W.length (W.map (Value.int .u64))
  dfs : Dfs l ids (idsX F) W
  few : W.length ≤ ids.length + 2 * F.length
  inu : InU W
/-- what ancestors tells -/
def AnP (w : World) (X : List CmA) (l : List Cm) (ids : List Int) (e : Ending) (w' : World) : Prop :=
  ∃ bf F, e = .returned (.map (some bf)) ∧ w.heap.size ≤ bf ∧ Cs w' bf F ∧ (∀ x ∈ F, x ∈ X) ∧ (∀ z, z ∈ idsX F ↔ ∃ i ∈ ids, Anc l z i) ∧ Below w.heap.size w w'
/-- a row's block is no map -/
theorem row_notmp {O : Nat → Prop} {w : World} {e size : Nat} {v : Value} {n : Nat} {xs : List Value} {P : Program} {k : TypeId} {b : Nat} {M : Nat → Option Value} (h : Row O w e size v n xs) (m : Mp P k w b M) : v.ownBlock ≠ some b := by
  intro hv
  rcases h.1.2 with ⟨rfl, _⟩ | ⟨g, cap, cur, rfl, _, hg, _⟩
  · simp [Value.ownBlock] at hv
  · simp only [Value.ownBlock, Option.some.injEq] at hv
    subst hv
    obtain ⟨D, ⟨es, c, h1, _⟩, _⟩ := m
    rw [hg] at h1
    cases h1
section
variable {w wr : World} {bf : Nat} {X F : List CmA} {l : List Cm} {ids W : List Int} {a : Option Addr} {c : Nat}
/-- a round that finds nothing new -/
theorem AnI.skip {g : Nat} {z : Int} (h : AnI w wr bf X F l ids (W ++ [z]) (some ⟨g, 0, none⟩) c) (hz : z ∈ idsX F ∨ getG l z = none) {w2 : World} (b2 : Below wr.heap.size wr w2) : AnI w w2 bf X F l ids W (some ⟨g, 0, none⟩) c := by
  have hr := row_own h.row
  rw [List.length_append, List.length_singleton, List.map_append, List.map_singleton] at hr
  have := h.few
  rw [List.length_append, List.length_singleton] at this
  exact ⟨h.b.trans (b2.mono h.b.size), h.cs.old b2, h.lo, h.sub, (own_to0 (own_less hr)).onl (F := fun _ => False) (Onl.ofBelow b2) (fun _ _ q => q), h.dfs.skip hz, by omega, fun y hy => h.inu y (List.mem_append_left _ hy)⟩
/-- a round that finds one -/
theorem AnI.take {g : Nat} {z : Int} {x : CmA} (h : AnI w wr bf X F l ids (W ++ [z]) (some ⟨g, 0, none⟩) c) (hcm : ∀ x ∈ X, CmR w x.c x.a x.cap) (hsm : ∀ x ∈ X, (x.a = none → x.cap = 0) ∧ x.c.ps.length ≤ 2) (hl : X.length ≤ 1000) (hil : ids.length ≤ 1000000)
    (hx : fX X z = some x) (hg : getG l z = some x.c) (hn : fX F z = none) {w2 : World} (b2 : Below wr.heap.size wr w2) :
    ∃ w3, (Instr.mapUpdate 61 (.map (some bf)) (.int .u64 z) (aggC x)).run Try.prog w2 = .ok () w3 ∧ Onl (fun i => i = bf) w2 w3 ∧ ∃ a' n' c' w4, (Builtin.append_ #[30, 30] 30 #[.slice (some ⟨g, 0, none⟩) W.length c, .slice x.a x.c.ps.length x.cap]).run Try.prog w3 = .ok (.slice a' n' c') w4 ∧ n' = (W ++ x.c.ps).length ∧ AnI w w4 bf X (F ++ [x]) l ids (W ++ x.c.ps) a' c' := by
  obtain ⟨hxm, hxi⟩ := fX_some hx
  have hw : w.heap.size ≤ wr.heap.size := h.b.size
  have B2 : Below w.heap.size w w2 := h.b.trans (b2.mono hw)
  have cs2 := h.cs.old b2
  have hn2 : fX F x.c.id = none := by rw [hxi]; exact hn
  have hsub : ∀ y ∈ F ++ [x], y ∈ X := fun y hy => by
    rcases List.mem_append.1 hy with q | q
    · exact h.sub y q
    · rw [List.mem_singleton.1 q]; exact hxm
  have hno := noTw_add h.cs.no hn2
  have hfl : (F ++ [x]).length ≤ X.length := sub_len hsub hno (fun y hy => (hcm y (hsub y hy)).sz.1.1)
  rw [List.length_append, List.length_singleton] at hfl
  obtain ⟨w3, R3, cs3, o3⟩ := cs2.put (Y := F ++ [x]) ((hcm x hxm).below B2) (hsm x hxm) hno (fun y => by rw [List.mem_append, List.mem_singleton]; exact Or.comm) hn2 (by omega)
  rw [hxi] at R3
  have B3 : Below w.heap.size w w3 := Below.onl B2 o3 (fun i q => by rw [q]; exact h.lo) (Nat.le_refl _)
  have hr := row_own h.row
  rw [List.length_append, List.length_singleton, List.map_append, List.map_singleton] at hr
  have r2 := (own_to0 (own_less hr)).onl (F := fun _ => False) (Onl.ofBelow b2) (fun _ _ q => q)
  have r3 := r2.onl o3 (fun q hq e => row_notmp r2 cs2.mp (by rw [hq, e]))
  have hfew := h.few
  rw [List.length_append, List.length_singleton] at hfew
  have hp2 := (hsm x hxm).2
  obtain ⟨a4, n4, c4, w4, R4, e4, r4, g4⟩ := app_u (W := w3) w.heap.size (v := .slice (some ⟨g, 0, none⟩) W.length c) (cur := W) (row_own r3) ((hcm x hxm).below B3).rd (hsm x hxm).1 (by omega) B3.size
  have hgw : w.heap.size ≤ g := r3.2 g rfl
  have o4 : Onl (fun i => i = g) w3 w4 := (Onl.refl (fun i => i = g) w3).grown g4 (fun k hk => by simp only [Value.ownBlock, Option.some.injEq] at hk; exact .inl hk.symm)
  have B4 : Below w.heap.size w w4 := Below.onl B3 o4 (fun i q => by rw [q]; exact hgw) (Nat.le_refl _)
  have hgb : g ≠ bf := fun e => row_notmp r3 cs3.mp (by rw [← e]; rfl)
  refine ⟨w3, R3, o3, a4, n4, c4, w4, R4, e4, B4, ⟨cs3.mp.onl o4 (fun e => hgb e.symm), fun y hy => (hcm y (hsub y hy)).below B4, cs3.sm, cs3.no⟩, h.lo, hsub, ?_, ?_, ?_, ?_⟩
  · rw [e4] at r4; exact own_to0 r4
  · have := h.dfs.take hg
    unfold idsX at this ⊢
    rw [List.map_append, List.map_singleton, hxi]
    exact this
  · rw [List.length_append, List.length_append, List.length_singleton]; omega
  · intro y hy
    rcases List.mem_append.1 hy with q | q
    · exact h.inu y (List.mem_append_left _ q)
    · exact (hcm x hxm).sz.2.1 y q
end
attribute [local go_sem ↓] Apo.app_exec
set_option maxRecDepth 100000 in
set_option maxHeartbeats 8000000 in
theorem anc_any {w : World} {m : Option Nat} {X : List CmA} {l : List Cm} (h : CsO w m X) (hl : X.length ≤ 1000) (hget : ∀ z, getG l z = (fX X z).map CmA.c) {ia : Option Addr} {ids : List Int} {ic : Nat} (hr : Rd .u64 w ia ids) (hn : ia = none → ic = 0) (hil : ids.length ≤ 1000000) (hu : InU ids) :
    Calls Try.prog 39 #[.map m, .slice ia ids.length ic] w (AnP w X l ids) := by
  obtain ⟨hcm, hsm, hX⟩ := h.cm
  have HCM : Hid (∀ x ∈ X, CmR w x.c x.a x.cap) := hide hcm
  have HSM : Hid (∀ x ∈ X, (x.a = none → x.cap = 0) ∧ x.c.ps.length ≤ 2) := hide hsm
  have HX := hide hX
  have HGET := hide hget
  have HH := hide h
  have HL := hide hl
  have HIL := hide hil
  have bA : Below w.heap.size w (w.alloc (.map #[] 0)) := (Below.refl _ _).alloc (Nat.le_refl _) _
  have HC0 := hide (clone_u (hr.below bA) hn hil)
  have HCS0 := hide (Cs.new w)
  have HB0 := hide bA
  have HIU := hide hu
  obtain ⟨n, hnn⟩ : ∃ n, n = ids.length := ⟨_, rfl⟩
  rw [← hnn] at HC0 ⊢
  have HN := hide hnn
  have hmm := @run_makeMap Try.prog
  clear h hcm hsm hX hget hr hn hil hu bA hnn hl
  go_enter Try.func39, Try.ntmps39
  go_wp2_with fail
  refine HC0.out.mono ?_
  rintro e w1 ⟨a1, n1, c1, rfl, rfl, r1, b1⟩
  have HI : Hid (AnI w w1 w.heap.size X [] l ids ids a1 c1) := hide ⟨HB0.out.trans (b1.mono HB0.out.size), HCS0.out.old b1, Nat.le_refl _, by simp, (by rw [HN.out] at r1; exact (own_to0 r1).mono (fun g hg => by simp at hg; omega)), Dfs.start l ids, by simp, HIU.out⟩
  clear r1 b1 HC0 HCS0 HB0 HIU
  go_wp2
  go_loopg [6] (3 * X.length + ids.length) (fun k v wr => ∃ (F : List CmA) (W : List Int) (a : Option Addr) (c nw : Nat), v = .slice a nw c ∧ Hid (nw = W.length) ∧ Hid (k = 3 * (X.length - F.length) + W.length) ∧ Hid (AnI w wr w.heap.size X F l ids W a c))
  case atStart => exact ⟨[], ids, a1, c1, _, rfl, HN, hide (by simp), HI⟩
  case round =>
    clear HI
    obtain ⟨F, W, a, c, nw, rfl, HNW, HK, HI⟩ := hrel
    rcases List.eq_nil_or_concat W with rfl | ⟨W', z, rfl⟩
    · obtain rfl : nw = 0 := by have := HNW.out; simpa using this
      have HF : Hid (AnP w X l ids (.returned (.map (some w.heap.size))) wr) := hide ⟨w.heap.size, F, rfl, Nat.le_refl _, HI.out.cs, HI.out.sub, HI.out.dfs.done, HI.out.b⟩
      clear HI
      go_wp2
      go_ret
      exact HF.out
    · simp only [List.concat_eq_append] at HNW HK HI
      obtain ⟨nn, hnn⟩ : ∃ nn, nn = W'.length := ⟨_, rfl⟩
      have HNN := hide hnn
      obtain rfl : nw = nn + 1 := by rw [HNW.out, hnn]; simp
      obtain ⟨g, c', hv, hgw, hgl, hnc, hcm2, hcell, _⟩ := HI.out.row.shape (by simp)
      injection hv with e1 e2 e3
      subst e1 e3
      rw [List.length_append, List.length_singleton, ← hnn] at hnc
      have hfew := HI.out.few
      have hFX : F.length ≤ X.length := sub_len HI.out.sub HI.out.cs.no (fun y hy => (HCM.out y (HI.out.sub y hy)).sz.1.1)
      rw [List.length_append, List.length_singleton, ← hnn] at hfew
      have c0 : wr.cell? ⟨g, nn, none⟩ = some (.int .u64 z) := by
        have := hcell nn (by simp [hnn])
        rw [this, hnn]
        simp
      have hnb : nn ≤ 2000000 := by have := HL.out; have := HIL.out; omega
      have hcb : c ≤ 9223372036854775807 := by unfold maxLen at hcm2; omega
      have w0 : IntKind.i64.wrap (((nn + 1 : Nat) : Int) - 1) = (nn : Int) := by rw [IntKind.wrap_i64]; omega
      have hzu : 0 ≤ z ∧ z ≤ 18446744073709551615 := by have := HI.out.inu z (by simp); omega
      have hlk := (HH.out.old HI.out.b).look2 hzu.1 hzu.2
      have hgz := HGET.out z
      have HNC : Hid (nn ≤ c) := hide (by omega)
      have hncc : nn ≤ c := by omega
      clear hcell hcm2 hfew hgw hnn hnc
      cases hq : fX X z with
      | none =>
        rw [hq] at hlk hgz
        have hF : fX F z = none := fX_no (fun y hy => fX_none hq y (HI.out.sub y hy))
        have hlk1 : (Instr.lookup 61 (.map m) (.int .u64 z) true).run Try.prog wr = .ok (.tuple #[.agg #[.int .u64 0, .slice none 0 0, .int .u64 0, .int .u64 0, .string ⟨#[]⟩], .bool false]) wr := hlk
        have b1 : Below wr.heap.size wr (wr.alloc (.cells #[.int .u64 0, .slice none 0 0, .int .u64 0, .int .u64 0, .string ⟨#[]⟩] 32)) := (Below.refl _ _).alloc (Nat.le_refl _) _
        have b2 : Below wr.heap.size wr ((wr.alloc (.cells #[.int .u64 0, .slice none 0 0, .int .u64 0, .int .u64 0, .string ⟨#[]⟩] 32)).alloc (.cells #[.int .u64 0, .slice none 0 0, .int .u64 0, .int .u64 0, .string ⟨#[]⟩] 32)) := b1.alloc (by simp) _
        have hlkb := mc_look2 (HI.out.cs.old b1).mp hzu.1 hzu.2
        rw [hF] at hlkb
        have hlk2 : (Instr.lookup 61 (.map (some w.heap.size)) (.int .u64 z) true).run Try.prog (wr.alloc (.cells #[.int .u64 0, .slice none 0 0, .int .u64 0, .int .u64 0, .string ⟨#[]⟩] 32)) = .ok (.tuple #[.agg #[.int .u64 0, .slice none 0 0, .int .u64 0, .int .u64 0, .string ⟨#[]⟩], .bool false]) (wr.alloc (.cells #[.int .u64 0, .slice none 0 0, .int .u64 0, .int .u64 0, .string ⟨#[]⟩] 32)) := hlkb
        have HJ := hide (HI.out.skip (.inr (by rw [hgz]; rfl)) b2)
        have HK2 : Hid (3 * (X.length - F.length) + W'.length < gk) := hide (by rw [HK.out]; simp)
        clear hlk hlkb b1 b2 hgz hq hF HI
        go_wp2
        go_roundg (3 * (X.length - F.length) + W'.length)
        case measure => exact HK2.out
        case rel => exact ⟨F, W', some ⟨g, 0, none⟩, c, nn, rfl, HNN, hide rfl, HJ⟩
      | some x =>
        rw [hq] at hlk hgz
        have hlk1 : (Instr.lookup 61 (.map m) (.int .u64 z) true).run Try.prog wr = .ok (.tuple #[.agg #[.int .u64 x.c.id, .slice x.a x.c.ps.length x.cap, .int .u64 x.c.gen, .int .u64 x.c.root, .string x.c.tx], .bool true]) wr := hlk
        have b1 : Below wr.heap.size wr (wr.alloc (.cells #[.int .u64 x.c.id, .slice x.a x.c.ps.length x.cap, .int .u64 x.c.gen, .int .u64 x.c.root, .string x.c.tx] 32)) := (Below.refl _ _).alloc (Nat.le_refl _) _
        have hlkb := mc_look2 (HI.out.cs.old b1).mp hzu.1 hzu.2
        rcases fX_sub HI.out.sub HX.out hq with hF | hF
        · rw [hF] at hlkb
          have hlk2 : (Instr.lookup 61 (.map (some w.heap.size)) (.int .u64 z) true).run Try.prog (wr.alloc (.cells #[.int .u64 x.c.id, .slice x.a x.c.ps.length x.cap, .int .u64 x.c.gen, .int .u64 x.c.root, .string x.c.tx] 32)) = .ok (.tuple #[.agg #[.int .u64 0, .slice none 0 0, .int .u64 0, .int .u64 0, .string ⟨#[]⟩], .bool false]) (wr.alloc (.cells #[.int .u64 x.c.id, .slice x.a x.c.ps.length x.cap, .int .u64 x.c.gen, .int .u64 x.c.root, .string x.c.tx] 32)) := hlkb
          have b2 : Below wr.heap.size wr ((wr.alloc (.cells #[.int .u64 x.c.id, .slice x.a x.c.ps.length x.cap, .int .u64 x.c.gen, .int .u64 x.c.root, .string x.c.tx] 32)).alloc (.cells #[.int .u64 0, .slice none 0 0, .int .u64 0, .int .u64 0, .string ⟨#[]⟩] 32)) := b1.alloc (by simp) _
          obtain ⟨w3, R3, o3, a4, n4, c4, w4, R4, e4, HJ⟩ := HI.out.take HCM.out HSM.out HL.out HIL.out hq (by rw [hgz]; rfl) hF b2
          have k2 : Ob ((wr.alloc (.cells #[.int .u64 x.c.id, .slice x.a x.c.ps.length x.cap, .int .u64 x.c.gen, .int .u64 x.c.root, .string x.c.tx] 32)).alloc (.cells #[.int .u64 0, .slice none 0 0, .int .u64 0, .int .u64 0, .string ⟨#[]⟩] 32)) wr.heap.size 32 [.int .u64 x.c.id, .slice x.a x.c.ps.length x.cap, .int .u64 x.c.gen, .int .u64 x.c.root, .string x.c.tx] := (Ob.new wr [.int .u64 x.c.id, .slice x.a x.c.ps.length x.cap, .int .u64 x.c.gen, .int .u64 x.c.root, .string x.c.tx] 32).alloc _
          have hsz : w.heap.size < wr.heap.size := HI.out.cs.lt
          have k3 := k2.onl o3 (by omega)
          have y1 := k3.cell 1
          simp only [List.getElem?_cons_zero, List.getElem?_cons_succ] at y1
          have HJ := hide HJ
          have HE4 := hide e4
          have HK2 : Hid (3 * (X.length - (F ++ [x]).length) + (W' ++ x.c.ps).length < gk) := hide (by
            have h2 := (HSM.out x (fX_some hq).1).2
            have h3 := sub_len HJ.out.sub HJ.out.cs.no (fun y hy => (HCM.out y (HJ.out.sub y hy)).sz.1.1)
            rw [HK.out]
            simp at h3 ⊢
            omega)
          unfold aggC at R3
          rw [← HNN.out] at R4
          obtain ⟨z1, z2, z3⟩ := app_runs R4
          clear hlk hlkb b1 b2 hgz hq hF HI k2 k3 o3 e4 R4 hFX
          generalize x.c.ps.length = np at *
          go_wp2
          go_roundg (3 * (X.length - (F ++ [x]).length) + (W' ++ x.c.ps).length)
          case measure => exact HK2.out
          case rel => exact ⟨F ++ [x], W' ++ x.c.ps, a4, c4, n4, rfl, HE4, hide rfl, HJ⟩
        · rw [hF] at hlkb
          have hlk2 : (Instr.lookup 61 (.map (some w.heap.size)) (.int .u64 z) true).run Try.prog (wr.alloc (.cells #[.int .u64 x.c.id, .slice x.a x.c.ps.length x.cap, .int .u64 x.c.gen, .int .u64 x.c.root, .string x.c.tx] 32)) = .ok (.tuple #[.agg #[.int .u64 x.c.id, .slice x.a x.c.ps.length x.cap, .int .u64 x.c.gen, .int .u64 x.c.root, .string x.c.tx], .bool true]) (wr.alloc (.cells #[.int .u64 x.c.id, .slice x.a x.c.ps.length x.cap, .int .u64 x.c.gen, .int .u64 x.c.root, .string x.c.tx] 32)) := hlkb
          have b2 : Below wr.heap.size wr ((wr.alloc (.cells #[.int .u64 x.c.id, .slice x.a x.c.ps.length x.cap, .int .u64 x.c.gen, .int .u64 x.c.root, .string x.c.tx] 32)).alloc (.cells #[.int .u64 x.c.id, .slice x.a x.c.ps.length x.cap, .int .u64 x.c.gen, .int .u64 x.c.root, .string x.c.tx] 32)) := b1.alloc (by simp) _
          have HJ := hide (HI.out.skip (.inl (by have := fX_in F z; rw [hF] at this; simpa using this.symm)) b2)
          have HK2 : Hid (3 * (X.length - F.length) + W'.length < gk) := hide (by rw [HK.out]; simp)
          clear hlk hlkb b1 b2 hgz hq hF HI
          go_wp2
          go_roundg (3 * (X.length - F.length) + W'.length)
          case measure => exact HK2.out
          case rel => exact ⟨F, W', some ⟨g, 0, none⟩, c, nn, rfl, HNN, hide rfl, HJ⟩
end Go.Proofs.Ytmkafoidfgaokaa
