/- The document's device in memory, and what its has, act, Arm and Fault do, over the translation. -/
import Derived.Test.YtdpbkmbegjcgjaaRows
import Derived.Test.YtdpbkmbegjcgjaaSd
import Derived.WalkKit
import Derived.WalkSpells
import Derived.WalkLawsBesides
import Derived.Handy
namespace Apo
open Go Go.RowKit

/-- cells of cached writes: a place, then the bytes' slice -/
def ccells : List (Nat × List Int) → List Value → List Value
  | x :: c, v :: vs => .int .i64 x.1 :: v :: ccells c vs
  | _, _ => []
theorem ccells_len : ∀ {c : List (Nat × List Int)} {vs : List Value}, vs.length = c.length → (ccells c vs).length = c.length * 2
  | [], [], _ => rfl
  | [], _ :: _, h => by simp at h
  | _ :: _, [], h => by simp at h
  | x :: c, v :: vs, h => by
    simp only [ccells, List.length_cons]
    rw [ccells_len (by simpa using h)]
    omega
theorem ccells_at : ∀ {c : List (Nat × List Int)} {vs : List Value} {i : Nat} {x : Nat × List Int} {v : Value}, c[i]? = some x → vs[i]? = some v → (ccells c vs)[i * 2]? = some (.int .i64 x.1) ∧ (ccells c vs)[i * 2 + 1]? = some v
  | [], _, _, _, _, h, _ => by simp at h
  | _ :: _, [], _, _, _, _, h => by simp at h
  | y :: c, u :: vs, 0, x, v, h, k => by
    simp at h k
    subst h k
    exact ⟨rfl, rfl⟩
  | y :: c, u :: vs, i + 1, x, v, h, k => by
    have := ccells_at (c := c) (vs := vs) (i := i) (by simpa using h) (by simpa using k)
    have e : (i + 1) * 2 = i * 2 + 1 + 1 := by omega
    rw [e]
    simp only [ccells, List.getElem?_cons_succ]
    exact this
theorem ccells_snoc : ∀ {c : List (Nat × List Int)} {vs : List Value} (x : Nat × List Int) (v : Value), vs.length = c.length → ccells (c ++ [x]) (vs ++ [v]) = ccells c vs ++ [.int .i64 x.1, v]
  | [], [], _, _, _ => rfl
  | [], _ :: _, _, _, h => by simp at h
  | _ :: _, [], _, _, h => by simp at h
  | y :: c, u :: vs, x, v, h => by
    simp only [List.cons_append, ccells]
    rw [ccells_snoc x v (by simpa using h)]

/-- a sector's bytes -/
def Byt (O : Nat → Prop) (e : TypeId) (w : World) (v : Value) (r : List Int) : Prop := Row O w e 1 v 32 (r.map (Value.int .u8))
def Byts (O : Nat → Prop) (e : TypeId) (w : World) (vs : List Value) (rs : List (List Int)) : Prop := vs.length = rs.length ∧ ∀ (i : Nat) (v : Value) (r : List Int), vs[i]? = some v → rs[i]? = some r → Byt O e w v r
theorem Byts.nil (O : Nat → Prop) (e : TypeId) (w : World) : Byts O e w [] [] := ⟨rfl, by simp⟩
theorem Byts.set {O : Nat → Prop} {e : TypeId} {w : World} {vs : List Value} {rs : List (List Int)} (h : Byts O e w vs rs) {v : Value} {r : List Int} (k : Byt O e w v r) (i : Nat) : Byts O e w (vs.set i v) (rs.set i r) := by
  refine ⟨by simp [h.1], ?_⟩
  intro j u q hu hq
  rw [List.getElem?_set] at hu hq
  have hl := h.1
  split at hu
  · next hij =>
    rw [if_pos hij] at hq
    split at hu
    · rw [if_pos (by omega)] at hq
      cases hu
      cases hq
      exact k
    · cases hu
  · next hij =>
    rw [if_neg hij] at hq
    exact h.2 j u q hu hq
theorem Byts.snoc {O : Nat → Prop} {e : TypeId} {w : World} {vs : List Value} {rs : List (List Int)} (h : Byts O e w vs rs) {v : Value} {r : List Int} (k : Byt O e w v r) : Byts O e w (vs ++ [v]) (rs ++ [r]) := by
  have hl := h.1
  refine ⟨by simp [hl], ?_⟩
  intro j u q hu hq
  rw [List.getElem?_append] at hu hq
  split at hu
  · rw [if_pos (by omega)] at hq
    exact h.2 j u q hu hq
  · rw [if_neg (by omega)] at hq
    have e1 : j - vs.length = 0 := by
      rcases Nat.eq_zero_or_pos (j - vs.length) with e | e
      · exact e
      · rw [List.getElem?_eq_none (by simp; omega)] at hu; cases hu
    have e2 : j - rs.length = 0 := by omega
    rw [e1] at hu
    rw [e2] at hq
    simp at hu hq
    subst hu hq
    exact k
theorem Byts.onl {O F : Nat → Prop} {e : TypeId} {w w' : World} {vs : List Value} {rs : List (List Int)} (h : Byts O e w vs rs) (ho : Onl F w w') (hF : ∀ v r g, Byt O e w v r → v.ownBlock = some g → ¬ F g) : Byts O e w' vs rs :=
  ⟨h.1, fun i v r hv hr => (h.2 i v r hv hr).onl ho (fun g hg => hF v r g (h.2 i v r hv hr) hg)⟩
theorem Byts.mono {O O' : Nat → Prop} {e : TypeId} {w : World} {vs : List Value} {rs : List (List Int)} (h : Byts O e w vs rs) (hO : ∀ i, O i → O' i) : Byts O' e w vs rs := ⟨h.1, fun i v r hv hr => (h.2 i v r hv hr).mono hO⟩
end Apo
namespace Go.Proofs.Ytdpbkmbegjcgjaa
open Go.RowKit Apo

/-- what lies in memory of a document's device, by its parts: vS, vC, vB its three slices, rv and cv the sectors' and the cached writes' slices -/
structure RParts (O : Nat → Prop) (w : World) (p : Nat) (st : Sd) (vS vC vB : Value) (rv cv : List Value) : Prop where
  ob : Ob w p 76 [vS, vC, vB, .int .i64 st.left, .bool st.dead]
  own : O p
  sS : Row O w 26 1 vS st.S.length rv
  sR : Byts O 5 w rv st.S
  sC : Row O w 82 2 vC st.C.length (ccells st.C cv)
  sW : Byts O 5 w cv (st.C.map (·.2))
  sB : Row O w 4 1 vB st.bad.length (st.bad.map Value.bool)
  ok : OkS st
def RDev (O : Nat → Prop) (w : World) (p : Nat) (st : Sd) : Prop := ∃ vS vC vB rv cv, RParts O w p st vS vC vB rv cv

theorem RDev.ok {O : Nat → Prop} {w : World} {p : Nat} {st : Sd} (h : RDev O w p st) : OkS st := by obtain ⟨_, _, _, _, _, h⟩ := h; exact h.ok
theorem RDev.own {O : Nat → Prop} {w : World} {p : Nat} {st : Sd} (h : RDev O w p st) : O p := by obtain ⟨_, _, _, _, _, h⟩ := h; exact h.own
theorem RParts.onl {O F : Nat → Prop} {w w' : World} {p : Nat} {st : Sd} {vS vC vB : Value} {rv cv : List Value} (h : RParts O w p st vS vC vB rv cv) (ho : Onl F w w') (hF : ∀ i, O i → ¬ F i) : RParts O w' p st vS vC vB rv cv :=
  ⟨h.ob.onl ho (hF p h.own), h.own, h.sS.onl ho (fun g hg => hF g (h.sS.2 g hg)), h.sR.onl ho (fun _ _ g hb hg => hF g (hb.2 g hg)), h.sC.onl ho (fun g hg => hF g (h.sC.2 g hg)), h.sW.onl ho (fun _ _ g hb hg => hF g (hb.2 g hg)), h.sB.onl ho (fun g hg => hF g (h.sB.2 g hg)), h.ok⟩
theorem RDev.onl {O F : Nat → Prop} {w w' : World} {p : Nat} {st : Sd} (h : RDev O w p st) (ho : Onl F w w') (hF : ∀ i, O i → ¬ F i) : RDev O w' p st := by
  obtain ⟨_, _, _, _, _, h⟩ := h
  exact ⟨_, _, _, _, _, h.onl ho hF⟩
/-- one cell of the object is set: the rest stays -/
theorem RParts.setOb {O : Nat → Prop} {w : World} {p : Nat} {st : Sd} {vS vC vB : Value} {rv cv : List Value} (h : RParts O w p st vS vC vB rv cv) (i : Nat) (u : Value) {st' : Sd} (hS : st'.S = st.S) (hC : st'.C = st.C) (hB : st'.bad = st.bad) (ok : OkS st')
    (e : [vS, vC, vB, .int .i64 st.left, .bool st.dead].set i u = [vS, vC, vB, .int .i64 st'.left, .bool st'.dead]) : RParts O (w.setCell ⟨p, i, none⟩ u) p st' vS vC vB rv cv := by
  have o1 : Onl (fun k => k = p) w (w.setCell ⟨p, i, none⟩ u) := Onl.set (O := fun k => k = p) (Onl.refl _ w) (.inl rfl) u
  refine ⟨by rw [← e]; exact h.ob.set i u, h.own, ?_, ?_, ?_, ?_, ?_, ok⟩
  · rw [hS]; exact h.sS.onl o1 (fun g hg q => h.sS.apartOb h.ob (by decide) (by rw [hg, q]))
  · rw [hS]; exact h.sR.onl o1 (fun v r g hb hg q => Row.apartOb hb h.ob (by decide) (by rw [hg, q]))
  · rw [hC]; exact h.sC.onl o1 (fun g hg q => h.sC.apartOb h.ob (by decide) (by rw [hg, q]))
  · rw [hC]; exact h.sW.onl o1 (fun v r g hb hg q => Row.apartOb hb h.ob (by decide) (by rw [hg, q]))
  · rw [hB]; exact h.sB.onl o1 (fun g hg q => h.sB.apartOb h.ob (by decide) (by rw [hg, q]))

set_option maxHeartbeats 400000 in
theorem rhas_any {O : Nat → Prop} {w : World} {p : Nat} {st : Sd} (h : RDev O w p st) (a : Int) :
    Calls Try.prog 32 #[.pointer (some ⟨p, 0, none⟩), .int .i64 a] w fun e w' => e = .returned (.bool (st.has a)) ∧ w = w' := by
  obtain ⟨vS, vC, vB, rv, cv, h⟩ := h
  have c0 := h.ob.cell 0
  obtain ⟨sa, scap, hvS, hs1, hs2, hs3⟩ := h.sS.form
  subst hvS
  have hsz := h.ok.size
  simp only [List.getElem?_cons_zero] at c0
  clear h
  by_cases ha : 0 ≤ a
  · have e1 : st.has a = decide (a < (st.S.length : Int)) := by simp [Sd.has, ha]
    rw [e1]
    clear e1
    go_enter Try.func32, Try.ntmps32
    go_wp2
    go_ret
    exact ⟨rfl, rfl⟩
  · have e1 : st.has a = false := by simp [Sd.has, ha]
    rw [e1]
    clear e1
    go_enter Try.func32, Try.ntmps32
    go_wp2
    go_ret
    exact ⟨rfl, rfl⟩

set_option maxHeartbeats 400000 in
theorem ract_any {O : Nat → Prop} {w : World} {p : Nat} {st : Sd} (h : RDev O w p st) :
    Calls Try.prog 33 #[.pointer (some ⟨p, 0, none⟩)] w fun e w' => e = .returned (.bool st.acts) ∧ RDev O w' p st.acted ∧ Onl O w w' := by
  obtain ⟨vS, vC, vB, rv, cv, h⟩ := h
  have c3 := h.ob.cell 3
  have c4 := h.ob.cell 4
  have f3 := h.ob.frozen 3
  have f4 := h.ob.frozen 4
  simp only [List.getElem?_cons_zero, List.getElem?_cons_succ] at c3 c4
  have hl0 := h.ok.l0
  have hl1 := h.ok.l1
  have ok := h.ok.acted
  have H : Hid _ := h
  clear h
  by_cases hd : st.dead = true
  · have e1 : st.acts = false := by simp [Sd.acts, hd]
    have e2 : st.acted = { st with dead := true } := by unfold Sd.acted; rw [e1]; rfl
    rw [e2] at ok ⊢
    rw [e1]
    rw [hd] at c4
    clear e1 e2
    go_enter Try.func33, Try.ntmps33
    go_wp2
    go_ret
    exact ⟨rfl, ⟨_, _, _, _, _, H.out.setOb 4 _ rfl rfl rfl ok rfl⟩, (Onl.refl _ _).set (.inl H.out.own) _⟩
  · have hd' : st.dead = false := by simpa using hd
    by_cases hz : st.left = 0
    · have e1 : st.acts = false := by simp [Sd.acts, hz]
      have e2 : st.acted = { st with dead := true } := by unfold Sd.acted; rw [e1]; rfl
      rw [e2] at ok ⊢
      rw [e1]
      rw [hd'] at c4
      rw [hz] at c3
      clear e1 e2 hd
      go_enter Try.func33, Try.ntmps33
      go_wp2
      go_ret
      exact ⟨rfl, ⟨_, _, _, _, _, H.out.setOb 4 _ rfl rfl rfl ok rfl⟩, (Onl.refl _ _).set (.inl H.out.own) _⟩
    · have hz' : (st.left == 0) = false := by simpa using hz
      have e1 : st.acts = true := by simp [Sd.acts, hd', hz]
      by_cases hp : 0 < st.left
      · have e2 : st.acted = { st with left := st.left - 1 } := by unfold Sd.acted; rw [e1]; simp [hp]
        rw [e2] at ok ⊢
        rw [e1]
        rw [hd'] at c4
        clear e1 e2 hd
        go_enter Try.func33, Try.ntmps33
        go_wp2
        go_ret
        exact ⟨rfl, ⟨_, _, _, _, _, H.out.setOb 3 _ rfl rfl rfl ok rfl⟩, (Onl.refl _ _).set (.inl H.out.own) _⟩
      · have e2 : st.acted = st := by unfold Sd.acted; rw [e1]; simp [hp]
        rw [e2] at ok ⊢
        rw [e1]
        rw [hd'] at c4
        clear e1 e2 hd
        go_enter Try.func33, Try.ntmps33
        go_wp2
        go_ret
        exact ⟨rfl, ⟨_, _, _, _, _, H.out⟩, Onl.refl _ _⟩

/-- a fault is laid or taken away -/
theorem RParts.setB {O : Nat → Prop} {w : World} {p : Nat} {st : Sd} {vS vC : Value} {g cap : Nat} {rv cv : List Value} (h : RParts O w p st vS vC (.slice (some ⟨g, 0, none⟩) st.bad.length cap) rv cv) (i : Nat) (u : Bool) :
    RParts O (w.setCell ⟨g, i, none⟩ (.bool u)) p { st with bad := st.bad.set i u } vS vC (.slice (some ⟨g, 0, none⟩) st.bad.length cap) rv cv := by
  have o1 : Onl (fun k => k = g) w (w.setCell ⟨g, i, none⟩ (.bool u)) := Onl.set (O := fun k => k = g) (Onl.refl _ w) (.inl rfl) _
  refine ⟨h.ob.onl o1 (fun q => h.sB.apartOb h.ob (by decide) (by rw [q]; rfl)), h.own, h.sS.onl o1 (fun k hk q => h.sS.apart h.sB (by decide) k hk (by rw [q]; rfl)), h.sR.onl o1 (fun v r k hb hk q => Row.apart hb h.sB (by decide) k hk (by rw [q]; rfl)),
    h.sC.onl o1 (fun k hk q => h.sC.apart h.sB (by decide) k hk (by rw [q]; rfl)), h.sW.onl o1 (fun v r k hb hk q => Row.apart hb h.sB (by decide) k hk (by rw [q]; rfl)), ?_, ?_⟩
  · have := h.sB.stored i (.bool u)
    simpa [List.map_set] using this
  · exact ⟨h.ok.secs, h.ok.cach, by simp [h.ok.bads], h.ok.size, h.ok.l0, h.ok.l1⟩

/-- a sector is kept -/
theorem RParts.setS {O : Nat → Prop} {w : World} {p : Nat} {st : Sd} {vC vB : Value} {g cap : Nat} {rv cv : List Value} (h : RParts O w p st (.slice (some ⟨g, 0, none⟩) st.S.length cap) vC vB rv cv) (i : Nat) {v : Value} {r : List Int} (hb : Byt O 5 w v r) (hr : Sec r) :
    RParts O (w.setCell ⟨g, i, none⟩ v) p { st with S := st.S.set i r } (.slice (some ⟨g, 0, none⟩) st.S.length cap) vC vB (rv.set i v) cv := by
  have o1 : Onl (fun k => k = g) w (w.setCell ⟨g, i, none⟩ v) := Onl.set (O := fun k => k = g) (Onl.refl _ w) (.inl rfl) _
  have ap : ∀ (u : Value) (q : List Int) k, Byt O 5 w u q → u.ownBlock = some k → ¬ k = g := fun u q k hb hk e => Row.apart hb h.sS (by decide) k hk (by rw [e]; rfl)
  refine ⟨h.ob.onl o1 (fun q => h.sS.apartOb h.ob (by decide) (by rw [q]; rfl)), h.own, ?_, (h.sR.set hb i).onl o1 ap,
    h.sC.onl o1 (fun k hk q => h.sC.apart h.sS (by decide) k hk (by rw [q]; rfl)), h.sW.onl o1 ap, h.sB.onl o1 (fun k hk q => h.sB.apart h.sS (by decide) k hk (by rw [q]; rfl)), ?_⟩
  · have := h.sS.stored i v
    simpa using this
  · refine ⟨fun q hq => ?_, fun x hx => by simpa using h.ok.cach x hx, by simp [h.ok.bads], by simpa using h.ok.size, h.ok.l0, h.ok.l1⟩
    rcases List.mem_or_eq_of_mem_set hq with hq | hq
    · exact h.ok.secs q hq
    · rw [hq]; exact hr

end Go.Proofs.Ytdpbkmbegjcgjaa
