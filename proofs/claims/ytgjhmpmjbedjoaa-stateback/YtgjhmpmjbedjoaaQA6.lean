/- What the methods of pack.Writer do, over the translation. The document's Num and Text behind a row that somebody owns: nothing else is changed. Over the translation. The document's Text behind a row that somebody owns. Over the translation. pack.Writer's methods with their frame: nothing but the writer's own is changed. Over the translation. -/
import Derived.Handy
import Derived.Deep.RegionLaw
import Derived.Maps.AppendAt
import Derived.Test.YtgjhmpmjbedjoaaQA5
import Derived.Test.YtgjhmpmjbedjoaaQGBa
namespace Go.Proofs.Ytgjhmpmjbedjoaa
open Go.RowKit Apo

/-- the writer in block p has written the bytes l: its one cell holds a slice of the call's own, which lies above it -/
def Wr (w : World) (p : Nat) (l : List Int) : Prop := ∃ v, Ob w p 53 [v] ∧ w.ownsRow (p + 1) 5 1 v l.length (l.map (Value.int .u8))

set_option maxRecDepth 100000 in
theorem Wr.lt {w : World} {p : Nat} {l : List Int} (h : Wr w p l) : p < w.heap.size := by
  obtain ⟨v, h1, _⟩ := h; exact h1.lt

set_option maxRecDepth 100000 in
theorem Wr.old {w w' : World} {p : Nat} {l : List Int} (h : Wr w p l) (hb : Below w.heap.size w w') : Wr w' p l := by
  obtain ⟨v, h1, h2⟩ := h
  refine ⟨v, h1.old hb, h2.kept (grew_below none hb) ?_⟩
  cases v.ownBlock <;> simp

set_option maxRecDepth 100000 in
/-- what one append of the writer's own makes of it -/
theorem wr_step {w w1 w2 : World} {p : Nat} {v v2 : Value} {cur l : List Int} {n : Nat} (hob : Ob w p 53 [v]) (hown : w.ownsRow (p + 1) 5 1 v cur.length (cur.map (Value.int .u8))) (hb : Below w.heap.size w w1)
    (hg : w1.grownBy w2 v.ownBlock) (h2 : w2.ownsRow (p + 1) 5 1 v2 n (l.map (Value.int .u8))) :
    w2.cell? ⟨p, 0, none⟩ = some v ∧ w2.frozen? ⟨p, 0, none⟩ = false ∧ (n = l.length → Wr (w2.setCell ⟨p, 0, none⟩ v2) p l) ∧ Below p w (w2.setCell ⟨p, 0, none⟩ v2) := by
  have hne : v.ownBlock ≠ some p := by
    intro e
    have := (hown.lt p e).1
    omega
  have o2 : Ob w2 p 53 [v] := (hob.old hb).kept hg hne
  have hp := hob.lt
  refine ⟨o2.cell 0, o2.frozen 0, fun e => ⟨v2, o2.set 0 v2, ?_⟩, ?_⟩
  · subst e
    exact ownsRow_setCell_below h2 (by show p < p + 1; omega) _
  · refine Below.setCell ?_ (Nat.le_refl p) _
    exact (hb.mono (by omega)).grown hg (by have := hb.size; omega) (fun k hk => by have := (hown.lt k hk).1; omega)

attribute [local go_sem ↓] Go.wp_at_zero Go.wp_at_succ

set_option maxRecDepth 100000 in
set_option maxHeartbeats 1000000 in
theorem wnum_any (p : Nat) (cur : List Int) (a : Option Addr) (cap : Nat) (l : List Int) (w : World) (hw : Wr w p cur) (hr : Rd .u64 w a l) (hu : InU l) (hc : cur.length ≤ 1099511627776) (hl : l.length ≤ 1099511627776) :
    Calls Try.prog 23 #[.pointer (some ⟨p, 0, none⟩), .slice a l.length cap] w fun e w' => e = .returned (.tuple #[]) ∧ Wr w' p (cur ++ encs l) ∧ Below p w w' := by
  obtain ⟨i0, hi, hz0, hz1, hz2⟩ := info_parts infoU8
  obtain ⟨v, hob, hown⟩ := hw
  obtain ⟨av, cv, hv, _⟩ := own_form hown
  have hT := encs_len l
  have hp := hob.lt
  have hR := hide hr
  have hO := hide hob
  have hW := hide hown
  have c0 := hob.cell 0
  have f0 := hob.frozen 0
  simp only [List.getElem?_cons_zero] at c0
  subst hv
  have hbd : Below w.heap.size w w.drew := (Below.refl _ _).drew
  clear hown hob hr
  go_enter Try.func23, Try.ntmps23
  go_wp2
  go_region_law (first
    | (refine step_append_rd (by rfl) _ _ 30 (by rfl) (p + 1) 5 i0 (.int .u8 0) 1 Try.underlying30 hi hz0 hz1 hz2 rfl .u8 _ cur (by rfl) hW1.out a1 c1 (encs l) (by rfl) hR1.out hN1.out (by unfold maxLen; omega) (by omega) (by omega) ?_; intro v2 w2 hown2 hgrow2; obtain ⟨a2, c2, hv2, _⟩ := own_form hown2; subst hv2; obtain ⟨k1, k2, k3, k4⟩ := wr_step hO.out hW.out hb1 hgrow2 hown2; have K3 := hide (k3 rfl); simp only [List.length_append] at k4 K3; clear hown2 hgrow2 k3)
    | (go_simp; first
      | (go_at_call 51; refine (lput_any none 0 [] a cap l w.drew (Rd.nil _ _ _) (fun _ => rfl) (hR.out.below hbd) hu (by simp) hl).mono ?_; rintro e w1 ⟨v1, rfl, hown1, hb1'⟩; have hb1 : Below w.heap.size w w1 := hbd.trans hb1'; have hs1 := hb1.size; rw [List.nil_append] at hown1; obtain ⟨a1, c1, hv1, _, hn1⟩ := own_form hown1; subst hv1; have hR1 := hide (Rd.own hown1).1; have hN1 := hide hn1; have hW1 : Hid (w1.ownsRow (p + 1) 5 1 (.slice av cur.length cv) cur.length (cur.map (Value.int .u8))) := hW.out.kept (grew_below none hb1) (by cases av <;> simp [Value.ownBlock]); have d0 := (hb1.cell (p := ⟨p, 0, none⟩) hp).trans c0; have g0 := (hb1.frozen (p := ⟨p, 0, none⟩) hp).trans f0; clear hown1 hb1' hn1)))
  all_goals
    go_wp2
    go_returns
    exact ⟨rfl, by assumption, by assumption⟩

set_option maxRecDepth 100000 in
theorem encs_one (z : Int) : encs [z] = enc z.toNat := by simp [encs]

set_option maxRecDepth 100000 in
/-- one number -/
theorem wnum_one (p : Nat) (cur : List Int) (n : Int) (w : World) (q : Nat) (hq : q = w.heap.size) (hw : Wr w p cur) (h0 : 0 ≤ n) (h1 : n ≤ 18446744073709551615) (hc : cur.length ≤ 1099511627776) :
    Calls Try.prog 23 #[.pointer (some ⟨p, 0, none⟩), .slice (some ⟨q, 0, none⟩) 1 1] (w.alloc (.cells #[.int .u64 n] 22)) fun e w' => e = .returned (.tuple #[]) ∧ Wr w' p (cur ++ enc n.toNat) ∧ Below p w w' := by
  subst hq
  have hb : Below w.heap.size w (w.alloc (.cells #[.int .u64 n] 22)) := (Below.refl _ _).alloc (Nat.le_refl _) _
  refine (wnum_any p cur (some ⟨w.heap.size, 0, none⟩) 1 [n] _ (hw.old hb) (rd_lit1 _ _ _ _) (by intro z hz; simp at hz; omega) hc (by simp)).mono ?_
  rintro e w' ⟨rfl, h2, h3⟩
  rw [encs_one] at h2
  exact ⟨rfl, h2, (hb.mono (Nat.le_of_lt hw.lt)).trans h3⟩

set_option maxRecDepth 100000 in
set_option maxHeartbeats 1000000 in
theorem wtext_any (p : Nat) (cur : List Int) (s : ByteArray) (w : World) (hw : Wr w p cur) (hc : cur.length + s.size ≤ 1000000000000) :
    Calls Try.prog 22 #[.pointer (some ⟨p, 0, none⟩), .string s] w fun e w' => e = .returned (.tuple #[]) ∧ Wr w' p (cur ++ (enc s.size ++ nums s)) ∧ Below p w w' := by
  obtain ⟨i0, hi, hz0, hz1, hz2⟩ := info_parts infoU8
  have hW := hide hw
  have hp := hw.lt
  have hel := enc_len s.size
  clear hw
  go_enter Try.func22, Try.ntmps22
  go_wp2_with fail
  refine (wnum_one p cur s.size w _ rfl hW.out (by omega) (by omega) (by omega)).mono ?_
  rintro e w1 ⟨rfl, ⟨v, hob, hown⟩, hb1⟩
  simp only [Int.toNat_natCast] at hown
  obtain ⟨av, cv, hv, _⟩ := own_form hown
  have hO := hide hob
  have hN := hide hown
  have c0 := hob.cell 0
  have f0 := hob.frozen 0
  have hp1 := hob.lt
  simp only [List.getElem?_cons_zero] at c0
  rw [List.length_append] at hv
  subst hv
  clear hown hob
  go_wp2_with (at_builtin; refine Lib.wpList_append_own_string _ rfl _ _ 30 9 rfl (p + 1) 5 i0 Try.underlying30 Try.underlying9 hi hz0 hz1 hz2 _ (cur ++ enc s.size).length ((cur ++ enc s.size).map (Value.int .u8)) rfl hN.out s rfl (by rw [List.length_append]; unfold maxLen; omega) (by rw [List.length_append]; omega) (by omega) ?_)
  intro v2 w2 hown2 hgrow2 _
  have hn : cur.length + (enc s.size).length + s.size = (cur ++ (enc s.size ++ nums s)).length := by rw [← List.append_assoc, List.length_append (bs := nums s), nums_length, List.length_append]
  have hown3 : w2.ownsRow (p + 1) 5 1 v2 (cur.length + (enc s.size).length + s.size) ((cur ++ (enc s.size ++ nums s)).map (Value.int .u8)) := by simpa [strCells_nums] using hown2
  clear hown2
  obtain ⟨a2, c2, hv2, _⟩ := own_form hown3
  subst hv2
  obtain ⟨k1, k2, k3, k4⟩ := wr_step hO.out hN.out (Below.refl _ _) hgrow2 hown3
  have K3 := hide (k3 hn)
  have K4 := hide (hb1.trans k4)
  clear hown3 hgrow2 k3 k4 hn hN hO hb1
  go_wp2
  go_returns
  exact ⟨rfl, K3, K4⟩

end Go.Proofs.Ytgjhmpmjbedjoaa
namespace Go.Proofs.Ytgjhmpmjbedjoaa
open Go.RowKit Apo
attribute [local go_sem ↓] Apo.app_exec
set_option maxRecDepth 100000 in
theorem row_grown {O : Nat → Prop} {w wr w1 w3 : World} {v v3 : Value} {n n3 : Nat} {xs xs3 : List Value} {e : TypeId} (hr : Row (Gro O w wr) wr e 1 v n xs) (o : Onl O w wr) (b : Below wr.heap.size wr w1) (h3 : w3.ownsRow 0 e 1 v3 n3 xs3) (g3 : w1.grownBy w3 v.ownBlock) (hl : v3.ownBlock = v.ownBlock ∨ v3.ownBlock = some w1.heap.size) : Row (Gro O w w3) w3 e 1 v3 n3 xs3 ∧ Onl O w w3 := by
  have s1 := o.size
  have s2 := b.size
  have s3 := g3.size
  refine ⟨⟨h3, fun g hg => ?_⟩, ?_⟩
  · rcases hl with q | q
    · rw [q] at hg
      rcases hr.2 g hg with z | z
      · exact .inl z
      · exact .inr (by omega)
    · have := (h3.lt g hg).2
      rw [q] at hg
      cases hg
      exact .inr (by omega)
  · exact (o.trans (Onl.ofBelow b)).grown g3 (fun k hk => by
      rcases hr.2 k hk with z | z
      · exact .inl z
      · exact .inr z.1)
end Go.Proofs.Ytgjhmpmjbedjoaa
namespace Go.Proofs.Ytgjhmpmjbedjoaa
open Go.RowKit Apo
attribute [local go_sem ↓] Apo.app_exec
set_option maxRecDepth 100000 in
theorem app_txt {O : Nat → Prop} {W : World} {v : Value} {l : List Int} (h : Row O W 5 1 v l.length (l.map (Value.int .u8))) (h0 : 0 < l.length) (s : ByteArray) (hl : l.length + s.size ≤ 1000000000000) :
    ∃ v' w', (Builtin.append_ #[30, 9] 30 #[v, .string s]).run Try.prog W = .ok v' w' ∧ Row (Gro O W w') w' 5 1 v' (l ++ nums s).length ((l ++ nums s).map (Value.int .u8)) ∧ Onl O W w' := by
  obtain ⟨i0, hi, hz0, hz1, hz2⟩ := info_parts infoU8
  obtain ⟨v', w', RR, r, g, _⟩ := Lib.run_append_own_string (P := Try.prog) W 0 30 9 30 5 i0 Try.underlying30 Try.underlying9 hi hz0 hz1 hz2 v l.length (l.map (Value.int .u8)) h.1 s (by unfold maxLen; omega) (by omega) (Nat.zero_le _)
  have hloc : v'.ownBlock = v.ownBlock ∨ v'.ownBlock = some W.heap.size := by
    rcases h.1.2 with ⟨_, hz⟩ | ⟨gb, cap, cur, rfl, _, hg, h1, h2, h3, h4⟩
    · omega
    · by_cases hroom : l.length + s.size ≤ cap
      · have hr := Lib.run_append_room_string (P := Try.prog) W 30 9 30 5 i0 Try.underlying30 Try.underlying9 hi hz1 gb l.length cap cur hg s hroom (by simp at h3; omega)
        rw [RR] at hr
        injection hr with e1 e2
        left
        rw [e1]
        rfl
      · have holds : ∀ j u, (l.map (Value.int .u8))[j]? = some u → W.cell? ((⟨gb, 0, none⟩ : Addr).add j) = some u := by
          intro j u hu
          have hj := (List.getElem?_eq_some_iff.1 hu).1
          rw [List.length_map] at hj
          rw [← h4, List.getElem?_take_of_lt (by omega)] at hu
          have : (⟨gb, 0, none⟩ : Addr).add j = ⟨gb, j, none⟩ := by unfold Addr.add; split <;> simp_all
          rw [this, cell_of_row W gb j _ _ _ hg]
          simpa using hu
        have hr := Lib.run_append_grow_string (P := Try.prog) W 30 9 30 5 i0 (.int .u8 0) Try.underlying30 Try.underlying9 hi hz0 ⟨gb, 0, none⟩ l.length cap (l.map (Value.int .u8)) (by rw [hz1]; simp) holds s (by omega) (by omega) (by rw [hz2]; exact growslice_fits (by omega) (by omega))
        rw [RR] at hr
        injection hr with e1 e2
        right
        rw [e1]
        rfl
  obtain ⟨rr, oo⟩ := row_grown (O := O) (w := W) (wr := W) (w1 := W) (h.mono (fun i q => .inl q)) (Onl.refl _ _) (Below.refl _ _) r g hloc
  refine ⟨v', w', RR, ?_, oo⟩
  rw [strCells_nums, ← List.map_append] at rr
  rw [List.length_append, nums_length]
  exact rr
end Go.Proofs.Ytgjhmpmjbedjoaa
namespace Apo
open Go Go.RowKit
/-- 'append(v, src...)': v is somebody's own; where the new row lies -/
theorem run_append_rdo {P : Program} {w : World} {O : Nat → Prop} (t ty e : TypeId) (i : TypeInfo) (z : Value) (bytes : Nat) (h1 : P.underlying t = some (.slice e)) (h2 : P.info? e = some i) (h3 : i.zero = some z) (h4 : i.size = 1) (h5 : i.bytes = bytes) (h6 : z.cells.size = 1)
    (k : IntKind) (v : Value) (cur : List Int) (hown : Row O w e 1 v cur.length (cur.map (Value.int k))) (ao : Option Addr) (c : Nat) (l : List Int) (hr : Rd k w ao l) (hn : ao = none → c = 0)
    (b1 : cur.length + l.length ≤ maxLen) (b2 : (cur.length + l.length) * bytes ≤ 140737488355328) :
    ∃ v' w', (Builtin.append_ #[t, t] ty #[v, .slice ao l.length c]).run P w = .ok v' w' ∧ Row (Gro O w w') w' e 1 v' (cur ++ l).length ((cur ++ l).map (Value.int k)) ∧ Onl O w w' := by
  cases ao with
  | none =>
    have hl : l = [] := by
      rcases Nat.eq_zero_or_pos l.length with h | h
      · exact List.eq_nil_of_length_eq_zero h
      · obtain ⟨_, _, h', _⟩ := hr 0 h; cases h'
    subst hl
    have hc := hn rfl
    subst hc
    exact ⟨v, w, run_append_owned_none (P := P) w 0 t ty e i 1 h1 h2 v _ _ hown.1, by simpa using hown.mono (fun i q => .inl q), Onl.refl _ _⟩
  | some ad =>
    obtain ⟨v', w', hrun, r1, r2, _, hl⟩ := run_append_own_at (P := P) w 0 t ty e i z 1 bytes h1 h2 h3 h4 h5 h6 (by decide) v _ _ hown.1 ad l.length c (l.map (Value.int k)) (by simp) hr.news (ints_oneCell _ _) b1 b2 (Nat.zero_le _)
    refine ⟨v', w', hrun, ⟨by simpa using r1, fun g hg => ?_⟩, (Onl.refl O w).grown r2 (fun k hk => .inl (hown.2 k hk))⟩
    rcases hl with q | q
    · rw [q] at hg
      exact .inl (hown.2 g hg)
    · have := (r1.lt g hg).2
      rw [q] at hg
      cases hg
      exact .inr ⟨Nat.le_refl _, this⟩
theorem step_append_rdo {P : Program} {ops : Array Oper} {o : Oper} {a : Act} {w : World} {K : Act → World → Prop} {Q : Exit → Act → World → Prop} {E : Prop} {O : Nat → Prop}
    (hgd : o.guard = none) (s x : Operand) (t : TypeId) (hop : o.op = Op.call { callee := Callee.builtin Builtin.append, args := #[s, x], argTypes := #[t, t] })
    (e : TypeId) (i : TypeInfo) (z : Value) (bytes : Nat) (h1 : P.underlying t = some (.slice e)) (h2 : P.info? e = some i) (h3 : i.zero = some z) (h4 : i.size = 1) (h5 : i.bytes = bytes) (h6 : z.cells.size = 1)
    (k : IntKind) (v : Value) (cur : List Int) (hs : a.eval s = v) (hown : Row O w e 1 v cur.length (cur.map (Value.int k))) (ao : Option Addr) (c : Nat) (l : List Int) (hx : a.eval x = .slice ao l.length c) (hr : Rd k w ao l) (hn : ao = none → c = 0)
    (b1 : cur.length + l.length ≤ maxLen) (b2 : (cur.length + l.length) * bytes ≤ 140737488355328)
    (hK : ∀ v' w', Row (Gro O w w') w' e 1 v' (cur ++ l).length ((cur ++ l).map (Value.int k)) → Onl O w w' → K (a.put o.dst v') w') :
    if Region.wanted o (yielded ops a.tmps) = true then Oper.wp P o a w K Q else E := by
  have hw : Region.wanted o (yielded ops a.tmps) = true := by simp [Region.wanted, hgd]
  rw [if_pos hw]
  obtain ⟨v', w', hrun, r1, r2⟩ := run_append_rdo (P := P) t o.type e i z bytes h1 h2 h3 h4 h5 h6 k v cur hown ao c l hr hn b1 b2
  unfold Oper.wp
  simp [execOp, hop, resolve, invoke, builtin, hs, hx, hrun, Result.andThen]
  exact hK v' w' r1 r2
end Apo
namespace Go.Proofs.Ytgjhmpmjbedjoaa
open Go.RowKit Apo
/-- the writer in block p has written the bytes l; all its blocks are O's -/
def Wro (O : Nat → Prop) (w : World) (p : Nat) (l : List Int) : Prop := O p ∧ ∃ v, Ob w p 53 [v] ∧ Row O w 5 1 v l.length (l.map (Value.int .u8))
theorem Wro.lt {O : Nat → Prop} {w : World} {p : Nat} {l : List Int} (h : Wro O w p l) : p < w.heap.size := by
  obtain ⟨_, v, h1, _⟩ := h; exact h1.lt
theorem Wro.onl {O F : Nat → Prop} {w w' : World} {p : Nat} {l : List Int} (h : Wro O w p l) (o : Onl F w w') (hF : ∀ i, O i → ¬ F i) : Wro O w' p l := by
  obtain ⟨h0, v, h1, h2⟩ := h
  exact ⟨h0, v, h1.onl o (hF p h0), h2.onl o (fun g hg => hF g (h2.2 g hg))⟩
theorem Wro.old {O : Nat → Prop} {w w' : World} {p : Nat} {l : List Int} (h : Wro O w p l) (b : Below w.heap.size w w') : Wro O w' p l := h.onl (F := fun _ => False) (Onl.ofBelow b) (fun _ _ q => q)
theorem Wro.mono {O O' : Nat → Prop} {w : World} {p : Nat} {l : List Int} (h : Wro O w p l) (hO : ∀ i, O i → O' i) : Wro O' w p l := by
  obtain ⟨h0, v, h1, h2⟩ := h
  exact ⟨hO p h0, v, h1, h2.mono hO⟩
theorem Wro.new (w : World) : Wro (fun i => i = w.heap.size) (w.alloc (.cells #[.slice none 0 0] 53)) w.heap.size [] := ⟨rfl, .slice none 0 0, Ob.new w [.slice none 0 0] 53, Row.nil _ _ _ _⟩
set_option maxRecDepth 100000 in
theorem wro_step {O : Nat → Prop} {w w1 w2 : World} {p : Nat} {v v2 : Value} {cur l : List Int} {n : Nat} (hp : O p) (hob : Ob w p 53 [v]) (hown : Row O w 5 1 v cur.length (cur.map (Value.int .u8))) (hb : Below w.heap.size w w1)
    (hg : Onl (fun g => v.ownBlock = some g) w1 w2) (h2 : Row (Gro (fun g => v.ownBlock = some g) w1 w2) w2 5 1 v2 n (l.map (Value.int .u8))) :
    w2.cell? ⟨p, 0, none⟩ = some v ∧ w2.frozen? ⟨p, 0, none⟩ = false ∧ (n = l.length → Wro (Gro O w (w2.setCell ⟨p, 0, none⟩ v2)) (w2.setCell ⟨p, 0, none⟩ v2) p l) ∧ Onl O w (w2.setCell ⟨p, 0, none⟩ v2) := by
  have hne : v.ownBlock ≠ some p := hown.apartOb hob (by decide)
  have o2 : Ob w2 p 53 [v] := (hob.old hb).onl hg hne
  have hs1 := hb.size
  have hs2 := hg.size
  have hne2 : v2.ownBlock ≠ some p := h2.apartOb o2 (by decide)
  have fr : Onl O w w2 := (Onl.ofBelow hb).more hg (fun i q => .inl (hown.2 i q))
  refine ⟨o2.cell 0, o2.frozen 0, fun e => ⟨.inl hp, v2, o2.set 0 v2, ?_⟩, fr.set (.inl hp) _⟩
  subst e
  have q : Row (Gro (fun g => v.ownBlock = some g) w1 w2) (w2.setCell ⟨p, 0, none⟩ v2) 5 1 v2 l.length (l.map (Value.int .u8)) := h2.onl (F := fun g => g = p) ((Onl.refl (fun g => g = p) w2).set (p := p) (i := 0) (.inl rfl) v2) (fun g hg e => hne2 (by rw [hg, e]))
  refine q.mono (fun i z => ?_)
  rcases z with z | z
  · exact .inl (hown.2 i z)
  · exact .inr ⟨by omega, by simpa [World.setCell] using z.2⟩
attribute [local go_sem ↓] Go.wp_at_zero Go.wp_at_succ
set_option maxRecDepth 100000 in
set_option maxHeartbeats 1000000 in
theorem wnum_o {O : Nat → Prop} (p : Nat) (cur : List Int) (a : Option Addr) (cap : Nat) (l : List Int) (w : World) (hw : Wro O w p cur) (hr : Rd .u64 w a l) (hu : InU l) (hc : cur.length ≤ 1099511627776) (hl : l.length ≤ 1099511627776) :
    Calls Try.prog 23 #[.pointer (some ⟨p, 0, none⟩), .slice a l.length cap] w fun e w' => e = .returned (.tuple #[]) ∧ Wro (Gro O w w') w' p (cur ++ encs l) ∧ Onl O w w' := by
  obtain ⟨i0, hi, hz0, hz1, hz2⟩ := info_parts infoU8
  obtain ⟨h0, v, hob, hown⟩ := hw
  obtain ⟨av, cv, hv, _⟩ := hown.form
  have hT := encs_len l
  have hp := hob.lt
  have hR := hide hr
  have hO := hide hob
  have hP := hide h0
  have hW := hide hown
  have c0 := hob.cell 0
  have f0 := hob.frozen 0
  simp only [List.getElem?_cons_zero] at c0
  subst hv
  have hbd : Below w.heap.size w w.drew := (Below.refl _ _).drew
  clear hown hob hr h0
  go_enter Try.func23, Try.ntmps23
  go_wp2
  go_region_law (first
    | (refine step_append_rdo (by rfl) _ _ 30 (by rfl) 5 i0 (.int .u8 0) 1 Try.underlying30 hi hz0 hz1 hz2 rfl .u8 _ cur (by rfl) hW1.out a1 c1 (encs l) (by rfl) hR1.out hN1.out (by unfold maxLen; omega) (by omega) ?_; intro v2 w2 hown2 hgrow2; obtain ⟨a2, c2, hv2, _⟩ := hown2.form; subst hv2; obtain ⟨k1, k2, k3, k4⟩ := wro_step hP.out hO.out hW.out hb1 hgrow2 hown2; have K3 := hide (k3 rfl); have K4 := hide k4; simp only [List.length_append] at K4 K3; clear hown2 hgrow2 k3 k4)
    | (go_simp; first
      | (go_at_call 51; refine (lput_any none 0 [] a cap l w.drew (Rd.nil _ _ _) (fun _ => rfl) (hR.out.below hbd) hu (by simp) hl).mono ?_; rintro e w1 ⟨v1, rfl, hown1, hb1'⟩; have hb1 : Below w.heap.size w w1 := hbd.trans hb1'; have hs1 := hb1.size; rw [List.nil_append] at hown1; obtain ⟨a1, c1, hv1, _, hn1⟩ := own_form hown1; subst hv1; have hR1 := hide (Rd.own hown1).1; have hN1 := hide hn1; have hW1 : Hid (Row (fun g => (Value.slice av cur.length cv).ownBlock = some g) w1 5 1 (.slice av cur.length cv) cur.length (cur.map (Value.int .u8))) := hide ⟨(hW.out.onl (F := fun _ => False) (Onl.ofBelow hb1) (fun _ _ q => q)).1, fun g hg => hg⟩; have d0 := (hb1.cell (p := ⟨p, 0, none⟩) hp).trans c0; have g0 := (hb1.frozen (p := ⟨p, 0, none⟩) hp).trans f0; clear hown1 hb1' hn1)))
  all_goals
    go_wp2
    go_returns
    exact ⟨rfl, K3.out, K4.out⟩
set_option maxRecDepth 100000 in
/-- one number -/
theorem wnum_one_o {O : Nat → Prop} (p : Nat) (cur : List Int) (n : Int) (w : World) (q : Nat) (hq : q = w.heap.size) (hw : Wro O w p cur) (h0 : 0 ≤ n) (h1 : n ≤ 18446744073709551615) (hc : cur.length ≤ 1099511627776) :
    Calls Try.prog 23 #[.pointer (some ⟨p, 0, none⟩), .slice (some ⟨q, 0, none⟩) 1 1] (w.alloc (.cells #[.int .u64 n] 22)) fun e w' => e = .returned (.tuple #[]) ∧ Wro (Gro O w w') w' p (cur ++ enc n.toNat) ∧ Onl O w w' := by
  subst hq
  have hb : Below w.heap.size w (w.alloc (.cells #[.int .u64 n] 22)) := (Below.refl _ _).alloc (Nat.le_refl _) _
  refine (wnum_o p cur (some ⟨w.heap.size, 0, none⟩) 1 [n] _ (hw.old hb) (rd_lit1 _ _ _ _) (by intro z hz; simp at hz; omega) hc (by simp)).mono ?_
  rintro e w' ⟨rfl, h2, h3⟩
  rw [encs_one] at h2
  have z := h3.size
  simp at z
  exact ⟨rfl, h2.mono (fun i y => y.elim .inl (fun t => .inr ⟨by have := t.1; simp at this; omega, t.2⟩)), (Onl.ofBelow hb).trans h3⟩
set_option maxRecDepth 100000 in
/-- two numbers -/
theorem wnum_two_o {O : Nat → Prop} (p : Nat) (cur : List Int) (n m : Int) (w : World) (q : Nat) (hq : q = w.heap.size) (hw : Wro O w p cur) (h0 : 0 ≤ n) (h1 : n ≤ 18446744073709551615) (h2 : 0 ≤ m) (h3 : m ≤ 18446744073709551615) (hc : cur.length ≤ 1099511627776) :
    Calls Try.prog 23 #[.pointer (some ⟨p, 0, none⟩), .slice (some ⟨q, 0, none⟩) 2 2] (w.alloc (.cells #[.int .u64 n, .int .u64 m] 22)) fun e w' => e = .returned (.tuple #[]) ∧ Wro (Gro O w w') w' p (cur ++ (enc n.toNat ++ enc m.toNat)) ∧ Onl O w w' := by
  subst hq
  have hb : Below w.heap.size w (w.alloc (.cells #[.int .u64 n, .int .u64 m] 22)) := (Below.refl _ _).alloc (Nat.le_refl _) _
  refine (wnum_o p cur (some ⟨w.heap.size, 0, none⟩) 2 [n, m] _ (hw.old hb) (rd_lit2 _ _ _ _ _) (by intro z hz; simp at hz; omega) hc (by simp)).mono ?_
  rintro e w' ⟨rfl, k2, k3⟩
  have z := k3.size
  simp at z
  have e2 : encs [n, m] = enc n.toNat ++ enc m.toNat := by simp [encs]
  rw [e2] at k2
  exact ⟨rfl, k2.mono (fun i y => y.elim .inl (fun t => .inr ⟨by have := t.1; simp at this; omega, t.2⟩)), (Onl.ofBelow hb).trans k3⟩
attribute [local go_sem ↓] Apo.app_exec
set_option maxRecDepth 100000 in
set_option maxHeartbeats 1000000 in
theorem wtext_o {O : Nat → Prop} (p : Nat) (cur : List Int) (s : ByteArray) (w : World) (hw : Wro O w p cur) (hc : cur.length + s.size ≤ 100000000000) :
    Calls Try.prog 22 #[.pointer (some ⟨p, 0, none⟩), .string s] w fun e w' => e = .returned (.tuple #[]) ∧ Wro (Gro O w w') w' p (cur ++ (enc s.size ++ nums s)) ∧ Onl O w w' := by
  have hW := hide hw
  have hp := hw.lt
  have hel := enc_len s.size
  clear hw
  go_enter Try.func22, Try.ntmps22
  go_wp2_with fail
  refine (wnum_one_o p cur s.size w _ rfl hW.out (by omega) (by omega) (by omega)).mono ?_
  rintro e w1 ⟨rfl, ⟨hp1, v, hob, hown⟩, o1⟩
  simp only [Int.toNat_natCast] at hown
  obtain ⟨av, cv, hv, _⟩ := hown.form
  subst hv
  have hown' : Row (fun g => (Value.slice av (cur ++ enc s.size).length cv).ownBlock = some g) w1 5 1 (.slice av (cur ++ enc s.size).length cv) (cur ++ enc s.size).length ((cur ++ enc s.size).map (Value.int .u8)) := ⟨hown.1, fun g hg => hg⟩
  obtain ⟨v2, w2, RR, r2, o2⟩ := app_txt hown' (by rw [List.length_append]; omega) s (by rw [List.length_append]; omega)
  obtain ⟨k1, k2, k3, k4⟩ := wro_step hp1 hob hown (Below.refl _ _) o2 r2
  have c0 := hob.cell 0
  have f0 := hob.frozen 0
  simp only [List.getElem?_cons_zero] at c0
  have z1 := o1.size
  have z2 := o2.size
  have K3 : Hid (Wro (Gro O w (w2.setCell ⟨p, 0, none⟩ v2)) (w2.setCell ⟨p, 0, none⟩ v2) p (cur ++ (enc s.size ++ nums s))) := by
    refine hide ?_
    rw [← List.append_assoc]
    refine (k3 rfl).mono (fun i y => ?_)
    rcases y with (y | y) | y
    · exact .inl y
    · exact .inr ⟨y.1, by have := k4.size; omega⟩
    · exact .inr ⟨by omega, y.2⟩
  have K4 : Hid (Onl O w (w2.setCell ⟨p, 0, none⟩ v2)) := hide (o1.more k4 (fun i y => y.elim .inl (fun t => .inr t.1)))
  obtain ⟨a2, c2, hv2, _⟩ := r2.form
  subst hv2
  obtain ⟨s1, s2, s3⟩ := app_runs RR
  obtain ⟨L1, hL1⟩ : ∃ L1, L1 = (cur ++ enc s.size).length := ⟨_, rfl⟩
  obtain ⟨L2, hL2⟩ : ∃ L2, L2 = (cur ++ enc s.size ++ nums s).length := ⟨_, rfl⟩
  rw [← hL1] at c0 k1 s1 s2 s3
  rw [← hL2] at s2 K3 K4
  clear hown hown' hob RR r2 o2 o1 k3 k4 hL1 hL2 hp1 z1 z2
  go_wp2
  go_returns
  exact ⟨rfl, K3.out, K4.out⟩
end Go.Proofs.Ytgjhmpmjbedjoaa
