/- What the document's Copy of a device does, over the translation. -/
import Derived.Test.YtgkgbemliinajaaRWr
namespace Go.Proofs.Ytgkgbemliinajaa
open Go.RowKit Apo
attribute [local go_sem ↓] Apo.app_exec

theorem info_bs : (Try.prog.info? 29).map (fun i => (i.zero, i.size, i.bytes)) = some (some (.slice none 0 0), 1, 24) := by kernel_rfl
theorem info_bl : (Try.prog.info? 4).map (fun i => (i.zero, i.size, i.bytes)) = some (some (.bool false), 1, 1) := by kernel_rfl

/-- 'append(nil, v...)' of an own row: a new row of the same cells, or nil -/
theorem row_clone {O : Nat → Prop} {w : World} {e t : TypeId} {i : TypeInfo} {z : Value} {size bytes n : Nat} {a : Option Addr} {cap : Nat} {xs : List Value} (h : Row O w e size (.slice a n cap) n xs) (h1 : ∀ u ∈ xs, u.oneCell' = true)
    (ht : Try.prog.underlying t = some (.slice e)) (hi : Try.prog.info? e = some i) (hz : i.zero = some z) (hsize : i.size = size) (hby : i.bytes = bytes) (hzs : z.cells.size = size) (hsz : 0 < size) (h63 : n ≤ maxLen) (hb : n * bytes ≤ 140737488355328) :
    ∃ a' cap' w', (Builtin.append_ #[t, t] t #[.slice none 0 0, .slice a n cap]).run Try.prog w = .ok (.slice a' n cap') w' ∧ w'.ownsRow w.heap.size e size (.slice a' n cap') n xs ∧ Onl (fun _ => False) w w' := by
  rcases h.1.2 with ⟨hv, hn⟩ | ⟨g, cap0, cur, hv, hg0, hgg, hnc, hcm, hcs, htake⟩
  · cases hv
    have hx : xs = [] := List.eq_nil_of_length_eq_zero (by have := h.len; omega)
    subst hx
    have hrun := run_append_owned_none (P := Try.prog) (w := w) w.heap.size t t e i size ht hi (.slice none 0 0) 0 [] (World.ownsRow_nil w _ e size)
    exact ⟨none, 0, w, hrun, World.ownsRow_nil w _ e size, Onl.refl _ _⟩
  · cases hv
    obtain ⟨v', w', q1, q2, q3, _⟩ := run_append_own (P := Try.prog) w w.heap.size t t e i z size bytes ht hi hz hsize hby hzs hsz (.slice none 0 0) 0 [] (World.ownsRow_nil w _ e size) ⟨g, 0, none⟩ n cap xs h.len (h.1.cells (g := g) rfl) h1 (by omega) (by rw [Nat.zero_add]; exact hb) (Nat.le_refl _)
    rw [Nat.zero_add, List.nil_append] at q2
    obtain ⟨a', cap', hv', _⟩ : ∃ a cap, v' = .slice a n cap ∧ True := by
      rcases q2.2 with ⟨rfl, hz⟩ | ⟨g, cap, cur, rfl, _⟩
      · exact ⟨none, 0, by rw [hz], trivial⟩
      · exact ⟨_, cap, rfl, trivial⟩
    subst hv'
    exact ⟨a', cap', w', q1, q2, (Onl.refl _ _).grown q3 (by simp [Value.ownBlock])⟩

theorem byts_one {O : Nat → Prop} {w : World} {e : TypeId} {vs : List Value} {rs : List (List Int)} (h : Byts O e w vs rs) : ∀ u ∈ vs, u.oneCell' = true := by
  intro u hu
  obtain ⟨i, hi, rfl⟩ := List.mem_iff_getElem.1 hu
  have hl := h.1
  have := h.2 i _ _ (List.getElem?_eq_getElem hi) (List.getElem?_eq_getElem (by omega))
  obtain ⟨g, cap, e, _⟩ := this.shape (by decide)
  rw [e]
  simp [Value.oneCell']
theorem ccells_one : ∀ {c : List (Nat × List Int)} {vs : List Value}, (∀ u ∈ vs, u.oneCell' = true) → ∀ u ∈ ccells c vs, u.oneCell' = true
  | [], _, _, u, hu => by simp [ccells] at hu
  | _ :: _, [], _, u, hu => by simp [ccells] at hu
  | x :: c, v :: vs, h, u, hu => by
    simp only [ccells, List.mem_cons] at hu
    rcases hu with rfl | rfl | hu
    · simp [Value.oneCell']
    · exact h _ (by simp)
    · exact ccells_one (fun q hq => h q (by simp [hq])) u hu

/-- a slice of the new device is filled with a copy of a row -/
theorem fill {O : Nat → Prop} {w W : World} {q : Nat} {cs : List Value} (hO : Onl (fun _ => False) w W) (hq : w.heap.size ≤ q) (hob : Ob W q 52 cs) {e t : TypeId} {i : TypeInfo} {z : Value} {size bytes n : Nat} {a : Option Addr} {cap : Nat} {xs : List Value} (h : Row O W e size (.slice a n cap) n xs) (h1 : ∀ u ∈ xs, u.oneCell' = true)
    (ht : Try.prog.underlying t = some (.slice e)) (hi : Try.prog.info? e = some i) (hz : i.zero = some z) (hsize : i.size = size) (hby : i.bytes = bytes) (hzs : z.cells.size = size) (hsz : 0 < size) (h63 : n ≤ maxLen) (hb : n * bytes ≤ 140737488355328) (j : Nat) (he : e ≠ 52) :
    ∃ a' cap' w', (Builtin.append_ #[t, t] t #[.slice none 0 0, .slice a n cap]).run Try.prog W.drew = .ok (.slice a' n cap') w' ∧ w'.cell? ⟨q, j, none⟩ = cs[j]? ∧ w'.frozen? ⟨q, j, none⟩ = false ∧ Ob (w'.setCell ⟨q, j, none⟩ (.slice a' n cap')) q 52 (cs.set j (.slice a' n cap')) ∧
      Onl (fun _ => False) w (w'.setCell ⟨q, j, none⟩ (.slice a' n cap')) ∧ Row (fun k => w.heap.size ≤ k ∧ k < (w'.setCell ⟨q, j, none⟩ (.slice a' n cap')).heap.size) (w'.setCell ⟨q, j, none⟩ (.slice a' n cap')) e size (.slice a' n cap') n xs ∧ Onl (fun k => k = q) W (w'.setCell ⟨q, j, none⟩ (.slice a' n cap')) := by
  obtain ⟨a', cap', w', R, own, o⟩ := row_clone (w := W.drew) h h1 ht hi hz hsize hby hzs hsz h63 hb
  have o' : Onl (fun _ => False) W w' := (Onl.refl _ W).drew.trans o
  have ob' := hob.onl o' id
  have hs : (w'.setCell ⟨q, j, none⟩ (.slice a' n cap')).heap.size = w'.heap.size := by simp [World.setCell]
  have row1 : Row (fun k => w.heap.size ≤ k ∧ k < (w'.setCell ⟨q, j, none⟩ (.slice a' n cap')).heap.size) w' e size (.slice a' n cap') n xs := ⟨own.mono (Nat.zero_le _), fun g hg => ⟨Nat.le_trans hO.size (own.lt g hg).1, by rw [hs]; exact (own.lt g hg).2⟩⟩
  have o1 : Onl (fun k => k = q) w' (w'.setCell ⟨q, j, none⟩ (.slice a' n cap')) := Onl.set (O := fun k => k = q) (Onl.refl _ w') (.inl rfl) _
  exact ⟨a', cap', w', R, ob'.cell j, ob'.frozen j, ob'.set j _, (hO.trans o').set (.inr hq) _, row1.onl o1 (fun g hg e1 => row1.apartOb ob' he (by rw [hg, e1])), (o'.mono (fun _ q => q.elim)).trans o1⟩

set_option maxHeartbeats 1000000 in
theorem rcopy_any {O : Nat → Prop} {w : World} {p : Nat} {st : Sd} (h : RDev O w p st) (hc : st.C.length ≤ 1099511627776) :
    Calls Try.prog 24 #[.pointer (some ⟨p, 0, none⟩)] w fun e w' => ∃ q, e = .returned (.pointer (some ⟨q, 0, none⟩)) ∧ w.heap.size ≤ q ∧ RDev (Gro O w w') w' q st ∧ Below w.heap.size w w' := by
  obtain ⟨vS, vC, vB, rv, cv, h⟩ := h
  have c0 := h.ob.cell 0
  have c1 := h.ob.cell 1
  have c2 := h.ob.cell 2
  have c3 := h.ob.cell 3
  have c4 := h.ob.cell 4
  simp only [List.getElem?_cons_zero, List.getElem?_cons_succ] at c0 c1 c2 c3 c4
  have hplt := h.ob.lt
  obtain ⟨sa, scap, rfl, hs1, hs2, -, -⟩ := h.sS.form
  obtain ⟨ca, ccap, rfl, hc1, hc2, -, -⟩ := h.sC.form
  obtain ⟨ba, bcap, rfl, hb1, hb2, -, -⟩ := h.sB.form
  have hsz := h.ok.size
  have hbd : st.bad.length ≤ 65536 := by rw [h.ok.bads]; exact h.ok.size
  have H := hide h
  clear h
  obtain ⟨i0, hi, hz0, hz1, hz2⟩ := info_parts info_bs
  obtain ⟨j0, ji, jz0, jz1, jz2⟩ := info_parts info_bl
  obtain ⟨l0, li, lz0, lz1, lz2⟩ := info_parts info_wr
  have oA : Onl (fun _ => False) w (w.alloc (Obj.cells #[Value.slice none 0 0, Value.slice none 0 0, Value.slice none 0 0, Value.int IntKind.i64 st.left, Value.bool st.dead] 52)).drew := ((Onl.refl _ _).alloc _).drew
  have obA : Ob (w.alloc (Obj.cells #[Value.slice none 0 0, Value.slice none 0 0, Value.slice none 0 0, Value.int IntKind.i64 st.left, Value.bool st.dead] 52)).drew w.heap.size 52 [Value.slice none 0 0, Value.slice none 0 0, Value.slice none 0 0, Value.int IntKind.i64 st.left, Value.bool st.dead] := Ob.new w _ 52
  have HA := hide oA
  have HB := hide obA
  clear oA obA
  go_enter Try.func24, Try.ntmps24
  go_wp2
  go_region
  go_wp2
  generalize (w.alloc (Obj.cells #[Value.slice none 0 0, Value.slice none 0 0, Value.slice none 0 0, Value.int IntKind.i64 st.left, Value.bool st.dead] 52)).drew = W1 at HA HB ⊢
  have P1 := hide (H.out.kept HA.out)
  obtain ⟨a1, k1, w1, R1, x1, f1, ob1, on1, rw1, og1⟩ := fill HA.out (Nat.le_refl _) HB.out P1.out.sS (byts_one P1.out.sR) Try.underlying49 hi hz0 hz1 hz2 rfl (by decide) (by unfold maxLen; omega) (by omega) 0 (by decide)
  obtain ⟨m1, m2, m3⟩ := app_runs R1
  have y0 := P1.out.ob.cell 0
  have yq := HB.out.cell 0
  simp only [List.getElem?_cons_zero, List.set_cons_zero] at x1 y0 ob1 yq
  have OB1 := hide ob1
  have ON1 := hide on1
  have RW1 := hide rw1
  have OG1 := hide og1
  clear R1 ob1 on1 rw1 og1
  go_region
  go_wp2
  generalize w1.setCell ⟨w.heap.size, 0, none⟩ (Value.slice a1 st.S.length k1) = W2 at OB1 ON1 RW1 OG1 ⊢
  have P2 := hide (H.out.kept ON1.out)
  obtain ⟨a2, k2, w2, R2, x2, f2, ob2, on2, rw2, og2⟩ := fill ON1.out (Nat.le_refl _) OB1.out P2.out.sB (by intro u hu; simp only [List.mem_map] at hu; obtain ⟨b, _, rfl⟩ := hu; rfl) Try.underlying30 ji jz0 jz1 jz2 rfl (by decide) (by unfold maxLen; omega) (by omega) 2 (by decide)
  obtain ⟨n1, n2, n3⟩ := app_runs R2
  have y2 := P2.out.ob.cell 2
  have yq2 := OB1.out.cell 2
  simp only [List.getElem?_cons_zero, List.getElem?_cons_succ, List.set_cons_zero, List.set_cons_succ] at x2 y2 ob2 yq2
  have RWS2 := hide (RW1.out.onl og2 (fun g hg e => RW1.out.apartOb OB1.out (by decide) (by rw [hg, e])))
  have OB2 := hide ob2
  have ON2 := hide on2
  have RW2 := hide rw2
  have OG2 := hide og2
  clear R2 ob2 on2 rw2 og2 m1 m2 m3 RW1
  go_region
  go_wp2
  generalize hW3 : w2.setCell ⟨w.heap.size, 2, none⟩ (Value.slice a2 st.bad.length k2) = W3 at OB2 ON2 RW2 OG2 RWS2 ⊢
  clear hW3
  have P3 := hide (H.out.kept ON2.out)
  obtain ⟨a3, k3, w3, R3, x3, f3, ob3, on3, rw3, og3⟩ := fill ON2.out (Nat.le_refl _) OB2.out P3.out.sC (ccells_one (byts_one P3.out.sW)) Try.underlying50 li lz0 lz1 lz2 rfl (by decide) (by unfold maxLen; omega) (by omega) 1 (by decide)
  obtain ⟨o1, o2, o3⟩ := app_runs R3
  have y3 := P3.out.ob.cell 1
  have yq3 := OB2.out.cell 1
  simp only [List.getElem?_cons_zero, List.getElem?_cons_succ, List.set_cons_zero, List.set_cons_succ] at x3 y3 ob3 yq3
  have RWS3 := hide (RWS2.out.onl og3 (fun g hg e => RWS2.out.apartOb OB2.out (by decide) (by rw [hg, e])))
  have RWB3 := hide (RW2.out.onl og3 (fun g hg e => RW2.out.apartOb OB2.out (by decide) (by rw [hg, e])))
  have OB3 := hide ob3
  have ON3 := hide on3
  have RW3 := hide rw3
  have sz3 := og3.size
  have sz2 := OG2.out.size
  clear R3 ob3 on3 rw3 og3 n1 n2 n3 RW2
  go_region
  go_wp2
  go_ret
  generalize w3.setCell ⟨w.heap.size, 1, none⟩ (Value.slice a3 st.C.length k3) = W4 at OB3 ON3 RW3 RWS3 RWB3 sz3 ⊢
  have P4 := H.out.kept ON3.out
  refine ⟨_, rfl, Nat.le_refl _, ⟨_, _, _, rv, cv, ⟨OB3.out, Gro.new (Nat.le_refl _) OB3.out.lt, RWS3.out.mono (fun i hi => Gro.new hi.1 (by have := hi.2; omega)), P4.sR.mono Gro.of, RW3.out.mono (fun i hi => Gro.new hi.1 hi.2), P4.sW.mono Gro.of, RWB3.out.mono (fun i hi => Gro.new hi.1 (by have := hi.2; omega)), P4.ok⟩⟩, ON3.out.toBelow (fun _ q => q.elim) (Nat.le_refl _)⟩
end Go.Proofs.Ytgkgbemliinajaa
