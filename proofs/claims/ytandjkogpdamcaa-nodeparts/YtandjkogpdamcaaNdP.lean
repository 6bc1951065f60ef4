/- The document's PutNode, over the translation. -/
import Derived.Test.YtandjkogpdamcaaNdN
import Derived.Test.YtandjkogpdamcaaNtO
import Derived.Deep.RegionHeld3
namespace Apo
open Go Go.RowKit
def enB (e : En) : List Int := enc e.k.size ++ nums e.k ++ (enc e.v.size ++ nums e.v)
def kiB (k : Ki) : List Int := enc k.k.size ++ nums k.k ++ enc k.i
/-- a node as bytes -/
def ndB (n : Nd) : List Int := enc n.lv.toNat ++ enc (n.es.length + n.ks.length) ++ n.es.flatMap enB ++ n.ks.flatMap kiB
def putE (n : Nd) : List Int × Int := if nodeE n ≠ 0 then ([], nodeE n) else if 131072 < (ndB n).length then ([], 2) else (ndB n, 0)
theorem firstE_zero {α : Type} {f : α → Int} : ∀ {l : List α}, firstE f l = 0 → ∀ x ∈ l, f x = 0
  | [], _, x, hx => by simp at hx
  | y :: l, h, x, hx => by
    unfold firstE at h
    by_cases q : f y = 0
    · rw [if_neg (by simp [q])] at h
      rcases List.mem_cons.1 hx with rfl | z
      · exact q
      · exact firstE_zero h x z
    · rw [if_pos q] at h
      exact absurd h q
theorem keyE_ok {k : ByteArray} (h : keyE k = 0) : 1 ≤ k.size ∧ k.size ≤ 40 := by
  unfold keyE at h
  split at h
  · simp at h
  · omega
theorem nodeE_ok {n : Nd} (h : nodeE n = 0) : (∀ e ∈ n.es, (1 ≤ e.k.size ∧ e.k.size ≤ 40) ∧ e.v.size ≤ 200) ∧ (∀ k ∈ n.ks, (1 ≤ k.k.size ∧ k.k.size ≤ 40) ∧ k.i ≠ 0) ∧ 0 ≤ n.lv ∧ n.lv ≤ 20 ∧ (n.leaf || n.inner) = true ∧ ∀ i, i < n.keys.length → badAt n.lv n.keys i = false := by
  unfold nodeE at h
  by_cases h1 : firstE enE n.es = 0
  · rw [if_neg (by simp [h1])] at h
    by_cases h2 : firstE kiE n.ks = 0
    · rw [if_neg (by simp [h2])] at h
      by_cases h3 : (n.leaf || n.inner) = false
      · rw [if_pos h3] at h; simp at h
      · rw [if_neg h3] at h
        by_cases h4 : ∃ i, i < n.keys.length ∧ badAt n.lv n.keys i = true
        · rw [if_pos h4] at h; simp at h
        · rw [if_neg h4] at h
          by_cases h5 : ∃ k ∈ n.ks, k.i = 0
          · rw [if_pos h5] at h; simp at h
          · have h3' : (n.leaf || n.inner) = true := by
              cases q : (n.leaf || n.inner)
              · exact absurd q h3
              · rfl
            refine ⟨fun e he => ?_, fun k hk => ⟨keyE_ok (firstE_zero h2 k hk), fun q => h5 ⟨k, hk, q⟩⟩, ?_, ?_, h3', fun i hi => ?_⟩
            · have q := firstE_zero h1 e he
              unfold enE at q
              by_cases z : keyE e.k = 0
              · rw [if_neg (by simp [z])] at q
                refine ⟨keyE_ok z, ?_⟩
                unfold valE at q
                split at q
                · simp at q
                · omega
              · rw [if_pos z] at q
                exact absurd q z
            · rcases Bool.or_eq_true_iff.1 h3' with q | q
              · unfold Nd.leaf at q; simp at q; omega
              · unfold Nd.inner at q; simp at q; omega
            · rcases Bool.or_eq_true_iff.1 h3' with q | q
              · unfold Nd.leaf at q; simp at q; omega
              · unfold Nd.inner at q; simp at q; omega
            · cases q : badAt n.lv n.keys i
              · rfl
              · exact absurd ⟨i, hi, q⟩ h4
    · rw [if_pos h2] at h; exact absurd h h2
  · rw [if_pos h1] at h; exact absurd h h1
theorem enB_len {e : En} (h : e.k.size ≤ 40) (h2 : e.v.size ≤ 200) : (enB e).length ≤ 300 := by
  have := enc_len e.k.size
  have := enc_len e.v.size
  unfold enB
  simp only [List.length_append, nums_length]
  omega
theorem kiB_len {k : Ki} (h : k.k.size ≤ 40) : (kiB k).length ≤ 300 := by
  have := enc_len k.k.size
  have := enc_len k.i
  unfold kiB
  simp only [List.length_append, nums_length]
  omega
theorem flat_len {α : Type} {f : α → List Int} {c : Nat} : ∀ {l : List α}, (∀ x ∈ l, (f x).length ≤ c) → (l.flatMap f).length ≤ c * l.length
  | [], _ => by simp
  | x :: l, h => by
    rw [List.flatMap_cons, List.length_append, List.length_cons, Nat.mul_succ]
    have := flat_len (fun y hy => h y (by simp [hy]) : ∀ y ∈ l, (f y).length ≤ c)
    have := h x (by simp)
    omega
end Apo
namespace Go.Proofs.Ytandjkogpdamcaa
open Go.RowKit Apo
/-- what PutNode tells -/
def PnP (w : World) (n : Nd) (e : Ending) (w' : World) : Prop := ∃ v, e = .returned (.tuple #[v, .int .i64 (putE n).2]) ∧ w'.ownsRow w.heap.size 5 1 v (putE n).1.length ((putE n).1.map (Value.int .u8)) ∧ Below w.heap.size w w'
set_option maxRecDepth 100000 in
set_option maxHeartbeats 8000000 in
theorem rputnode_any (w : World) (x : NdA) (hx : OkN w x) (he : x.n.es.length ≤ 1000000) (hk : x.n.ks.length ≤ 1000000) :
    Calls Try.prog 10 #[.agg x.cells.toArray] w (PnP w x.n) := by
  have hxx := hx
  obtain ⟨⟨lv, es, ks⟩, ea, ec, ka, kc⟩ := x
  simp only [NdA.cells] at hx he hk ⊢
  obtain ⟨ne, hne⟩ : ∃ ne, ne = es.length := ⟨_, rfl⟩
  obtain ⟨nk, hnk⟩ : ∃ nk, nk = ks.length := ⟨_, rfl⟩
  obtain ⟨W0, hW0⟩ : ∃ W0, W0 = w.alloc (.cells #[.int .i64 lv, .slice ea ne ec, .slice ka nk kc] 25) := ⟨_, rfl⟩
  have kb : Ob W0 w.heap.size 25 [.int .i64 lv, .slice ea ne ec, .slice ka nk kc] := by rw [hW0]; exact Ob.new w [.int .i64 lv, .slice ea ne ec, .slice ka nk kc] 25
  have b0 : Below w.heap.size w W0 := by rw [hW0]; exact (Below.refl _ w).alloc (Nat.le_refl _) _
  have s0 : W0.heap.size = w.heap.size + 1 := by rw [hW0]; simp
  have x0 := hx.below b0
  have CN := rnode_any W0 _ (hxx.below b0) he hk
  simp only [NdA.cells] at CN
  rw [← hne] at CN he ⊢
  rw [← hnk] at CN hk ⊢
  have HE := hide x0.es
  have HK := hide x0.ks
  have hec : ne ≤ ec := by rw [hne]; exact x0.el
  have hkc : nk ≤ kc := by rw [hnk]; exact x0.kl
  have heb : ec ≤ 9223372036854775807 := by have := x0.eb; unfold maxLen at this; simp only at this; omega
  have hkb : kc ≤ 9223372036854775807 := by have := x0.kb; unfold maxLen at this; simp only at this; omega
  have HKZ := hide x0.kz
  have hlv := x0.lv
  simp only at hlv HE HK HKZ
  have HNE := hide hne
  have HNK := hide hnk
  have HB0 := hide b0
  have HCN := hide CN
  have HBX := hide (fun (W : World) (b : Below W0.heap.size W0 W) => kb.old b)
  have c0 := kb.cell 0
  have c1 := kb.cell 1
  have c2 := kb.cell 2
  simp only [List.getElem?_cons_zero, List.getElem?_cons_succ] at c0 c1 c2
  obtain ⟨NE, hNE⟩ : ∃ NE, NE = nodeE ⟨lv, es, ks⟩ := ⟨_, rfl⟩
  rw [← hNE] at HCN
  have HNEE := hide hNE
  clear hx hxx x0 hne hnk kb b0 CN hNE
  by_cases hz : NE = 0
  · obtain ⟨g1, g2, g3, g4, g5, g6⟩ := nodeE_ok (n := ⟨lv, es, ks⟩) (by rw [← HNEE.out]; exact hz)
    simp only at g1 g2 g3 g4
    have HG1 := hide g1
    have HG2 := hide g2
    subst hz
    clear g1 g2 g5 g6
    have hwl : IntKind.u64.wrap lv = lv := by rw [IntKind.wrap_u64]; omega
    have hws : IntKind.i64.wrap ((ne : Int) + (nk : Int)) = (ne : Int) + (nk : Int) := by rw [IntKind.wrap_i64]; omega
    have hwt : IntKind.u64.wrap ((ne : Int) + (nk : Int)) = (ne : Int) + (nk : Int) := by rw [IntKind.wrap_u64]; omega
    go_enter Try.func10, Try.ntmps10
    rw [hW0] at HCN c0 c1 c2
    go_wp2_with fail
    rw [← hW0] at HCN c0 c1 c2 ⊢
    refine HCN.out.mono ?_
    rintro e w1 ⟨rfl, b1⟩
    have kx := HBX.out w1 b1
    have y0 := kx.cell 0
    have y1 := kx.cell 1
    have y2 := kx.cell 2
    simp only [List.getElem?_cons_zero, List.getElem?_cons_succ] at y0 y1 y2
    have C2 := num_o (O := fun _ => False) (.slice none 0 0) [] lv w1 (Row.nil _ _ _ _) (by simp) (by omega) (by omega)
    have HC2 := hide C2
    have HB1 := hide b1
    clear C2 b1 kx
    go_wp2_with fail
    refine HC2.out.mono ?_
    rintro e w2 ⟨v2, rfl, o2, f2⟩
    have b2 : Below w1.heap.size w1 w2 := f2.toBelow (fun i q => q.elim) (Nat.le_refl _)
    have B2 : Below W0.heap.size W0 w2 := HB1.out.trans (b2.mono HB1.out.size)
    simp only [List.nil_append] at o2
    have hel := enc_len lv.toNat
    have C3 := num_o v2 (enc lv.toNat) ((ne : Int) + (nk : Int)) w2 o2 (by omega) (by omega) (by omega)
    have kx := HBX.out w2 B2
    have z1 := kx.cell 1
    have z2 := kx.cell 2
    simp only [List.getElem?_cons_zero, List.getElem?_cons_succ] at z1 z2
    have HC3 := hide C3
    have HB2 := hide B2
    have s12 := HB1.out.size
    have hGr : ∀ i, Gro (fun _ => False) w1 w2 i → W0.heap.size ≤ i := fun i q => q.elim (fun z => z.elim) (fun z => by omega)
    obtain ⟨v2a, v2c, hv2, _⟩ := o2.form
    subst hv2
    clear C3 b2 B2 kx o2 f2
    go_wp2_with fail
    refine HC3.out.mono ?_
    rintro e w3 ⟨v3, rfl, o3, f3⟩
    have HB3 := hide (Below.onl HB2.out f3 hGr (Nat.le_refl _))
    have hel2 := enc_len (ne + nk)
    have etn : ((ne : Int) + (nk : Int)).toNat = ne + nk := by omega
    rw [etn] at o3
    obtain ⟨P0, hP0⟩ : ∃ P0, P0 = enc lv.toNat ++ enc (ne + nk) := ⟨_, rfl⟩
    rw [← hP0] at o3
    have hP0l : P0.length ≤ 40 := by rw [hP0, List.length_append]; omega
    have kx := HBX.out w3 HB3.out
    have t1 := kx.cell 1
    have t2 := kx.cell 2
    simp only [List.getElem?_cons_zero, List.getElem?_cons_succ] at t1 t2
    obtain ⟨v3a, v3c, hv3, _⟩ := o3.form
    subst hv3
    have HO3 := hide (o3.mono (O' := fun i => W0.heap.size ≤ i ∧ i < w3.heap.size) (fun i q => by
      have := HB2.out.size
      have := f3.size
      rcases q with (q | q) | q
      · exact q.elim
      · exact ⟨by omega, by omega⟩
      · exact ⟨by omega, by omega⟩))
    have HP0 := hide hP0
    clear o3 f3 kx hP0 hel hel2 hGr
    go_wp2
    go_loopw [5, 32] (fun vb i wr => ∃ (k n : Nat) (va : Option Addr) (vc : Nat), k ≤ ne ∧ i = .int .i64 k ∧ vb = .slice va n vc ∧ Hid (n = (P0 ++ (es.take k).flatMap enB).length) ∧ Hid (Row (fun i => W0.heap.size ≤ i ∧ i < wr.heap.size) wr 5 1 (.slice va n vc) n ((P0 ++ (es.take k).flatMap enB).map (Value.int .u8))) ∧ Hid (Below W0.heap.size W0 wr)) (fun _ i _ => ne - (intOf i).toNat)
    case atStart => exact ⟨0, _, v3a, v3c, Nat.zero_le _, rfl, rfl, hide (by simp), hide (by simpa using HO3.out), HB3⟩
    case round =>
      obtain ⟨k, n, va, vc, hk1, rfl, rfl, HN, HO, HB⟩ := hrel
      have hs1 := HB.out.size
      have hnl : n ≤ 400000000 := by
        have h1 : ((es.take k).flatMap enB).length ≤ 300 * (es.take k).length := flat_len (fun e he => enB_len (HG1.out e (List.mem_of_mem_take he)).1.2 (HG1.out e (List.mem_of_mem_take he)).2)
        have h2 : (es.take k).length ≤ ne := by rw [List.length_take, HNE.out]; omega
        have h3 := HN.out
        rw [List.length_append] at h3
        have h4 : 300 * (es.take k).length ≤ 300 * ne := Nat.mul_le_mul_left _ h2
        omega
      by_cases hkn : k < ne
      · obtain ⟨e, hek⟩ : ∃ e, es[k]? = some e := ⟨es[k]'(by have := HNE.out; omega), List.getElem?_eq_getElem _⟩
        obtain ⟨g, o, rfl, q1, q2⟩ := HE.out k e hek
        have q1' := (HB.out.cell (p := ⟨g, o + k * 2, none⟩) (World.block_lt_of_cell? _ _ q1)).trans q1
        have q2' := (HB.out.cell (p := ⟨g, o + k * 2 + 1, none⟩) (World.block_lt_of_cell? _ _ q2)).trans q2
        have hsz := HG1.out e (List.mem_of_getElem? hek)
        obtain ⟨ek, ev⟩ := e
        simp only at q1' q2' hsz
        have hte : (es.take (k + 1)).flatMap enB = (es.take k).flatMap enB ++ enB ⟨ek, ev⟩ := by rw [List.take_add_one, hek]; simp
        obtain ⟨W1, hW1⟩ : ∃ W1, W1 = wr.alloc (.cells #[.string ek, .string ev] 55) := ⟨_, rfl⟩
        have b1 : Below W0.heap.size W0 W1 := by rw [hW1]; exact HB.out.alloc hs1 _
        have bb1 : Below wr.heap.size wr W1 := by rw [hW1]; exact (Below.refl _ wr).alloc (Nat.le_refl _) _
        have s1 : W1.heap.size = wr.heap.size + 1 := by rw [hW1]; simp
        have r1 := HO.out.onl (w' := W1.drew) (F := fun _ => False) (Onl.ofBelow bb1.drew) (fun _ _ q => q)
        obtain ⟨cu, hcu⟩ : ∃ cu, cu = P0 ++ (es.take k).flatMap enB := ⟨_, rfl⟩
        rw [← hcu] at r1 HN
        have kb1 : Ob W1 wr.heap.size 55 [.string ek, .string ev] := by rw [hW1]; exact Ob.new wr [.string ek, .string ev] 55
        have y0 := kb1.cell 0
        have y1 := kb1.cell 1
        simp only [List.getElem?_cons_zero, List.getElem?_cons_succ] at y0 y1
        have C5 := text_o (.slice va n vc) cu ek W1.drew (by rw [← HN.out]; exact r1) (by have := HN.out; omega)
        have HC5 := hide C5
        have HTE := hide hte
        have HBW1 := hide b1
        have HKB := hide kb1
        have HCU := hide hcu
        have kbb := kb1.lt
        clear C5 hte q1 q2 r1 hek kb1 bb1 hcu b1
        rw [hW1] at y0 y1 HC5 HKB
        go_wp2
        have HX5 : Hid (∀ w4 v4, Row (Gro (fun i => W0.heap.size ≤ i ∧ i < wr.heap.size) W1.drew w4) w4 5 1 v4 (cu ++ (enc ek.size ++ nums ek)).length ((cu ++ (enc ek.size ++ nums ek)).map (Value.int .u8)) → Onl (fun i => W0.heap.size ≤ i ∧ i < wr.heap.size) W1.drew w4 →
            w4.cell? ⟨wr.heap.size, 0, none⟩ = some (.string ek) ∧ w4.cell? ⟨wr.heap.size, 1, none⟩ = some (.string ev) ∧ Calls Try.prog 33 #[v4, .string ev] w4 fun e w5 => ∃ v5 n5 a5 c5, e = .returned v5 ∧ v5 = .slice a5 n5 c5 ∧ Hid (n5 = (P0 ++ (es.take (k + 1)).flatMap enB).length) ∧ Hid (Row (fun i => W0.heap.size ≤ i ∧ i < w5.heap.size) w5 5 1 (.slice a5 n5 c5) n5 ((P0 ++ (es.take (k + 1)).flatMap enB).map (Value.int .u8))) ∧ Hid (Below W0.heap.size W0 w5) ∧ w5.cell? ⟨wr.heap.size, 0, none⟩ = some (.string ek) ∧ w5.cell? ⟨wr.heap.size, 1, none⟩ = some (.string ev)) := by
          refine hide (fun w4 v4 r4 o4 => ?_)
          rw [← hW1] at HKB
          have z4 := o4.size
          have zd : W1.drew.heap.size = W1.heap.size := rfl
          have k4 := Ob.onl (w := W1.drew) HKB.out o4 (by omega)
          have B4 : Below W0.heap.size W0 w4 := Below.onl HBW1.out.drew o4 (fun i q => q.1) (Nat.le_refl _)
          have hel1 := enc_len ek.size
          have hel2 := enc_len ev.size
          refine ⟨k4.cell 0, k4.cell 1, (text_o v4 _ ev w4 r4 (by simp only [List.length_append, nums_length]; have := HN.out; omega)).mono ?_⟩
          rintro en w5 ⟨v5, rfl, r5, o5⟩
          have z5 := o5.size
          obtain ⟨a5, c5, hv5, _⟩ := r5.form
          have k5 := k4.onl o5 (fun q => q.elim (fun z => by omega) (fun z => by omega))
          have efin : cu ++ (enc ek.size ++ nums ek) ++ (enc ev.size ++ nums ev) = P0 ++ (es.take (k + 1)).flatMap enB := by rw [HTE.out, HCU.out]; unfold enB; simp [List.append_assoc]
          rw [efin] at r5 hv5
          refine ⟨v5, _, a5, c5, rfl, hv5, hide rfl, hide ?_, hide (Below.onl B4 o5 (fun i q => q.elim (fun z => z.1) (fun z => by omega)) (Nat.le_refl _)), k5.cell 0, k5.cell 1⟩
          rw [← hv5]
          refine r5.mono (fun i q => ?_)
          rcases q with (q | q) | q
          · exact ⟨q.1, by omega⟩
          · exact ⟨by omega, by omega⟩
          · exact ⟨by omega, by omega⟩
        rw [hW1] at HX5
        go_region_held3 (fun W' => W'.cell? ⟨wr.heap.size, 0, none⟩ = some (.string ek) ∧ W'.cell? ⟨wr.heap.size, 1, none⟩ = some (.string ev)) (go_keep) (first
          | (go_at_call 33; refine HC5.out.mono ?_; rintro en w4 ⟨v4, rfl, r4, o4⟩; obtain ⟨x0, x1, C6⟩ := HX5.out w4 v4 r4 o4; have HC6 := hide C6; clear HC5 HX5 C6 r4 o4)
          | (go_at_call 33; refine HC6.out.mono ?_; rintro en w5 ⟨v5, n5, a5, c5, rfl, rfl, HN5, HR5, HB5, x0, x1⟩; clear HC6))
        go_wp2
        go_roundw
        case rel => exact ⟨k + 1, n5, a5, c5, by omega, by simp, rfl, HN5, HR5, HB5⟩
        case measure => simp [intOf]; omega
      · obtain rfl : k = ne := by omega
        have ek : es.take k = es := by rw [HNE.out]; exact List.take_length
        rw [ek] at HN HO
        obtain ⟨Q0, hQ0⟩ : ∃ Q0, Q0 = P0 ++ es.flatMap enB := ⟨_, rfl⟩
        rw [← hQ0] at HN HO
        have HQ0 := hide hQ0
        have kx := HBX.out wr HB.out
        have u2 := kx.cell 2
        simp only [List.getElem?_cons_zero, List.getElem?_cons_succ] at u2
        clear kx hQ0 ek
        go_wp2
        go_loopw [5, 47] (fun vb i wr => ∃ (j n : Nat) (va : Option Addr) (vc : Nat), j ≤ nk ∧ i = .int .i64 j ∧ vb = .slice va n vc ∧ Hid (n = (Q0 ++ (ks.take j).flatMap kiB).length) ∧ Hid (Row (fun i => W0.heap.size ≤ i ∧ i < wr.heap.size) wr 5 1 (.slice va n vc) n ((Q0 ++ (ks.take j).flatMap kiB).map (Value.int .u8))) ∧ Hid (Below W0.heap.size W0 wr)) (fun _ i _ => nk - (intOf i).toNat)
        case atStart => exact ⟨0, n, va, vc, Nat.zero_le _, rfl, rfl, hide (by simpa using HN.out), hide (by simpa using HO.out), HB⟩
        case round =>
          clear HO HB
          have HNQ := HN
          obtain ⟨j, n, va, vc, hj1, rfl, rfl, HN, HO, HB⟩ := hrel
          have hs1 := HB.out.size
          have hnl : n ≤ 800000000 := by
            have h1 : ((ks.take j).flatMap kiB).length ≤ 300 * (ks.take j).length := flat_len (fun e he => kiB_len (HG2.out e (List.mem_of_mem_take he)).1.2)
            have h2 : (ks.take j).length ≤ nk := by rw [List.length_take, HNK.out]; omega
            have h3 := HN.out
            rw [List.length_append, ← HNQ.out] at h3
            have h4 : 300 * (ks.take j).length ≤ 300 * nk := Nat.mul_le_mul_left _ h2
            omega
          by_cases hjn : j < nk
          · obtain ⟨e, hek⟩ : ∃ e, ks[j]? = some e := ⟨ks[j]'(by have := HNK.out; omega), List.getElem?_eq_getElem _⟩
            obtain ⟨g, o, rfl, q1, q2⟩ := HK.out j e hek
            have q1' := (HB.out.cell (p := ⟨g, o + j * 2, none⟩) (World.block_lt_of_cell? _ _ q1)).trans q1
            have q2' := (HB.out.cell (p := ⟨g, o + j * 2 + 1, none⟩) (World.block_lt_of_cell? _ _ q2)).trans q2
            have hsz := HG2.out e (List.mem_of_getElem? hek)
            have hiz := (HKZ.out e (List.mem_of_getElem? hek)).2
            obtain ⟨ek, ei⟩ := e
            simp only at q1' q2' hsz hiz
            have hte : (ks.take (j + 1)).flatMap kiB = (ks.take j).flatMap kiB ++ kiB ⟨ek, ei⟩ := by rw [List.take_add_one, hek]; simp
            obtain ⟨W1, hW1⟩ : ∃ W1, W1 = wr.alloc (.cells #[.string ek, .int .u64 ei] 58) := ⟨_, rfl⟩
            have b1 : Below W0.heap.size W0 W1 := by rw [hW1]; exact HB.out.alloc hs1 _
            have bb1 : Below wr.heap.size wr W1 := by rw [hW1]; exact (Below.refl _ wr).alloc (Nat.le_refl _) _
            have s1 : W1.heap.size = wr.heap.size + 1 := by rw [hW1]; simp
            have r1 := HO.out.onl (w' := W1.drew) (F := fun _ => False) (Onl.ofBelow bb1.drew) (fun _ _ q => q)
            obtain ⟨cu, hcu⟩ : ∃ cu, cu = Q0 ++ (ks.take j).flatMap kiB := ⟨_, rfl⟩
            rw [← hcu] at r1 HN
            have kb1 : Ob W1 wr.heap.size 58 [.string ek, .int .u64 ei] := by rw [hW1]; exact Ob.new wr [.string ek, .int .u64 ei] 58
            have y0 := kb1.cell 0
            have y1 := kb1.cell 1
            simp only [List.getElem?_cons_zero, List.getElem?_cons_succ] at y0 y1
            have C5 := text_o (.slice va n vc) cu ek W1.drew (by rw [← HN.out]; exact r1) (by have := HN.out; omega)
            have HC5 := hide C5
            have HTE := hide hte
            have HBW1 := hide b1
            have HKB := hide kb1
            have HCU := hide hcu
            have kbb := kb1.lt
            clear C5 hte q1 q2 r1 hek kb1 bb1 hcu b1
            rw [hW1] at y0 y1 HC5 HKB
            have HX5 : Hid (∀ w4 v4, Row (Gro (fun i => W0.heap.size ≤ i ∧ i < wr.heap.size) W1.drew w4) w4 5 1 v4 (cu ++ (enc ek.size ++ nums ek)).length ((cu ++ (enc ek.size ++ nums ek)).map (Value.int .u8)) → Onl (fun i => W0.heap.size ≤ i ∧ i < wr.heap.size) W1.drew w4 →
                w4.cell? ⟨wr.heap.size, 0, none⟩ = some (.string ek) ∧ w4.cell? ⟨wr.heap.size, 1, none⟩ = some (.int .u64 ei) ∧ Calls Try.prog 32 #[v4, .int .u64 ei] w4 fun e w5 => ∃ v5 n5 a5 c5, e = .returned v5 ∧ v5 = .slice a5 n5 c5 ∧ Hid (n5 = (Q0 ++ (ks.take (j + 1)).flatMap kiB).length) ∧ Hid (Row (fun i => W0.heap.size ≤ i ∧ i < w5.heap.size) w5 5 1 (.slice a5 n5 c5) n5 ((Q0 ++ (ks.take (j + 1)).flatMap kiB).map (Value.int .u8))) ∧ Hid (Below W0.heap.size W0 w5) ∧ w5.cell? ⟨wr.heap.size, 0, none⟩ = some (.string ek) ∧ w5.cell? ⟨wr.heap.size, 1, none⟩ = some (.int .u64 ei)) := by
              refine hide (fun w4 v4 r4 o4 => ?_)
              rw [← hW1] at HKB
              have z4 := o4.size
              have zd : W1.drew.heap.size = W1.heap.size := rfl
              have k4 := Ob.onl (w := W1.drew) HKB.out o4 (by omega)
              have B4 : Below W0.heap.size W0 w4 := Below.onl HBW1.out.drew o4 (fun i q => q.1) (Nat.le_refl _)
              have hel1 := enc_len ek.size
              refine ⟨k4.cell 0, k4.cell 1, (num_o v4 _ (ei : Int) w4 r4 (by simp only [List.length_append, nums_length]; have := HN.out; omega) (by omega) (by omega)).mono ?_⟩
              rintro en w5 ⟨v5, rfl, r5, o5⟩
              simp only [Int.toNat_natCast] at r5
              have z5 := o5.size
              obtain ⟨a5, c5, hv5, _⟩ := r5.form
              have k5 := k4.onl o5 (fun q => q.elim (fun z => by omega) (fun z => by omega))
              have efin : cu ++ (enc ek.size ++ nums ek) ++ enc ei = Q0 ++ (ks.take (j + 1)).flatMap kiB := by rw [HTE.out, HCU.out]; unfold kiB; simp [List.append_assoc]
              rw [efin] at r5 hv5
              refine ⟨v5, _, a5, c5, rfl, hv5, hide rfl, hide ?_, hide (Below.onl B4 o5 (fun i q => q.elim (fun z => z.1) (fun z => by omega)) (Nat.le_refl _)), k5.cell 0, k5.cell 1⟩
              rw [← hv5]
              refine r5.mono (fun i q => ?_)
              rcases q with (q | q) | q
              · exact ⟨q.1, by omega⟩
              · exact ⟨by omega, by omega⟩
              · exact ⟨by omega, by omega⟩
            rw [hW1] at HX5
            go_wp2
            go_region_held3 (fun W' => W'.cell? ⟨wr.heap.size, 0, none⟩ = some (.string ek) ∧ W'.cell? ⟨wr.heap.size, 1, none⟩ = some (.int .u64 ei)) (go_keep) (first
              | (go_at_call 33; refine HC5.out.mono ?_; rintro en w4 ⟨v4, rfl, r4, o4⟩; obtain ⟨x0, x1, C6⟩ := HX5.out w4 v4 r4 o4; have HC6 := hide C6; clear HC5 HX5 C6 r4 o4)
              | (go_at_call 32; refine HC6.out.mono ?_; rintro en w5 ⟨v5, n5, a5, c5, rfl, rfl, HN5, HR5, HB5, x0, x1⟩; clear HC6))
            go_wp2
            go_roundw
            case rel => exact ⟨j + 1, n5, a5, c5, by omega, by simp, rfl, HN5, HR5, HB5⟩
            case measure => simp [intOf]; omega
          · obtain rfl : j = nk := by omega
            have ekk : ks.take j = ks := by rw [HNK.out]; exact List.take_length
            rw [ekk] at HN HO
            have hall : Q0 ++ ks.flatMap kiB = ndB ⟨lv, es, ks⟩ := by
              unfold ndB
              simp only
              rw [HQ0.out, HP0.out, ← HNE.out, ← HNK.out]
            rw [hall] at HN HO
            have HBB := hide (HB0.out.trans (HB.out.mono (by omega)))
            have hno : ¬ (nodeE ⟨lv, es, ks⟩ ≠ 0) := by rw [← HNEE.out]; simp
            by_cases hbig : 131072 < n
            · have hd : decide ((131072 : Int) < (n : Int)) = true := by simp; omega
              have hdn : decide (131072 < n) = true := by simp; omega
              have HF : Hid (PnP w ⟨lv, es, ks⟩ (.returned (.tuple #[.slice none 0 0, .int .i64 2])) wr) := by
                have e : putE ⟨lv, es, ks⟩ = ([], 2) := by unfold putE; rw [if_neg hno, if_pos (by rw [← HN.out]; exact hbig)]
                refine hide ?_
                unfold PnP
                rw [e]
                exact ⟨.slice none 0 0, rfl, World.ownsRow_nil _ _ _ _, HBB.out⟩
              go_wp2
              refine bodyPost_ret (by simp [results, Try.results10, go_sem]; rfl) rfl ?_
              exact HF.out
            · have hd : decide ((131072 : Int) < (n : Int)) = false := by simp; omega
              have hdn : decide (131072 < n) = false := by simp; omega
              have HF : Hid (PnP w ⟨lv, es, ks⟩ (.returned (.tuple #[.slice va n vc, .int .i64 0])) wr) := by
                have e : putE ⟨lv, es, ks⟩ = (ndB ⟨lv, es, ks⟩, 0) := by unfold putE; rw [if_neg hno, if_neg (by rw [← HN.out]; exact hbig)]
                refine hide ?_
                unfold PnP
                rw [e]
                refine ⟨.slice va n vc, rfl, ?_, HBB.out⟩
                simp only
                rw [← HN.out]
                refine ⟨HO.out.1.1, ?_⟩
                rcases HO.out.1.2 with q | ⟨g, cap, cur, h1, h2, h3⟩
                · exact .inl q
                · refine .inr ⟨g, cap, cur, h1, ?_, h3⟩
                  have := (HO.out.2 g (by rw [h1]; rfl)).1
                  omega
              go_wp2
              refine bodyPost_ret (by simp [results, Try.results10, go_sem]; rfl) rfl ?_
              exact HF.out
  · have hzb : (NE != 0) = true := by simpa using hz
    have e : putE ⟨lv, es, ks⟩ = ([], NE) := by unfold putE; rw [if_pos (by rw [← HNEE.out]; exact hz), ← HNEE.out]
    have HEP := hide e
    clear hz e
    go_enter Try.func10, Try.ntmps10
    rw [hW0] at HCN c0 c1 c2
    go_wp2_with fail
    rw [← hW0] at HCN c0 c1 c2 ⊢
    refine HCN.out.mono ?_
    rintro e w1 ⟨rfl, b1⟩
    have HF : Hid (PnP w ⟨lv, es, ks⟩ (.returned (.tuple #[.slice none 0 0, .int .i64 NE])) w1) := by
      refine hide ?_
      unfold PnP
      rw [HEP.out]
      exact ⟨.slice none 0 0, rfl, World.ownsRow_nil _ _ _ _, HB0.out.trans (b1.mono (by omega))⟩
    clear b1
    go_wp2
    refine bodyPost_ret (by simp [results, Try.results10, go_sem]; rfl) rfl ?_
    exact HF.out
end Go.Proofs.Ytandjkogpdamcaa
