/- The Gen that a commit must have. Over the translation. Merge bases by parents, pure. The program's Add. Over the translation. -/
import Derived.Test.YtmkafoidfgaokaaQB1
import Derived.Test.YtmkafoidfgaokaaQA7
import Derived.Test.YtmkafoidfgaokaaQA3
namespace Go.Proofs.Ytmkafoidfgaokaa
open Go.RowKit Apo
/-- what gen tells -/
def genT (o : Option Int) : Int × Bool := match o with | none => (0, false) | some g => ((g + 1) % 18446744073709551616, true)
set_option maxRecDepth 100000 in
set_option maxHeartbeats 4000000 in
theorem gen_any14 {w : World} {b : Nat} {X : List CmA} {l : List Cm} (h : Cs w b X) (hg : ∀ id, getG l id = (fX X id).map CmA.c) {a : Option Addr} {ps : List Int} (c : Nat) (hr : Rd .u64 w a ps) (hl : ps.length ≤ 2) (hu : InU ps) :
    Calls Try.prog 49 #[.map (some b), .slice a ps.length c] w fun e w' => e = .returned (.tuple #[.int .u64 (genT (genUp l ps 0)).1, .bool (genT (genUp l ps 0)).2]) ∧ Below w.heap.size w w' := by
  have HH := hide h
  have HG := hide hg
  have HR := hide hr
  have HU := hide hu
  obtain ⟨n, hn⟩ : ∃ n, n = ps.length := ⟨_, rfl⟩
  have HN := hide hn
  rw [← hn] at hl ⊢
  clear h hg hr hu hn
  go_enter Try.func49, Try.ntmps49
  go_wp2
  go_loopw [6, 13] (fun v i wr => ∃ (k : Nat) (g : Int), k ≤ n ∧ i = .int .i64 k ∧ v = .int .u64 g ∧ 0 ≤ g ∧ g ≤ 18446744073709551615 ∧ Hid (genUp l ps 0 = genUp l (ps.drop k) g) ∧ Hid (Below w.heap.size w wr)) (fun _ i _ => n - (intOf i).toNat)
  case atStart => exact ⟨0, 0, Nat.zero_le _, rfl, rfl, by omega, by omega, hide (by simp), hide (Below.refl _ _)⟩
  case round =>
    obtain ⟨k, g, hk, rfl, rfl, g0, g1, HGU, HB⟩ := hrel
    by_cases hlt : k < n
    · have hrd := HR.out.below HB.out
      obtain ⟨bb, off, z, ha, hcz, hz, _⟩ := hrd.at (by have := HN.out; omega : k < ps.length)
      subst ha
      have hkl : k < ps.length := by have := HN.out; omega
      have hdr : ps.drop k = z :: ps.drop (k + 1) := by
        rw [List.drop_eq_getElem_cons hkl]
        congr 1
        have := hz.out
        rw [List.getElem?_eq_getElem hkl] at this
        exact Option.some.inj this
      have hzu : 0 ≤ z ∧ z ≤ 18446744073709551615 := by
        have := HU.out z (by have := hz.out; exact List.mem_of_getElem? this)
        omega
      have hgz := HG.out z
      have hlk := mc_look2 (HH.out.old HB.out).mp hzu.1 hzu.2
      have HGN : Hid (genUp l ps 0 = match getG l z with | none => none | some x => genUp l (ps.drop (k + 1)) (if g < x.gen then x.gen else g)) := hide (by rw [HGU.out, hdr]; rfl)
      clear hrd hz hdr HGU
      cases hq : fX X z with
      | none =>
        rw [hq] at hgz hlk
        have HF : Hid (genUp l ps 0 = none) := hide (by rw [HGN.out, hgz]; rfl)
        have HBA := hide (HB.out.alloc HB.out.size (.cells #[.int .u64 0, .slice none 0 0, .int .u64 0, .int .u64 0, .string ⟨#[]⟩] 32))
        have hlk2 : (Instr.lookup 61 (.map (some b)) (.int .u64 z) true).run Try.prog wr = .ok (.tuple #[.agg #[.int .u64 0, .slice none 0 0, .int .u64 0, .int .u64 0, .string ⟨#[]⟩], .bool false]) wr := hlk
        clear HGN hgz hq hlk
        go_wp2
        refine bodyPost_ret (v := .tuple #[.int .u64 0, .bool false]) (by simp [results, Try.results49, go_sem]) rfl ?_
        rw [HF.out]
        exact ⟨rfl, HBA.out⟩
      | some x =>
        rw [hq] at hgz hlk
        have hxm := (fX_some hq).1
        have hgb : 0 ≤ x.c.gen ∧ x.c.gen ≤ 18446744073709551615 := (HH.out.cm x hxm).sz.2.2.1
        have HBA := hide (HB.out.alloc HB.out.size (.cells #[.int .u64 x.c.id, .slice x.a x.c.ps.length x.cap, .int .u64 x.c.gen, .int .u64 x.c.root, .string x.c.tx] 32))
        have hlk2 : (Instr.lookup 61 (.map (some b)) (.int .u64 z) true).run Try.prog wr = .ok (.tuple #[.agg #[.int .u64 x.c.id, .slice x.a x.c.ps.length x.cap, .int .u64 x.c.gen, .int .u64 x.c.root, .string x.c.tx], .bool true]) wr := hlk
        by_cases hgt : g < x.c.gen
        · have HG2 : Hid (genUp l ps 0 = genUp l (ps.drop (k + 1)) x.c.gen) := hide (by rw [HGN.out, hgz]; simp only [Option.map_some]; rw [if_pos hgt])
          clear HGN hgz hq hlk hxm
          go_wp2
          go_roundw
          case rel => exact ⟨k + 1, x.c.gen, by omega, by simp, by rw [Int.max_eq_right (by omega)], hgb.1, hgb.2, HG2, HBA⟩
          case measure => simp [intOf]; omega
        · have HG2 : Hid (genUp l ps 0 = genUp l (ps.drop (k + 1)) g) := hide (by rw [HGN.out, hgz]; simp only [Option.map_some]; rw [if_neg hgt])
          clear HGN hgz hq hlk hxm
          go_wp2
          go_roundw
          case rel => exact ⟨k + 1, g, by omega, by simp, by rw [Int.max_eq_left (by omega)], g0, g1, HG2, HBA⟩
          case measure => simp [intOf]; omega
    · obtain rfl : k = n := by omega
      have HF : Hid (genUp l ps 0 = some g) := hide (by rw [HGU.out, HN.out, List.drop_length]; rfl)
      have hw : IntKind.u64.wrap (g + 1) = (g + 1) % 18446744073709551616 := IntKind.wrap_u64 _
      clear HGU
      go_wp2
      refine bodyPost_ret (v := .tuple #[.int .u64 ((g + 1) % 18446744073709551616), .bool true]) (by simp [results, Try.results49, go_sem]) rfl ?_
      rw [HF.out]
      exact ⟨rfl, HB.out⟩
end Go.Proofs.Ytmkafoidfgaokaa
namespace Go.Proofs.Ytmkafoidfgaokaa
open Go.RowKit Apo
theorem bases_mem {l : List Cm} (G : Gok l) (a b z : Int) : z ∈ basesG l a b ↔ z ∈ commonG l a b ∧ ∀ k ∈ commonG l a b, ∀ c, getG l k = some c → z ∉ c.ps := by
  unfold basesG
  rw [List.mem_filter]
  refine and_congr_right fun hz => ?_
  unfold bestB
  rw [List.all_eq_true]
  constructor
  · intro h k hk c hc hp
    have := h k hk
    rw [Bool.or_eq_true, Bool.not_eq_true', beq_iff_eq] at this
    have ha : Anc l z k := by
      obtain ⟨d, hd⟩ := (((mem_common G a b z).1 hz).1).there.1
      exact .step k z c hc hp (.self d hd)
    rcases this with q | q
    · obtain ⟨h1, h2⟩ := getG_mem hc
      have := (G.par c h1 z hp).1
      omega
    · rw [(is_anc G z k).2 ha] at q
      cases q
  · intro h k hk
    rw [Bool.or_eq_true, Bool.not_eq_true', beq_iff_eq]
    by_cases q : k = z
    · exact .inl q
    · right
      cases hi : isG l z k with
      | false => rfl
      | true =>
        exfalso
        rcases ((is_anc G z k).1 hi).low with e | ⟨m, c, h1, h2, h3⟩
        · exact q e.symm
        · have hk2 := (mem_common G a b k).1 hk
          exact h m ((mem_common G a b m).2 ⟨h3.trans hk2.1, h3.trans hk2.2⟩) c h1 h2
theorem bases_rise {l : List Cm} (G : Gok l) (a b : Int) : (basesG l a b).Pairwise (· < ·) := (common_rise G a b).sublist List.filter_sublist
/-- no commit has the number 0 -/
def Pos (l : List Cm) : Prop := ∀ c ∈ l, c.id ≠ 0
theorem cmE_id {c : Cm} (h : cmE c = 0) : c.id ≠ 0 := by
  unfold cmE at h
  split at h
  · cases h
  · rename_i q
    intro e
    exact q (by simp [e])
theorem pos_nil : Pos [] := by simp [Pos]
theorem pos_add {l : List Cm} (h : Pos l) (c : Cm) : Pos (addL l c) := by
  unfold addL
  split
  · rename_i h0
    intro x hx
    rcases (ins_mem _ x).1 hx with q | q
    · rw [q]; exact cmE_id (addE_ok h0).1
    · exact h x q
  · exact h
/-- the base's number tells whether there is one -/
theorem base_pos {l : List Cm} (G : Gok l) (h : Pos l) (a b : Int) : baseG l a b = ((baseS l (basesG l a b) (0, 0)).1, (baseS l (basesG l a b) (0, 0)).1 != 0) := by
  unfold baseG
  congr 1
  obtain ⟨h1, h2, h3⟩ := baseS_is l (basesG l a b) (0, 0)
  rcases h3 with e | ⟨e1, e2, e3⟩
  · rw [e]; rfl
  · have hz := (List.mem_filter.1 e1).1
    obtain ⟨c, hc⟩ := (((mem_common G a b _).1 hz).1).there.1
    obtain ⟨q1, q2⟩ := getG_mem hc
    have := h c q1
    rw [q2] at this
    simp only at e3
    simp [this, e3]
end Go.Proofs.Ytmkafoidfgaokaa
namespace Go.Proofs.Ytmkafoidfgaokaa
open Go.RowKit Apo
/-- what Add answers, and what is there behind it -/
def AdQ (w : World) (p b : Nat) (X : List CmA) (l : List Cm) (x : CmA) (e : Ending) (w' : World) : Prop :=
  e = .returned (.int .i64 (addE l x.c)) ∧ (∃ X', Gp w' p b X' (addL l x.c) ∧ X'.length ≤ X.length + 1 ∧ ∀ y ∈ X', y ∈ X ∨ ∀ ad, y.a = some ad → w.heap.size ≤ ad.block) ∧ Onl (fun i => i = b) w w'
theorem adQ_same {w w' : World} {p b : Nat} {X : List CmA} {l : List Cm} {x : CmA} {E : Int} (h : Gp w p b X l) (hE : addE l x.c = E) (h0 : E ≠ 0) (o : Below w.heap.size w w') : AdQ w p b X l x (.returned (.int .i64 E)) w' :=
  ⟨by rw [hE], ⟨X, by unfold addL; rw [if_neg (by rw [hE]; exact h0)]; exact h.old o, by omega, fun y hy => .inl hy⟩, Onl.ofBelow o⟩
theorem addL_rise {l : List Cm} (h : l.Pairwise (fun a b => a.id < b.id)) (c : Cm) : (addL l c).Pairwise (fun a b => a.id < b.id) := by
  unfold addL
  split
  · rename_i h0
    exact ins_rise h (addE_ok h0).2.1
  · exact h
/-- one commit more -/
theorem adQ_more {w w3 : World} {p b : Nat} {X : List CmA} {l : List Cm} {x y : CmA} (h : Gp w p b X l) (hl : X.length < 1000) (hE : addE l x.c = 0) (bW : Below w.heap.size w w3) (hy : y.c = x.c) (hc : CmR w3 y.c y.a y.cap) (hn : y.a = none → y.cap = 0) (hf : ∀ ad, y.a = some ad → w.heap.size ≤ ad.block) :
    ∃ w4, (Instr.mapUpdate 61 (.map (some b)) (.int .u64 x.c.id) (aggC y)).run Try.prog w3 = .ok () w4 ∧ AdQ w p b X l x (.returned (.int .i64 0)) w4 ∧ Onl (fun i => i = b) w3 w4 := by
  have h3 := h.old bW
  have hno : getG l x.c.id = none := (addE_ok hE).2.1
  have hfx : fX X x.c.id = none := by
    rw [h.get] at hno
    cases hq : fX X x.c.id with
    | none => rfl
    | some z => rw [hq] at hno; cases hno
  have hal : addL l x.c = l.take (insAt l x.c.id) ++ x.c :: l.drop (insAt l x.c.id) := by unfold addL; rw [if_pos hE]
  have hpm : ((y :: X).map CmA.c).Perm (addL l x.c) := by
    rw [hal, List.map_cons, hy]
    refine ((h.pm.cons x.c)).trans ?_
    have := (List.perm_middle (a := x.c) (l₁ := l.take (insAt l x.c.id)) (l₂ := l.drop (insAt l x.c.id))).symm
    rw [List.take_append_drop] at this
    exact this
  have hri := addL_rise h.rise x.c
  have hp2 : y.c.ps.length ≤ 2 := by rw [hy]; exact (cmE_ok (addE_ok hE).1).2.1
  obtain ⟨w4, R, cs4, o4⟩ := h3.cs.put (Y := y :: X) hc ⟨hn, hp2⟩ (noTw_of hpm hri) (fun z => by rw [List.mem_cons]) (by rw [hy]; exact hfx) (by omega)
  rw [hy] at R
  have hpb : p ≠ b := by
    intro e
    have h1 := h.cs.mp
    have h2 := h.ob.cell 0
    rw [e, mp_cell h1] at h2
    cases h2
  refine ⟨w4, R, ⟨by rw [hE], ⟨y :: X, ⟨h3.ob.onl o4 hpb, cs4, hpm, hri, by simp; omega⟩, by simp, fun z hz => ?_⟩, (Onl.ofBelow bW).trans o4⟩, o4⟩
  rcases List.mem_cons.1 hz with q | q
  · right; rw [q]; exact hf
  · exact .inl q
set_option maxRecDepth 100000 in
set_option maxHeartbeats 8000000 in
theorem addp_any {w : World} {p b : Nat} {X : List CmA} {l : List Cm} (h : Gp w p b X l) (hl : X.length < 1000) (x : CmA) (hx : CmR w x.c x.a x.cap) (hn : x.a = none → x.cap = 0) :
    Calls Try.prog 32 #[.pointer (some ⟨p, 0, none⟩), aggC x] w (AdQ w p b X l x) := by
  obtain ⟨c, a, cap⟩ := x
  simp only at hx hn
  have e0 : aggC ⟨c, a, cap⟩ = .agg #[.int .u64 c.id, .slice a c.ps.length cap, .int .u64 c.gen, .int .u64 c.root, .string c.tx] := rfl
  rw [e0]
  have bA := (Below.refl w.heap.size w).alloc (Nat.le_refl _) (.cells #[.int .u64 c.id, .slice a c.ps.length cap, .int .u64 c.gen, .int .u64 c.root, .string c.tx] 32)
  have hcr := hx.below bA
  have hg1 := h.old bA
  have HC0 := hide (commits_any hg1.ob ⟨_, rfl⟩)
  have HC1 := hide (right14 c a cap _ hcr.rd hcr.len hcr.big hcr.txt)
  have HK := hide (Ob.new w [.int .u64 c.id, .slice a c.ps.length cap, .int .u64 c.gen, .int .u64 c.root, .string c.tx] 32)
  have HB := hide bA
  have HG := hide h
  have HX := hide hx
  have HL := hide hl
  have HN := hide hn
  obtain ⟨np, hnp⟩ : ∃ np, np = c.ps.length := ⟨_, rfl⟩
  have HNP := hide hnp
  rw [← hnp] at HC0 HC1 HK HB ⊢
  clear h hx hl bA hcr hnp hg1 hn e0
  by_cases he : cmE c = 0
  · rw [he] at HC1
    have heq := fun W => eql_map W (some b)
    go_enter Try.func32, Try.ntmps32
    go_wp2_with fail
    refine HC0.out.mono ?_
    rintro e w1 ⟨rfl, rfl⟩
    have x0 := HK.out.cell 0
    have x1 := HK.out.cell 1
    have x2 := HK.out.cell 2
    have x3 := HK.out.cell 3
    have x4 := HK.out.cell 4
    simp only [List.getElem?_cons_zero, List.getElem?_cons_succ] at x0 x1 x2 x3 x4
    go_wp2_with fail
    refine HC1.out.mono ?_
    rintro e w1 ⟨rfl, b1⟩
    have HB1 := hide (HB.out.trans (b1.mono HB.out.size))
    have HK1 := hide (HK.out.old b1)
    have y0 := HK1.out.cell 0
    have y1 := HK1.out.cell 1
    simp only [List.getElem?_cons_zero, List.getElem?_cons_succ] at y0 y1
    have hsz := HX.out.sz
    have hlk := mc_look2 (HG.out.old HB1.out).cs.mp hsz.1.1 hsz.1.2
    have hget := HG.out.get c.id
    clear b1 HB HK HC0 HC1 x0 x1 x2 x3 x4
    cases hq : fX X c.id with
    | some d =>
      rw [hq] at hlk hget
      have hlk2 : (Instr.lookup 61 (.map (some b)) (.int .u64 c.id) true).run Try.prog w1 = .ok (.tuple #[.agg #[.int .u64 d.c.id, .slice d.a d.c.ps.length d.cap, .int .u64 d.c.gen, .int .u64 d.c.root, .string d.c.tx], .bool true]) w1 := hlk
      have HF := hide (adQ_same (x := ⟨c, a, cap⟩) HG.out (E := 112) (by unfold addE; rw [if_neg (by simp [he]), if_pos (by rw [hget]; rfl)]) (by decide) (HB1.out.alloc HB1.out.size (.cells #[.int .u64 d.c.id, .slice d.a d.c.ps.length d.cap, .int .u64 d.c.gen, .int .u64 d.c.root, .string d.c.tx] 32)))
      clear hlk hget hq hsz
      go_wp2
      go_ret
      exact HF.out
    | none =>
      rw [hq] at hlk hget
      have hlk2 : (Instr.lookup 61 (.map (some b)) (.int .u64 c.id) true).run Try.prog w1 = .ok (.tuple #[.agg #[.int .u64 0, .slice none 0 0, .int .u64 0, .int .u64 0, .string ⟨#[]⟩], .bool false]) w1 := hlk
      have HE : Hid (addE l c = match genUp l c.ps 0 with | none => 120 | some g => if c.gen = (g + 1) % 18446744073709551616 then 0 else 120) := hide (by unfold addE; rw [if_neg (by simp [he]), if_neg (by rw [hget]; simp)]; rfl)
      have hnp2 : np ≤ 2 := by rw [HNP.out]; exact (cmE_ok he).2.1
      have b2 : Below w1.heap.size w1 (w1.alloc (.cells #[.int .u64 0, .slice none 0 0, .int .u64 0, .int .u64 0, .string ⟨#[]⟩] 32)) := (Below.refl _ _).alloc (Nat.le_refl _) _
      have HB2 := hide (HB1.out.trans (b2.mono HB1.out.size))
      have HK2 := hide (HK1.out.old b2)
      have HCG := hide (gen_any14 (HG.out.old HB2.out).cs (fun id => HG.out.get id) cap (HX.out.below HB2.out).rd (by rw [← HNP.out]; exact hnp2) hsz.2.1)
      rw [← HNP.out] at HCG
      have z1 := HK2.out.cell 1
      simp only [List.getElem?_cons_zero, List.getElem?_cons_succ] at z1
      clear hlk hget hq hsz he HB1 HK1 b2
      go_wp2_with fail
      refine HCG.out.mono ?_
      rintro e w3 ⟨rfl, b3⟩
      have HB3 := hide (HB2.out.trans (b3.mono HB2.out.size))
      have HK3 := hide (HK2.out.old b3)
      have u0 := HK3.out.cell 0
      have u2 := HK3.out.cell 2
      simp only [List.getElem?_cons_zero, List.getElem?_cons_succ] at u0 u2
      clear b3 HB2 HK2 HCG hlk2 z1 y0 y1
      cases hgu : genUp l c.ps 0 with
      | none =>
        rw [hgu] at HE
        have HF := hide (adQ_same (x := ⟨c, a, cap⟩) HG.out (E := 120) HE.out (by decide) HB3.out)
        clear hgu HE
        simp only [genT]
        go_wp2
        go_ret
        exact HF.out
      | some g =>
        rw [hgu] at HE
        simp only at HE
        simp only [genT]
        generalize (g + 1) % 18446744073709551616 = g1 at HE ⊢
        by_cases hgen : c.gen = g1
        · have HE0 : Hid (addE l c = 0) := hide (by rw [HE.out, if_pos hgen])
          have hd : (c.gen != g1) = false := by simpa using hgen
          have hs0 : w.heap.size < w3.heap.size := HK3.out.lt
          have hcw := (HX.out.below HB3.out)
          have HO := hide (own_any (w := w3.drew) ⟨c, a, cap⟩ (hcw.below ((Below.refl _ _).drew)) HN.out (by simp only; rw [← HNP.out]; exact hnp2))
          have e0 : aggC ⟨c, a, cap⟩ = .agg #[.int .u64 c.id, .slice a np cap, .int .u64 c.gen, .int .u64 c.root, .string c.tx] := by rw [HNP.out]; rfl
          rw [e0] at HO
          have u1 := HK3.out.cell 1
          have u3 := HK3.out.cell 3
          have u4 := HK3.out.cell 4
          simp only [List.getElem?_cons_zero, List.getElem?_cons_succ] at u1 u3 u4
          have HM : Hid (∀ w4 (y : CmA), OwP ⟨c, a, cap⟩ w3.drew.heap.size w3.drew w4 y → ∃ w5, (Instr.mapUpdate 61 (.map (some b)) (.int .u64 c.id) (aggC y)).run Try.prog w4 = .ok () w5 ∧ AdQ w p b X l ⟨c, a, cap⟩ (.returned (.int .i64 0)) w5 ∧ (∀ j, w4.cell? ⟨w.heap.size, j, none⟩ = [Value.int .u64 c.id, .slice a np cap, .int .u64 c.gen, .int .u64 c.root, .string c.tx][j]?) ∧ ∀ j, w5.cell? ⟨w.heap.size, j, none⟩ = [Value.int .u64 c.id, .slice a np cap, .int .u64 c.gen, .int .u64 c.root, .string c.tx][j]?) := hide (by
            intro w4 y hy
            obtain ⟨y1, y2, y3, y4, y5⟩ := hy
            have hb4 : Below w.heap.size w w4 := HB3.out.trans (Below.trans (b := w3.drew) ((Below.refl _ _).drew) (y5.mono (by show w.heap.size ≤ w3.heap.size; omega)))
            obtain ⟨w5, R, hA, ho⟩ := adQ_more (x := ⟨c, a, cap⟩) HG.out HL.out HE0.out hb4 y1 y2 y3 (fun ad h => by have := y4 ad h; have : w3.drew.heap.size = w3.heap.size := rfl; omega)
            have k4 : Ob w4 w.heap.size 32 [.int .u64 c.id, .slice a np cap, .int .u64 c.gen, .int .u64 c.root, .string c.tx] := (HK3.out.old ((Below.refl _ _).drew)).old y5
            have hbl := HG.out.cs.lt
            exact ⟨w5, R, hA, fun j => k4.cell j, fun j => (k4.onl ho (by omega)).cell j⟩)
          clear HE hgen hgu HB3 HK3 hcw e0
          go_wp2
          go_region_held3 (fun W' => W'.cell? ⟨w.heap.size, 0, none⟩ = some (.int .u64 c.id) ∧ W'.cell? ⟨w.heap.size, 1, none⟩ = some (.slice a np cap) ∧ W'.cell? ⟨w.heap.size, 2, none⟩ = some (.int .u64 c.gen) ∧ W'.cell? ⟨w.heap.size, 3, none⟩ = some (.int .u64 c.root) ∧ W'.cell? ⟨w.heap.size, 4, none⟩ = some (.string c.tx)) (go_keep) (first
            | (go_at_call 36; refine HO.out.mono ?_; rintro en w4 ⟨y, rfl, hy⟩; obtain ⟨w5, R5, F, x4, x5⟩ := HM.out w4 y hy; have p0 := x4 0; have p1 := x4 1; have p2 := x4 2; have p3 := x4 3; have p4 := x4 4; have q0 := x5 0; have q1 := x5 1; have q2 := x5 2; have q3 := x5 3; have q4 := x5 4; simp only [List.getElem?_cons_zero, List.getElem?_cons_succ] at p0 p1 p2 p3 p4 q0 q1 q2 q3 q4; have HF := hide F; clear F x4 x5 hy))
          go_wp2
          go_ret
          exact HF.out
        · have HF := hide (adQ_same (x := ⟨c, a, cap⟩) HG.out (E := 120) (by rw [HE.out, if_neg hgen]) (by decide) HB3.out)
          have hd : (c.gen != g1) = true := by simpa using hgen
          clear HE hgen hgu
          go_wp2
          go_ret
          exact HF.out
  · have HF : Hid (∀ w1, Below (w.alloc (.cells #[.int .u64 c.id, .slice a np cap, .int .u64 c.gen, .int .u64 c.root, .string c.tx] 32)).heap.size (w.alloc (.cells #[.int .u64 c.id, .slice a np cap, .int .u64 c.gen, .int .u64 c.root, .string c.tx] 32)) w1 → AdQ w p b X l ⟨c, a, cap⟩ (.returned (.int .i64 (cmE c))) w1) := hide (fun w1 b1 => adQ_same (x := ⟨c, a, cap⟩) HG.out (E := cmE c) (by unfold addE; rw [if_pos he]) he (HB.out.trans (b1.mono HB.out.size)))
    have x0 := HK.out.cell 0
    have x1 := HK.out.cell 1
    have x2 := HK.out.cell 2
    have x3 := HK.out.cell 3
    have x4 := HK.out.cell 4
    simp only [List.getElem?_cons_zero, List.getElem?_cons_succ] at x0 x1 x2 x3 x4
    generalize cmE c = E at *
    have heq := fun W => eql_map W (some b)
    go_enter Try.func32, Try.ntmps32
    go_wp2_with fail
    refine HC0.out.mono ?_
    rintro e w1 ⟨rfl, rfl⟩
    go_wp2_with fail
    refine HC1.out.mono ?_
    rintro e w1 ⟨rfl, b1⟩
    have HF1 := hide (HF.out _ b1)
    clear b1 HF HC0 HC1
    go_wp2
    go_ret
    exact HF1.out
end Go.Proofs.Ytmkafoidfgaokaa
