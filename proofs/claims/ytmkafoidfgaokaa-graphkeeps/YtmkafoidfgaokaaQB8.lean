/- maps.DeleteFunc and maps.Clone at maps of commits. Over the translation. maps.Clone; the merge bases. Over the translation. -/
import Derived.Shelf.SlMaps.DeleteFunc
import Derived.Shelf.SlMaps.Clone
import Derived.Test.YtmkafoidfgaokaaQB7
import Derived.Test.YtmkafoidfgaokaaQB3
namespace Go.Proofs.Ytmkafoidfgaokaa
open Go.RowKit Go.Maps Apo
/-- whether what is held against another map is to go -/
theorem bases1_any {w : World} {Bc b2 : Nat} {O : List CmA} (hk : Ob w Bc 61 [.map (some b2)]) (ho : Cs w b2 O) {id : Int} (h0 : 0 ≤ id) (h1 : id ≤ 18446744073709551615) (x : CmA) :
    Calls Try.prog 42 #[.int .u64 id, aggC x, .pointer (some ⟨Bc, 0, none⟩)] w fun e w' => e = .returned (.bool (!(fX O id).isSome)) ∧ Below w.heap.size w w' := by
  have bA := (Below.refl w.heap.size w).alloc (Nat.le_refl _) (.cells #[.int .u64 x.c.id, .slice x.a x.c.ps.length x.cap, .int .u64 x.c.gen, .int .u64 x.c.root, .string x.c.tx] 32)
  have k2 := hk.old bA
  have x0 := k2.cell 0
  simp only [List.getElem?_cons_zero] at x0
  obtain ⟨y, hy⟩ : ∃ y, y = (fX O id).getD zeroA := ⟨_, rfl⟩
  obtain ⟨r, hr⟩ : ∃ r, r = (fX O id).isSome := ⟨_, rfl⟩
  have hlk := mc_look2 (ho.old bA).mp h0 h1
  rw [← hy, ← hr] at hlk
  rw [← hr]
  have HB := hide (bA.alloc bA.size (.cells #[.int .u64 y.c.id, .slice y.a y.c.ps.length y.cap, .int .u64 y.c.gen, .int .u64 y.c.root, .string y.c.tx] 32))
  unfold aggC at hlk ⊢
  clear hk ho h0 h1 bA k2 hy hr
  go_enter Try.func42, Try.ntmps42
  go_wp2
  go_ret
  exact ⟨rfl, HB.out⟩
/-- an entry that came out of a map of commits -/
theorem rg_entry {D : DataW Value} {C : List CmA} (m : MpD D (mC C)) {i : Nat} (hi : i < 18446744073709551616) {c : Value} (hat : ∀ z, D.atKey (k64 i) z = .held c) : ∃ y ∈ C, y.c.id = (i : Int) ∧ c = aggC y := by
  have hh := has_true_of_atKey hat
  rw [m.has i hi, mC_at hi] at hh
  cases hq : fX C (i : Int) with
  | none => rw [hq] at hh; simp at hh
  | some y =>
    obtain ⟨h1, h2⟩ := fX_some hq
    have := m.get i (aggC y) (by rw [mC_at hi, hq]; rfl) .nil
    rw [hat] at this
    injection this with this
    exact ⟨y, h1, h2, this⟩
theorem owns_mp {w : World} {b n : Nat} {D : DataW Value} {M : Nat → Option Value} (h : w.ownsMap Try.prog 23 heldR b n D) (m : MpD D M) : Mp Try.prog 23 w b M := by
  obtain ⟨es, c, q1, q2, q3, q4⟩ := h
  refine ⟨D, ⟨es, c, q1, q2, ?_, q4⟩, m⟩
  rw [q4]
  simp [Maps.size, length_sorted]
/-- of the commits X those stay that 'keep' names, or that are still to come -/
def StayC (X C : List CmA) (keep : CmA → Bool) (left : Lit → Bool) : Prop := ∀ y, y ∈ C ↔ y ∈ X ∧ (keep y = true ∨ left (k64 y.c.id.toNat) = true)
theorem same64 (i j : Nat) : (k64 i).sameKey (k64 j) = decide (i = j) := by
  simp only [k64, Lit.sameKey]
  by_cases q : i = j
  · simp [q]
  · have : ¬ ((i : Int) = (j : Int)) := by omega
    simp [q, this]
theorem StayC.start {X : List CmA} {D : DataW Value} {keep : CmA → Bool} (m : MpD D (mC X)) (hN : NoTw X) (hb : ∀ x ∈ X, 0 ≤ x.c.id ∧ x.c.id ≤ 18446744073709551615) : StayC X X keep (has D) := by
  intro y
  constructor
  · intro hy
    have := hb y hy
    refine ⟨hy, .inr ?_⟩
    rw [m.has _ (by omega), mC_at (by omega), show ((y.c.id.toNat : Nat) : Int) = y.c.id by omega, fX_is hN hy]
    rfl
  · exact fun h => h.1
theorem StayC.stays {X C : List CmA} {keep : CmA → Bool} {left : Lit → Bool} (h : StayC X C keep left) (hX : NoTw X) {x : CmA} (hx : x ∈ X) (hk : keep x = true) (hb : ∀ x ∈ X, 0 ≤ x.c.id) {i : Nat} (hi : x.c.id = (i : Int)) : StayC X C keep (fun z => left z && !z.sameKey (k64 i)) := by
  intro y
  rw [h y]
  constructor
  · rintro ⟨h1, h2⟩
    refine ⟨h1, ?_⟩
    by_cases q : y.c.id.toNat = i
    · left
      have := hb y h1
      rw [hX.eq h1 hx (by omega)]
      exact hk
    · rcases h2 with r | r
      · exact .inl r
      · right
        show (left _ && !(k64 y.c.id.toNat).sameKey (k64 i)) = true
        rw [r, same64]; simp [q]
  · rintro ⟨h1, h2⟩
    refine ⟨h1, h2.imp id (fun r => ?_)⟩
    rw [Bool.and_eq_true] at r
    exact r.1
theorem StayC.goes {X C C' : List CmA} {keep : CmA → Bool} {left : Lit → Bool} (h : StayC X C keep left) (hX : NoTw X) {x : CmA} (hx : x ∈ X) (hk : keep x = false) (hb : ∀ x ∈ X, 0 ≤ x.c.id) {i : Nat} (hi : x.c.id = (i : Int)) (hC : ∀ y, y ∈ C' ↔ y ∈ C ∧ y.c.id ≠ (i : Int)) : StayC X C' keep (fun z => left z && !z.sameKey (k64 i)) := by
  intro y
  rw [hC y, h y]
  constructor
  · rintro ⟨⟨h1, h2⟩, h3⟩
    have := hb y h1
    refine ⟨h1, h2.imp id (fun r => ?_)⟩
    show (left _ && !(k64 y.c.id.toNat).sameKey (k64 i)) = true
    rw [r, same64]
    have : ¬ y.c.id.toNat = i := by omega
    simp [this]
  · rintro ⟨h1, h2⟩
    have := hb y h1
    refine ⟨⟨h1, h2.imp id (fun r => ?_)⟩, fun e => ?_⟩
    · rw [Bool.and_eq_true] at r
      exact r.1
    · rcases h2 with r | r
      · rw [hX.eq h1 hx (by omega), hk] at r
        cases r
      · have r : (left _ && !(k64 y.c.id.toNat).sameKey (k64 i)) = true := r
        rw [same64] at r
        have : y.c.id.toNat = i := by omega
        simp [this] at r
/-- one entry is struck -/
theorem del_list {X C : List CmA} (hC : NoTw C) (hs : ∀ y ∈ C, y ∈ X) (i : Nat) : ∃ C' : List CmA, NoTw C' ∧ (∀ y ∈ C', y ∈ X) ∧ ∀ y, y ∈ C' ↔ y ∈ C ∧ y.c.id ≠ (i : Int) := by
  refine ⟨C.filter (fun y => decide (y.c.id ≠ (i : Int))), List.Pairwise.sublist List.filter_sublist hC, fun y hy => hs y (List.mem_filter.1 hy).1, fun y => ?_⟩
  rw [List.mem_filter, decide_eq_true_iff]
/-- what DeleteFunc leaves -/
def DfP (w : World) (b : Nat) (X O : List CmA) (e : Ending) (w' : World) : Prop :=
  e = .returned (.tuple #[]) ∧ ∃ C, Cs w' b C ∧ (∀ y, y ∈ C ↔ y ∈ X ∧ (fX O y.c.id).isSome = true) ∧ Onl (fun i => i = b) w w'
set_option maxRecDepth 100000 in
set_option maxHeartbeats 4000000 in
theorem delf_any {w : World} {b b2 Bc : Nat} {X O : List CmA} (h : Cs w b X) (ho : Cs w b2 O) (hne : b2 ≠ b) (hc : Ob w Bc 61 [.map (some b2)]) :
    Calls Try.prog 41 #[.map (some b), .func (.func 42) #[] #[.pointer (some ⟨Bc, 0, none⟩)]] w (DfP w b X O) := by
  obtain ⟨D0, hown, md⟩ := h.mp
  have hst : StayC X X (fun y => (fX O y.c.id).isSome) (has D0) := StayC.start md h.no (fun x hx => h.id hx)
  have hbc : Bc ≠ b := fun e => by
    have h1 := hc.cell 0
    rw [e, mp_cell h.mp] at h1
    cases h1
  have K : Keyed Try.prog 23 := Maps.int_keyed k64u
  have HCL : Hid (∀ (wr : World) (i : Nat) (y : CmA), i < 18446744073709551616 → Onl (fun j => j = b) w wr → Calls Try.prog 42 #[.int .u64 (i : Int), aggC y, .pointer (some ⟨Bc, 0, none⟩)] wr fun e w' => e = .returned (.bool (!(fX O (i : Int)).isSome)) ∧ Below wr.heap.size wr w') := hide (fun wr i y hi o =>
    bases1_any (hc.onl o hbc) (ho.beside o hne (fun x hx => rd_notmp h.mp (ho.cm x hx).rd)) (by omega) (by omega) y)
  have HH := hide h
  have HMD := hide md
  have HST := hide hst
  have hbl := h.lt
  generalize hn0 : Maps.size D0 = n0 at hown
  clear h ho hne hc md hst hbc hn0
  go_enter Try.func41, Try.ntmps41
  go_wp2_with (first
    | (at_range; refine wpList_range_own _ rfl _ 61 rfl 23 32 K Try.underlying61 heldR b n0 _ rfl hown ?_; intro w0 hrg0 hg0 hs0)
    | go_in)
  go_frame
  go_loopw [8] (fun _ wr => ∃ (D : DataW Value) (left : Lit → Bool) (cnt : Nat) (C : List CmA), wr.ranges Try.prog 23 heldR b w.heap.size n0 D left cnt ∧ Hid (MpD D (mC C)) ∧ Hid (NoTw C) ∧ Hid (∀ y ∈ C, y ∈ X) ∧ Hid (StayC X C (fun y => (fX O y.c.id).isSome) left) ∧ Hid (Onl (fun j => j = b) w wr))
    (fun _ wr => wr.rangeLeft b w.heap.size)
  case atStart => exact ⟨D0, _, _, X, hrg0, HMD, hide HH.out.no, hide (fun _ hy => hy), HST, hide ((Onl.refl _ w).grown hg0 (fun k e => by cases e))⟩
  case round =>
    obtain ⟨D, left, cnt, C, hrg, HM, HN, HS, HT, HO⟩ := hrel
    go_wp2_with (first
      | (at_next; refine wpList_next_ranges _ rfl _ rfl 23 K heldR encU id (fun key kl h => by obtain ⟨i, _, hx, _⟩ := keyOf_u64 k64u h; exact ⟨i, hx⟩) (fun v _ _ => ⟨v, rfl⟩) b w.heap.size n0 _ _ _ rfl hrg ?_ ?_)
      | go_in)
    · intro _ hl0
      have HF : Hid (DfP w b X O (.returned (.tuple #[])) wr) := hide ⟨rfl, C, ⟨owns_mp hrg.owns HM.out, fun y hy => (HH.out.cm y (HS.out y hy)).onl HO.out (rd_notmp HH.out.mp (HH.out.cm y (HS.out y hy)).rd), fun y hy => HH.out.sm y (HS.out y hy), HN.out⟩, fun y => by rw [HT.out y, hl0]; simp, HO.out⟩
      clear hrg hl0
      go_wp2
      go_end0
      exact HF.out
    · intro x c kl yd yp w1 cnt1 hkey hlx hv hat hrg1 hlt hg1 hs1 hen
      obtain ⟨i, hi, ex, rfl⟩ := keyOf_u64 k64u hkey
      obtain rfl : x = i := encU_inj ex
      have hyd : yd = .held c := by simp [heldR] at hv; exact hv.1.symm
      subst hyd
      obtain ⟨y, hy, hyi, rfl⟩ := rg_entry HM.out hi hat
      have hyX := HS.out y hy
      have HO1 := hide (HO.out.grown hg1 (fun j hj => by cases hj; exact .inr (Nat.le_refl _)))
      have bA : Below w1.heap.size w1 (w1.alloc (.cells #[.int .u64 y.c.id, .slice y.a y.c.ps.length y.cap, .int .u64 y.c.gen, .int .u64 y.c.root, .string y.c.tx] 32)) := (Below.refl _ _).alloc (Nat.le_refl _) _
      have hcl := HCL.out (w1.alloc (.cells #[.int .u64 y.c.id, .slice y.a y.c.ps.length y.cap, .int .u64 y.c.gen, .int .u64 y.c.root, .string y.c.tx] 32)) x y hi (HO1.out.trans (Onl.ofBelow bA))
      have HSX : Hid (∀ x ∈ X, 0 ≤ x.c.id) := hide (fun x hx => (HH.out.id hx).1)
      have HYI := hide hyi
      have HYX := hide hyX
      have HLX := hide hlx
      have HBA := hide bA
      unfold aggC at hen hcl
      unfold encU at hen
      cases hk : (fX O (x : Int)).isSome with
      | true =>
        rw [hk] at hcl
        have HT2 := hide (HT.out.stays HH.out.no HYX.out (by rw [hyi]; exact hk) HSX.out hyi)
        have HCLL := hide hcl
        clear hcl hk hyi hyX hy hat hv hkey hlx bA ex hs1 HT HLX
        go_wp2_with fail
        refine HCLL.out.mono ?_
        rintro e w2 ⟨rfl, b2⟩
        have HB2 := hide (HBA.out.trans (b2.mono HBA.out.size))
        clear b2
        go_wp2
        have hrg2 := hrg1.kept (grew_below none HB2.out) (by simp) (by simp)
        go_roundw
        case rel => exact ⟨D, _, cnt1, C, hrg2, HM, HN, HS, HT2, hide (HO1.out.trans (Onl.ofBelow HB2.out))⟩
        case measure => rw [hrg2.left_eq, hrg.left_eq]; exact hlt
      | false =>
        rw [hk] at hcl
        obtain ⟨C', c1, c2, c3⟩ := del_list HN.out HS.out x
        have HT2 := hide (HT.out.goes HH.out.no HYX.out (by rw [hyi]; exact hk) HSX.out hyi c3)
        have HM2 : Hid (MpD (D.del (k64 x)) (mC C')) := hide (by
          have := HM.out.del x
          rw [mC_less c1 c3] at this
          exact this)
        have HC1 := hide c1
        have HC2 := hide c2
        have HKEY := hide hkey
        have HCLL := hide hcl
        clear hcl hk hyi hyX hy hat hv hkey hlx bA ex hs1 HT HLX c1 c2 c3
        go_wp2_with fail
        refine HCLL.out.mono ?_
        rintro e w2 ⟨rfl, b2⟩
        have HB2 := hide (HBA.out.trans (b2.mono HBA.out.size))
        have hrg2 := hrg1.kept (grew_below none HB2.out) (by simp) (by simp)
        clear b2
        go_wp2_with (first
          | (at_delete; refine wpList_delete_ranges _ rfl _ _ 61 23 rfl 32 K Try.underlying61 heldR b w.heap.size n0 _ _ _ rfl hrg2 _ _ rfl HKEY.out ?_; intro w3 cnt3 hrg3 hle hturn; go_frame)
          | go_in)
        rw [strike_twice] at hrg3
        go_roundw
        case rel => exact ⟨_, _, cnt3, C', hrg3, HM2, HC1, HC2, HT2, hide ((HO1.out.trans (Onl.ofBelow HB2.out)).trans (turned_onl hturn))⟩
        case measure => rw [hrg3.left_eq, hrg.left_eq]; omega
end Go.Proofs.Ytmkafoidfgaokaa
namespace Go.Proofs.Ytmkafoidfgaokaa
open Go.RowKit Go.Maps Apo
set_option maxRecDepth 100000 in
set_option maxHeartbeats 2000000 in
theorem clonem_any {w : World} {b : Nat} {X : List CmA} (h : Cs w b X) :
    Calls Try.prog 43 #[.map (some b)] w fun e w' => e = .returned (.map (some w.heap.size)) ∧ Cs w' w.heap.size X ∧ Below w.heap.size w w' ∧ w'.heap.size = w.heap.size + 1 := by
  have hq := fun w => run_eql_map_nil_sl (P := Try.prog) w 61 _ _ (some b) Try.underlying61
  have HH := hide h
  obtain ⟨D, ⟨es, clock, hb, F, hs, hD⟩, hd⟩ := h.mp
  have HD := hide hd
  have HE := hide hD
  have HS := hide hs
  have HF := hide F
  clear hd hD hs F h
  go_enter Try.func43, Try.ntmps43
  go_wp2
  rw [run_callFunc_extern Try.func53 (by kernel_rfl) (by kernel_rfl) (by kernel_rfl) (e := Extern.MapsClone.clone) (by kernel_rfl), run_maps_clone_sl w 61 hb]
  simp only [Result.andThen]
  rw [Oper.upon_value]
  go_wp2
  rw [run_typeAssert_map_sl _ 61 20 _ _ _ Try.underlying61]
  simp only [Result.andThen]
  rw [Oper.upon_value]
  go_wp2
  go_ret
  have b1 : Below w.heap.size w (w.alloc (.map es clock)) := (Below.refl _ w).alloc (Nat.le_refl _) _
  exact ⟨rfl, ⟨⟨D, ⟨es, clock, (MapKept.heap_alloc w _).1, HF.out, HS.out, HE.out⟩, HD.out⟩, fun x hx => (HH.out.cm x hx).below b1, HH.out.sm, HH.out.no⟩, b1, by simp⟩
/-- of the commits C those are left whose numbers are no parents' of the ones gone through -/
def LeftB (C Y : List CmA) (left : Lit → Bool) : Prop := ∀ y, y ∈ Y ↔ y ∈ C ∧ ∀ x ∈ C, left (k64 x.c.id.toNat) = false → y.c.id ∉ x.c.ps
theorem LeftB.start {C : List CmA} {D : DataW Value} (m : MpD D (mC C)) (hN : NoTw C) (hb : ∀ x ∈ C, 0 ≤ x.c.id ∧ x.c.id ≤ 18446744073709551615) : LeftB C C (has D) := by
  intro y
  refine ⟨fun h => ⟨h, fun x hx hl => ?_⟩, fun h => h.1⟩
  have := hb x hx
  rw [m.has _ (by omega), mC_at (by omega), show ((x.c.id.toNat : Nat) : Int) = x.c.id by omega, fX_is hN hx] at hl
  cases hl
theorem LeftB.step {C Y Y' : List CmA} {left : Lit → Bool} (h : LeftB C Y left) (hN : NoTw C) (hb : ∀ x ∈ C, 0 ≤ x.c.id) {x : CmA} (hx : x ∈ C) {i : Nat} (hi : x.c.id = (i : Int)) (hY : ∀ y, y ∈ Y' ↔ y ∈ Y ∧ y.c.id ∉ x.c.ps) : LeftB C Y' (fun z => left z && !z.sameKey (k64 i)) := by
  intro y
  rw [hY y, h y]
  constructor
  · rintro ⟨⟨h1, h2⟩, h3⟩
    refine ⟨h1, fun z hz hl => ?_⟩
    have hl : (left _ && !(k64 z.c.id.toNat).sameKey (k64 i)) = false := hl
    rw [same64, Bool.and_eq_false_iff] at hl
    rcases hl with q | q
    · exact h2 z hz q
    · have hb' := hb z hz
      have : z.c.id.toNat = i := by simpa using q
      rw [hN.eq hz hx (by omega)]
      exact h3
  · rintro ⟨h1, h2⟩
    refine ⟨⟨h1, fun z hz hl => h2 z hz ?_⟩, h2 x hx ?_⟩
    · show (left _ && !(k64 z.c.id.toNat).sameKey (k64 i)) = false
      rw [hl]; rfl
    · show (left _ && !(k64 x.c.id.toNat).sameKey (k64 i)) = false
      have hb' := hb x hx
      rw [same64, Bool.and_eq_false_iff]
      right
      have : x.c.id.toNat = i := by omega
      simp [this]
section
variable {w wr : World} {b : Nat} {X Y : List CmA}
/-- commits whose parents are read in an older world -/
theorem cs_re (hm : Mp Try.prog 23 wr b (mC Y)) (hs : ∀ y ∈ Y, y ∈ X) (hX : (∀ x ∈ X, CmR w x.c x.a x.cap) ∧ (∀ x ∈ X, (x.a = none → x.cap = 0) ∧ x.c.ps.length ≤ 2) ∧ NoTw X) (hb : Below w.heap.size w wr) (hN : NoTw Y) : Cs wr b Y :=
  ⟨hm, fun y hy => (hX.1 y (hs y hy)).below hb, fun y hy => hX.2.1 y (hs y hy), hN⟩
end
set_option maxRecDepth 100000 in
set_option maxHeartbeats 8000000 in
theorem basesp_any {w : World} {v : Value} {m : Option Nat} {X : List CmA} {l : List Cm} (h : Gv w v m X l) (G : Gok l) {ia ib : Int} (ha : 0 ≤ ia ∧ ia ≤ 18446744073709551615) (hb : 0 ≤ ib ∧ ib ≤ 18446744073709551615) :
    Calls Try.prog 22 #[v, .int .u64 ia, .int .u64 ib] w (NuP w (basesG l ia ib)) := by
  have K : Keyed Try.prog 23 := Maps.int_keyed k64u
  have bA : Below w.heap.size w (w.alloc (.cells #[.int .u64 ia] 23)) := (Below.refl _ _).alloc (Nat.le_refl _) _
  have h2 := h.old bA
  have HC := hide (h.com w (Below.refl _ _))
  have HA := hide (anc_any h2.cs h2.few h2.get (rd_lit1 .u64 w 23 ia) (ic := 1) (by simp) (by simp) (by intro z hz; simp at hz; subst hz; omega))
  simp only [List.length_singleton] at HA
  have HB : Hid (∀ w1, Below w.heap.size w w1 → Calls Try.prog 39 #[.map m, .slice (some ⟨w1.heap.size, 0, none⟩) 1 1] (w1.alloc (.cells #[.int .u64 ib] 23)) (AnP (w1.alloc (.cells #[.int .u64 ib] 23)) X l [ib])) := hide (fun w1 b1 => by
    have h3 := h.old (b1.alloc b1.size (.cells #[.int .u64 ib] 23))
    exact anc_any h3.cs h3.few h3.get (rd_lit1 .u64 w1 23 ib) (ic := 1) (by simp) (by simp) (by intro z hz; simp at hz; subst hz; omega))
  have HX := hide h.cs.cm
  have HG := hide h.get
  have HFW := hide h.few
  have HGK := hide G
  have HBA := hide bA
  have HFIN : Hid (∀ (bb : Nat) (C Y : List CmA) (w1 : World), Cs w1 bb Y → (∀ y ∈ C, y ∈ X) → (∀ y ∈ Y, y ∈ X) → (∀ z, z ∈ idsX C ↔ z ∈ commonG l ia ib) → LeftB C Y (fun _ => false) → Calls Try.prog 44 #[.map (some bb)] w1 (NuP w1 (basesG l ia ib))) := hide (fun bb C Y w1 hc hCX hYX hC hl => by
    have q1 := h.sub_few hYX hc.no
    have q2 := h.few
    have hgx : ∀ x ∈ X, getG l x.c.id = some x.c := fun x hx => by rw [h.get, fX_is h.cs.cm.2.2 hx]; rfl
    refine midsp_any (m := some bb) hc (by omega) (bases_rise G ia ib) (fun z => ?_)
    rw [bases_mem G, mem_idsX]
    constructor
    · rintro ⟨h1, h2⟩
      obtain ⟨y, hy, rfl⟩ := mem_idsX.1 ((hC z).2 h1)
      exact ⟨y, (hl y).2 ⟨hy, fun x hx _ => h2 x.c.id ((hC _).1 (mem_idsX.2 ⟨x, hx, rfl⟩)) x.c (hgx x (hCX x hx))⟩, rfl⟩
    · rintro ⟨y, hy, rfl⟩
      obtain ⟨h1, h2⟩ := (hl y).1 hy
      refine ⟨(hC _).1 (mem_idsX.2 ⟨y, h1, rfl⟩), fun k hk c hc2 => ?_⟩
      obtain ⟨x, hx, rfl⟩ := mem_idsX.1 ((hC k).2 hk)
      have := hgx x (hCX x hx)
      rw [this] at hc2
      injection hc2 with hc2
      subst hc2
      exact h2 x hx rfl)
  clear h h2 bA G ha hb
  go_enter Try.func22, Try.ntmps22
  go_wp2_with fail
  refine HC.out.mono ?_
  rintro e w1 ⟨rfl, rfl⟩
  go_wp2_with fail
  refine HA.out.mono ?_
  rintro e w1 ⟨b1, F1, rfl, l1, c1, s1, m1, o1⟩
  have B1 := HBA.out.trans (o1.mono HBA.out.size)
  have HB2 := hide (HB.out w1 B1)
  have HL1 : Hid (w.heap.size ≤ b1) := hide (by simp at l1; omega)
  have HC1 := hide c1
  have HS1 := hide s1
  have HM1 := hide m1
  have HB1 := hide B1
  clear HC HA HB HBA l1 c1 s1 m1 o1 B1
  go_wp2_with fail
  refine HB2.out.mono ?_
  rintro e w2 ⟨b2, F2, rfl, l2, c2, s2, m2, o2⟩
  have o1 : Below w1.heap.size w1 w2 := ((Below.refl _ w1).alloc (Nat.le_refl _) _).trans (o2.mono (by simp))
  have B2 := HB1.out.trans (o1.mono HB1.out.size)
  have hl2 : w1.heap.size < b2 := by simp at l2; omega
  have hb1 : b1 < w1.heap.size := HC1.out.lt
  have bB : Below w2.heap.size w2 (w2.alloc (.cells #[.map (some b2)] 61)) := (Below.refl _ _).alloc (Nat.le_refl _) _
  have HDF := hide (delf_any (w := w2.alloc (.cells #[.map (some b2)] 61)) ((HC1.out.old o1).old bB) (c2.old bB) (by omega) (Ob.new w2 [.map (some b2)] 61))
  have HB2' := hide (B2.trans (bB.mono B2.size))
  have HM2 := hide m2
  have z2 : w2.heap.size ≠ b2 := by have := c2.lt; omega
  clear HB2 l2 c2 s2 m2 o2 o1 B2 hl2 bB HC1
  go_wp2_with fail
  refine HDF.out.mono ?_
  rintro e w3 ⟨rfl, C, cs3, hC, o3⟩
  have hw1 := HB1.out.size
  have B3 : Below w.heap.size w w3 := Below.onl HB2'.out o3 (fun i q => by rw [q]; exact HL1.out) (Nat.le_refl _)
  have hCX : ∀ y ∈ C, y ∈ X := fun y hy => HS1.out y ((hC y).1 hy).1
  have hCc : ∀ z, z ∈ idsX C ↔ z ∈ commonG l ia ib := fun z => by
    rw [mem_common HGK.out]
    constructor
    · intro hz
      obtain ⟨y, hy, rfl⟩ := mem_idsX.1 hz
      obtain ⟨h1, h2⟩ := (hC y).1 hy
      rw [fX_in, decide_eq_true_iff] at h2
      have q1 := (HM1.out _).1 (mem_idsX.2 ⟨y, h1, rfl⟩)
      have q2 := (HM2.out _).1 h2
      exact ⟨by simpa using q1, by simpa using q2⟩
    · rintro ⟨h1, h2⟩
      obtain ⟨y, hy, rfl⟩ := mem_idsX.1 ((HM1.out z).2 ⟨ia, by simp, h1⟩)
      refine mem_idsX.2 ⟨y, (hC y).2 ⟨hy, ?_⟩, rfl⟩
      rw [fX_in, decide_eq_true_iff]
      exact (HM2.out _).2 ⟨ib, by simp, h2⟩
  have HCL := hide (clonem_any cs3)
  have hb13 : b1 < w3.heap.size := cs3.lt
  have HCS3 := hide cs3
  have HB3 := hide B3
  have HCX := hide hCX
  have HCC := hide hCc
  clear HDF HB2' HM1 HM2 HS1 cs3 hC o3 B3 hCX hCc z2 hb1 HB1 hw1
  go_wp2_with fail
  refine HCL.out.mono ?_
  rintro e w4 ⟨rfl, cs4, o4, z4⟩
  have cC4 := HCS3.out.old o4
  have HB4 := hide (HB3.out.trans (o4.mono HB3.out.size))
  obtain ⟨D0, hown, md⟩ := cC4.mp
  have hLB : LeftB C C (has D0) := LeftB.start md cC4.no (fun x hx => cC4.id hx)
  have HNC := hide cC4.no
  have HIC : Hid (∀ x ∈ C, 0 ≤ x.c.id) := hide (fun x hx => (cC4.id hx).1)
  have HMD := hide md
  have HLB := hide hLB
  have HBB : Hid (w.heap.size ≤ w3.heap.size) := hide HB3.out.size
  obtain ⟨bb, hbb⟩ : ∃ bb, bb = w3.heap.size := ⟨_, rfl⟩
  have hbb4 : bb < w4.heap.size := by omega
  have hb1b : b1 < bb := by omega
  rw [← hbb] at HBB cs4 ⊢
  generalize hn0 : Maps.size D0 = n0 at hown
  have HCS4 := hide cs4
  clear hbb hn0 cs4 o4 cC4 md hLB HCS3 HB3 HCL z4 hb13
  go_wp2_with (first
    | (at_range; refine wpList_range_own _ rfl _ 61 rfl 23 32 K Try.underlying61 heldR b1 n0 _ rfl hown ?_; intro w0 hrg0 hg0 hs0)
    | fail)
  go_frame
  go_loopw [32] (fun _ wr => ∃ (D : DataW Value) (left : Lit → Bool) (cnt : Nat) (Y : List CmA), wr.ranges Try.prog 23 heldR b1 w4.heap.size n0 D left cnt ∧ Hid (MpD D (mC C)) ∧ Hid (Cs wr bb Y) ∧ Hid (∀ y ∈ Y, y ∈ X) ∧ Hid (LeftB C Y left) ∧ Hid (Below w.heap.size w wr))
    (fun _ wr => wr.rangeLeft b1 w4.heap.size)
  case atStart => exact ⟨D0, _, _, C, hrg0, HMD, hide (HCS4.out.old ⟨hg0.os, hg0.tape, hg0.output, hg0.size, fun k hk => hg0.block k hk (by simp)⟩), HCX, HLB, hide (HB4.out.trans ⟨hg0.os, hg0.tape, hg0.output, hg0.size, fun k hk => hg0.block k (by have := HB4.out.size; omega) (by simp)⟩)⟩
  case round =>
    clear HCS4 hrg0 hg0 hs0 hown
    obtain ⟨D, left, cnt, Y, hrg, HM, HCS, HYX, HLF, HB⟩ := hrel
    go_wp2_with (first
      | (at_next; refine wpList_next_ranges _ rfl _ rfl 23 K heldR encU id (fun key kl h => by obtain ⟨i, _, hx, _⟩ := keyOf_u64 k64u h; exact ⟨i, hx⟩) (fun v _ _ => ⟨v, rfl⟩) b1 w4.heap.size n0 _ _ _ rfl hrg ?_ ?_)
      | fail)
    · intro _ hl0
      have e0 : left = fun _ => false := funext hl0
      have HI := hide (HFIN.out bb C Y wr HCS.out HCX.out HYX.out HCC.out (by rw [← e0]; exact HLF.out))
      clear hrg hl0 e0
      go_wp2_with fail
      refine HI.out.mono ?_
      rintro e w5 ⟨a, n2, c, rfl, h1, h2, b2⟩
      have H : Hid (NuP w (basesG l ia ib) (.returned (.slice a n2 c)) w5) := hide ⟨a, n2, c, rfl, h1, h2.mono (fun g hg => by have := HB.out.size; omega), HB.out.trans (b2.mono HB.out.size)⟩
      clear h1 h2 b2 HI
      go_wp2
      go_ret
      exact H.out
    · intro x c kl yd yp w1 cnt1 hkey hlx hv hat hrg1 hlt hg1 hs1 hen
      obtain ⟨i, hi, ex, rfl⟩ := keyOf_u64 k64u hkey
      obtain rfl : x = i := encU_inj ex
      have hyd : yd = .held c := by simp [heldR] at hv; exact hv.1.symm
      subst hyd
      obtain ⟨y, hy, hyi, rfl⟩ := rg_entry HM.out hi hat
      have hyX := HCX.out y hy
      have o1 : Onl (fun i => i = w4.heap.size) wr w1 := (Onl.refl _ wr).grown hg1 (fun j hj => by cases hj; exact .inl rfl)
      have hB4 := HB4.out.size
      have B1 : Below w.heap.size w w1 := Below.onl HB.out o1 (fun i q => by omega) (Nat.le_refl _)
      have cY1 : Cs w1 bb Y := cs_re (HCS.out.mp.onl o1 (by omega)) HYX.out HX.out B1 HCS.out.no
      have bA : Below w1.heap.size w1 (w1.alloc (.cells #[.int .u64 y.c.id, .slice y.a y.c.ps.length y.cap, .int .u64 y.c.gen, .int .u64 y.c.root, .string y.c.tx] 32)) := (Below.refl _ _).alloc (Nat.le_refl _) _
      have kA := Ob.new w1 [.int .u64 y.c.id, .slice y.a y.c.ps.length y.cap, .int .u64 y.c.gen, .int .u64 y.c.root, .string y.c.tx] 32
      have hrgA := hrg1.alloc (.cells #[.int .u64 y.c.id, .slice y.a y.c.ps.length y.cap, .int .u64 y.c.gen, .int .u64 y.c.root, .string y.c.tx] 32)
      have hsA : w1.heap.size < (w1.alloc (.cells #[.int .u64 y.c.id, .slice y.a y.c.ps.length y.cap, .int .u64 y.c.gen, .int .u64 y.c.root, .string y.c.tx] 32)).heap.size := by simp
      obtain ⟨WA, hWA⟩ : ∃ WA, WA = w1.alloc (.cells #[.int .u64 y.c.id, .slice y.a y.c.ps.length y.cap, .int .u64 y.c.gen, .int .u64 y.c.root, .string y.c.tx] 32) := ⟨_, rfl⟩
      have hrdY : Rd .u64 WA y.a y.c.ps := by rw [hWA]; exact ((HX.out.1 y hyX).below (B1.trans (bA.mono B1.size))).rd
      have hp2 := (HX.out.2.1 y hyX).2
      have hpu := (HX.out.1 y hyX).sz.2.1
      have y1 := kA.cell 1
      simp only [List.getElem?_cons_zero, List.getElem?_cons_succ] at y1
      have HYI := hide hyi
      have HYC := hide hy
      have HRG := hide hrgA
      have HCY := hide (cY1.old bA)
      have HBA := hide (B1.trans (bA.mono B1.size))
      have HRD := hide hrdY
      have HPU := hide hpu
      rw [← hWA] at HRG HCY HBA
      have HLT : Hid (cnt1 < cnt) := hide hlt
      have HLQ : Hid (wr.rangeLeft b1 w4.heap.size = cnt) := hide hrg.left_eq
      obtain ⟨np, hnp⟩ : ∃ np, np = y.c.ps.length := ⟨_, rfl⟩
      have HNP := hide hnp
      unfold aggC at hen
      unfold encU at hen
      simp only [← hnp] at hen hWA y1 hp2
      have HWA := hide hWA
      have hsz1 : w4.heap.size < w1.heap.size := hrg1.lt
      clear hyX hy hyi hat hv hkey hlx bA ex hs1 o1 B1 cY1 kA hrgA hrdY hpu hrg1 hg1 HB HCS hB4 hWA hnp hrg
      go_wp2
      rw [← HWA.out]
      clear y1 hen hsA
      go_loopw [39] (fun v wx => ∃ (k : Nat) (Y2 : List CmA), k ≤ np ∧ v = .int .i64 k ∧ Hid (wx.ranges Try.prog 23 heldR b1 w4.heap.size n0 D (fun z => left z && !z.sameKey (k64 x)) cnt1) ∧ Hid (Cs wx bb Y2) ∧ Hid (∀ z ∈ Y2, z ∈ X) ∧ Hid (∀ z, z ∈ Y2 ↔ z ∈ Y ∧ z.c.id ∉ y.c.ps.take k) ∧ Hid (Below w.heap.size w wx)) (fun v _ => np - (intOf v).toNat)
      case atStart => exact ⟨0, Y, Nat.zero_le _, rfl, HRG, HCY, HYX, hide (fun z => by simp), HBA⟩
      case round =>
        clear HRG HCY HBA HRD
        obtain ⟨k, Y2, hk, rfl, HRG, HCY, HYX2, HY2, HB⟩ := hrel
        by_cases hlt2 : k < np
        · have hkl : k < y.c.ps.length := by have := HNP.out; omega
          obtain ⟨g, off, z, ha, hcz, hz, _⟩ := ((HX.out.1 y (HCX.out y HYC.out)).below HB.out).rd.at hkl
          rw [ha]
          have hzu : 0 ≤ z ∧ z ≤ 18446744073709551615 := by
            have := HPU.out z (List.mem_of_getElem? hz.out)
            omega
          have hzn : ((z.toNat : Nat) : Int) = z := by omega
          obtain ⟨Y3, c1, c2, c3⟩ := del_list HCY.out.no HYX2.out z.toNat
          rw [hzn] at c3
          obtain ⟨w5, R5, cs5, o5⟩ := HCY.out.del hzu.1 hzu.2 c1 c3 0
          have HRG5 := hide (HRG.out.kept (row := some bb) ⟨o5.os, o5.tape, o5.output, o5.size, fun j hj hne => o5.block j hj (fun e => hne (by rw [e]))⟩ (by simp; omega) (by simp; omega))
          have HCY5 := hide cs5
          have HYX5 := hide c2
          have HY5 : Hid (∀ q, q ∈ Y3 ↔ q ∈ Y ∧ q.c.id ∉ y.c.ps.take (k + 1)) := hide (fun q => by
            rw [c3 q, HY2.out q, List.take_add_one, hz.out]
            simp only [Option.toList_some, List.mem_append, List.mem_singleton, not_or]
            exact and_assoc)
          have HB5 := hide (Below.onl HB.out o5 (fun i q => by rw [q]; exact HBB.out) (Nat.le_refl _))
          clear cs5 o5 c1 c2 c3 hz ha HRG HCY HYX2 HY2 HB hzn
          go_wp2
          go_roundw
          case rel => exact ⟨k + 1, Y3, by omega, by simp, HRG5, HCY5, HYX5, HY5, HB5⟩
          case measure => simp [intOf]; omega
        · obtain rfl : k = np := by omega
          have HLF2 := hide (HLF.out.step HNC.out HIC.out HYC.out HYI.out (Y' := Y2) (fun z => by rw [HY2.out z, HNP.out, List.take_length]))
          have hm1 := HRG.out.left_eq
          have HM1 := hide hm1
          clear hm1 HY2
          go_wp2
          go_roundw
          case rel => exact ⟨D, _, cnt1, Y2, HRG.out, HM, HCY, HYX2, HLF2, HB⟩
          case measure => rw [HM1.out, HLQ.out]; exact HLT.out
end Go.Proofs.Ytmkafoidfgaokaa
