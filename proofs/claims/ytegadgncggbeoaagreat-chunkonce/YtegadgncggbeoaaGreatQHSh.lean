/- The shelf of chunks in memory, and what its add does, over the translation. -/
import Derived.Deep.RegionHeld3
import Derived.Test.YtegadgncggbeoaaGreatQHMp
import Derived.Test.YtegadgncggbeoaaGreatQUBs
import Derived.Test.YtegadgncggbeoaaGreatQGPg
import Derived.Test.YtegadgncggbeoaaGreatQPPg
namespace Apo
open Go Go.RowKit

/-- a chunk: its pages, its size, its sum -/
structure Ck where
  at' : Spn
  size : Nat
  sum : Nat
def Ck.val (c : Ck) : Value := .agg #[.int .i64 c.at'.a, .int .i64 c.at'.k, .int .i64 c.size, .int .u64 c.sum]
/-- the elements that a map of lists has: none where a list is empty -/
def bkM (sm : Nat → List Nat) (bv : Nat → Value) : Nat → Option Value := fun k => if sm k = [] then none else some (bv k)
def ckM (ch : Nat → Option Ck) : Nat → Option Value := fun i => (ch i).map Ck.val
theorem ckM_upd (ch : Nat → Option Ck) (i : Nat) (c : Option Ck) : ckM (upd ch i c) = upd (ckM ch) i (c.map Ck.val) := by
  funext j
  unfold ckM upd
  split <;> rfl
/-- tags of blocks go on as they were; new ones may be had -/
structure LExt (L : Nat → Nat) (w : World) (L' : Nat → Nat) (w' : World) : Prop where
  old : ∀ i, i < w.heap.size → L' i = L i
  lt : ∀ i, L' i ≠ 0 → i < w'.heap.size
/-- new blocks have the tag t -/
def tagd (L : Nat → Nat) (w w' : World) (t : Nat) : Nat → Nat := fun i => if w.heap.size ≤ i ∧ i < w'.heap.size then t else L i
theorem tagd_old {L : Nat → Nat} {w w' : World} {t i : Nat} (h : i < w.heap.size) : tagd L w w' t i = L i := by unfold tagd; rw [if_neg (by omega)]
theorem tagd_new {L : Nat → Nat} {w w' : World} {t i : Nat} (h : w.heap.size ≤ i) (h2 : i < w'.heap.size) : tagd L w w' t i = t := by unfold tagd; rw [if_pos ⟨h, h2⟩]
theorem tagd_ext {L : Nat → Nat} {w w' : World} (t : Nat) (hs : w.heap.size ≤ w'.heap.size) (h : ∀ i, L i ≠ 0 → i < w.heap.size) : LExt L w (tagd L w w' t) w' :=
  ⟨fun _ hi => tagd_old hi, fun i hi => by
    unfold tagd at hi
    split at hi
    · next q => exact q.2
    · have := h i hi; omega⟩
end Apo
namespace Go.Proofs.YtegadgncggbeoaaGreat
open Go.RowKit Apo

theorem hk64 : Tryz.prog.underlying 31 = some (.int .u64) := Tryz.underlying31
/-- the shelf: its two maps, and the lists of the second one -/
structure CSh (L : Nat → Nat) (w : World) (bc bs : Nat) (ch : Nat → Option Ck) (sm : Nat → List Nat) : Prop where
  mc : Mp Tryz.prog 31 w bc (ckM ch)
  lc : L bc = 10
  ls : L bs = 11
  ms : ∃ bv : Nat → Value, Mp Tryz.prog 31 w bs (bkM sm bv) ∧ ∀ k, sm k ≠ [] → Row (fun g => L g = 12 + k) w 31 1 (bv k) (sm k).length (ucells (sm k))
theorem CSh.onl {L L' : Nat → Nat} {F : Nat → Prop} {w w' : World} {bc bs : Nat} {ch : Nat → Option Ck} {sm : Nat → List Nat} (h : CSh L w bc bs ch sm) (o : Onl F w w') (hF : ∀ i, 10 ≤ L i → ¬ F i) (hL : ∀ i, i < w.heap.size → L' i = L i) : CSh L' w' bc bs ch sm := by
  obtain ⟨mc, lc, ls, bv, ms, mr⟩ := h
  refine ⟨mc.onl o (hF _ (by omega)), (hL _ mc.lt).trans lc, (hL _ ms.lt).trans ls, bv, ms.onl o (hF _ (by omega)), fun k hk => ?_⟩
  have r := mr k hk
  have r2 := r.onl o (fun g hg => hF g (by have := r.2 g hg; omega))
  exact ⟨r2.1, fun g hg => (hL g (r.lt g hg)).trans (r.2 g hg)⟩
set_option maxRecDepth 100000 in
theorem zero_ck : ∀ W : World, (zeroValue 97).run Tryz.prog W = .ok (.agg #[.int .i64 0, .int .i64 0, .int .i64 0, .int .u64 0]) W := fun _ => by kernel_rfl
set_option maxRecDepth 100000 in
theorem zero_sl : ∀ W : World, (zeroValue 32).run Tryz.prog W = .ok (.slice none 0 0) W := fun _ => by kernel_rfl

/-- what add leaves -/
def AddP (L : Nat → Nat) (w : World) (bc bs : Nat) (ch : Nat → Option Ck) (sm : Nat → List Nat) (id : Nat) (c : Ck) (e : Ending) (w' : World) : Prop :=
  e = .returned (.tuple #[]) ∧ ∃ L' l', CSh L' w' bc bs (upd ch id (some c)) (upd sm c.sum l') ∧ l'.Perm (id :: sm c.sum) ∧ LExt L w L' w' ∧ Onl (fun i => 10 ≤ L i) w w'
set_option maxRecDepth 100000 in
set_option maxHeartbeats 4000000 in
theorem cadd_any {L : Nat → Nat} {w : World} {bc bs : Nat} {ch : Nat → Option Ck} {sm : Nat → List Nat} (h : CSh L w bc bs ch sm) (hlt : ∀ i, L i ≠ 0 → i < w.heap.size) {id : Nat} (hid : id < 18446744073709551616) (c : Ck) (hc : c.sum < 18446744073709551616)
    {K1 K2 : List Nat} (h1 : ∀ i, ch i ≠ none → i ∈ K1) (l1 : K1.length < maxLen) (h2 : ∀ k, sm k ≠ [] → k ∈ K2) (l2 : K2.length < maxLen) (hb : (sm c.sum).length ≤ 16384) :
    Calls Tryz.prog 41 #[.agg #[.map (some bc), .map (some bs)], .int .u64 id, c.val] w (AddP L w bc bs ch sm id c) := by
  obtain ⟨⟨sa, sk⟩, csize, csum⟩ := c
  simp only at hc hb
  have e0 : Ck.val ⟨⟨sa, sk⟩, csize, csum⟩ = .agg #[.int .i64 sa, .int .i64 sk, .int .i64 csize, .int .u64 csum] := rfl
  rw [e0]
  have k1 : Ob ((w.alloc (.cells #[.map (some bc), .map (some bs)] 79)).alloc (.cells #[.int .i64 sa, .int .i64 sk, .int .i64 csize, .int .u64 csum] 97)) w.heap.size 79 [.map (some bc), .map (some bs)] := (Ob.new w [.map (some bc), .map (some bs)] 79).alloc _
  have k2 : Ob ((w.alloc (.cells #[.map (some bc), .map (some bs)] 79)).alloc (.cells #[.int .i64 sa, .int .i64 sk, .int .i64 csize, .int .u64 csum] 97)) (w.heap.size + 1) 97 [.int .i64 sa, .int .i64 sk, .int .i64 csize, .int .u64 csum] := by
    have := Ob.new (w.alloc (.cells #[.map (some bc), .map (some bs)] 79)) [.int .i64 sa, .int .i64 sk, .int .i64 csize, .int .u64 csum] 97
    simpa using this
  have bA : Below w.heap.size w ((w.alloc (.cells #[.map (some bc), .map (some bs)] 79)).alloc (.cells #[.int .i64 sa, .int .i64 sk, .int .i64 csize, .int .u64 csum] 97)) := ((Below.refl _ w).alloc (Nat.le_refl _) _).alloc (by simp) _
  have hA := h.onl (L' := L) (Onl.ofBelow (O := fun _ => False) bA) (fun _ _ q => q) (fun _ _ => rfl)
  obtain ⟨w1, R1, m1, t1⟩ := hA.mc.store hk64 Tryz.underlying76 (L := K1) (fun i hi => h1 i (fun e => hi (by unfold ckM; rw [e]; rfl))) l1 hid (.agg #[.int .i64 sa, .int .i64 sk, .int .i64 csize, .int .u64 csum])
  have kk1 := k1.onl (turned_onl t1) (fun e => by have := h.mc.lt; omega)
  have kk2 := k2.onl (turned_onl t1) (fun e => by have := h.mc.lt; omega)
  have O1 : Onl (fun i => 10 ≤ L i) w w1 := (Onl.ofBelow bA).grown t1.grown (fun j hj => .inl (by cases hj; have := h.lc; omega))
  have hsz : w.heap.size + 2 ≤ w1.heap.size := by have := t1.grown.size; simp at this; omega
  generalize hWA : (w.alloc (.cells #[.map (some bc), .map (some bs)] 79)).alloc (.cells #[.int .i64 sa, .int .i64 sk, .int .i64 csize, .int .u64 csum] 97) = WA at *
  have hne : bc ≠ bs := fun e => by have := h.lc; have := h.ls; rw [e] at *; omega
  obtain ⟨bv, ms, mr⟩ := hA.ms
  have ms1 := ms.onl (turned_onl t1) (fun e => hne e.symm)
  have mr1 : ∀ k, sm k ≠ [] → Row (fun g => L g = 12 + k) w1 31 1 (bv k) (sm k).length (ucells (sm k)) := fun k hk => (mr k hk).onl (turned_onl t1) (fun g hg e => by have := (mr k hk).2 g hg; have := h.lc; rw [e] at *; omega)
  have R2 := ms1.look hk64 Tryz.underlying77 zero_sl hc
  obtain ⟨v, hv⟩ : ∃ v, v = (bkM sm bv csum).getD (.slice none 0 0) := ⟨_, rfl⟩
  rw [← hv] at R2
  have rv : Row (fun g => L g = 12 + csum) w1 31 1 v (sm csum).length (ucells (sm csum)) := by
    rw [hv]
    unfold bkM
    by_cases q : sm csum = []
    · rw [if_pos q, q]; exact Row.nil _ _ _ _
    · rw [if_neg q]; exact mr1 csum q
  have HV := hide hv
  clear hv
  have CB := bsearch_any rv (by omega) (id : Int)
  obtain ⟨va, vcap, hvf, hf1, hf2, hf3, hf4⟩ := rv.form
  obtain ⟨W2, hW2⟩ : ∃ W2, W2 = w1.drew.alloc (.cells #[.int .u64 id] 31) := ⟨_, rfl⟩
  have b2 : Below w1.heap.size w1 W2 := by rw [hW2]; exact ((Below.refl _ w1).drew).alloc (Nat.le_refl _) _
  have rv2 := rv.onl (Onl.ofBelow (O := fun _ => False) b2) (fun _ _ q => q)
  have kn : Ob W2 w1.heap.size 31 (ucells [id]) := by rw [hW2]; exact Ob.new w1.drew [.int .u64 id] 31
  have rn : Row (fun _ => True) W2 31 1 (.slice (some ⟨w1.heap.size, 0, none⟩) 1 1) [id].length (ucells [id]) := ob_row trivial kn (by simp) (by unfold maxLen; omega) (by simp [ucells]) (by simp [ucells])
  have CI : ∀ i : Nat, i ≤ (sm csum).length → _ := fun i hi => uinsert_any rv2 rn (fun g hg e => by have := rv.lt g hg; simp only [Value.ownBlock, Option.some.injEq] at e; omega) hi (by simp) (by simp) hb
  have hHid := hide CI
  have HRV2 := hide rv2
  have hCB := hide CB
  have hM1 := hide m1
  have hMs := hide ms1
  have hMr := hide mr1
  have HO1 := hide O1
  have Hh := hide h
  have HB2 := hide b2
  have a1 := k1.cell 0
  have a2 := k1.cell 1
  have a3 := kk1.cell 1
  have a4 := k2.cell 0
  have a5 := k2.cell 1
  have a6 := k2.cell 2
  have a7 := k2.cell 3
  have a8 := kk2.cell 3
  simp only [List.getElem?_cons_zero, List.getElem?_cons_succ] at a1 a2 a3 a4 a5 a6 a7 a8
  have hkk1 := hide kk1
  have hkk2 := hide kk2
  obtain ⟨n0, hn0⟩ : ∃ n0, n0 = (sm csum).length := ⟨_, rfl⟩
  rw [← hn0] at hvf hf1 hb
  have HN := hide hn0
  have HE0 := hide e0
  have HWA := hide hWA
  have HW2 := hide hW2
  have HL := hide hlt
  have HH2 := hide h2
  subst hvf
  clear CI rv2 CB m1 ms1 mr1 O1 h b2 k1 k2 kk1 kk2 rv hA ms mr bA t1 hn0 e0 hW2 hlt h1 h2 l1 kn rn
  have HX : w.heap.size + 2 ≤ WA.heap.size := by rw [← hWA]; simp
  go_enter Tryz.func41, Tryz.ntmps41
  go_wp2_with fail
  clear hWA
  refine hCB.out.mono ?_
  rintro e wx ⟨i, b, rfl, hi, rfl⟩
  have CI2 := hHid.out i hi
  have HCI := hide CI2
  clear CI2
  rw [HW2.out] at HCI
  -- what lies behind the insertion and the store
  have HAF : Hid (∀ w3 u, Row (Gro (fun g => L g = 12 + csum) W2 w3) w3 31 1 u ((sm csum).length + [id].length) (ucells ((sm csum).take i ++ ([id] ++ (sm csum).drop i))) → W2.grownBy w3 (Value.slice va n0 vcap).ownBlock →
      ∃ w4, (Instr.mapUpdate 77 (.map (some bs)) (.int .u64 (csum : Int)) u).run Tryz.prog w3 = .ok () w4 ∧ w3.cell? ⟨w.heap.size, 1, none⟩ = some (.map (some bs)) ∧ w3.cell? ⟨w.heap.size + 1, 3, none⟩ = some (.int .u64 csum) ∧ w4.cell? ⟨w.heap.size, 1, none⟩ = some (.map (some bs)) ∧ w4.cell? ⟨w.heap.size + 1, 3, none⟩ = some (.int .u64 csum) ∧ AddP L w bc bs ch sm id ⟨⟨sa, sk⟩, csize, csum⟩ (.returned (.tuple #[])) w4) := by
    refine hide (fun w3 u ru gu => ?_)
    have hs2 : w1.heap.size ≤ W2.heap.size := HB2.out.size
    have O2 : Onl (fun i => L i = 12 + csum) w1 w3 := (Onl.ofBelow HB2.out).grown gu (fun j hj => .inl (HRV2.out.2 j hj))
    have Hl := Hh.out
    have hbw := Hl.ms
    obtain ⟨_, hbw, _⟩ := hbw
    have hbl := hbw.lt
    have hcl := Hl.mc.lt
    have hnw : ∀ j, w.heap.size ≤ j → L j = 0 := fun j hj => by
      by_cases q : L j = 0
      · exact q
      · have := HL.out j q; omega
    have ms3 := hMs.out.onl O2 (by rw [Hl.ls]; omega)
    have mc3 := hM1.out.onl O2 (by rw [Hl.lc]; omega)
    have o3 := hkk1.out.onl O2 (by rw [hnw _ (Nat.le_refl _)]; omega)
    have p3 := hkk2.out.onl O2 (by rw [hnw _ (by omega)]; omega)
    obtain ⟨w4, R4, m4, t4⟩ := ms3.store hk64 Tryz.underlying77 (L := K2) (fun j hj => HH2.out j (fun e => hj (by unfold bkM; rw [if_pos e]))) l2 hc u
    have T4 := turned_onl t4
    have o4 := o3.onl T4 (by omega)
    have p4 := p3.onl T4 (by omega)
    have s3 := O2.size
    have s4 := T4.size
    refine ⟨w4, R4, o3.cell 1, p3.cell 3, o4.cell 1, p4.cell 3, rfl, tagd L w w4 (12 + csum), (sm csum).take i ++ ([id] ++ (sm csum).drop i), ⟨?_, ?_, ?_, fun k => if k = csum then u else bv k, ?_, ?_⟩, ?_, tagd_ext _ (by omega) HL.out, ?_⟩
    · rw [ckM_upd]
      exact mc3.onl T4 (fun e => hne e)
    · rw [tagd_old hcl]; exact Hl.lc
    · rw [tagd_old hbl]; exact Hl.ls
    · have e : bkM (upd sm csum ((sm csum).take i ++ ([id] ++ (sm csum).drop i))) (fun k => if k = csum then u else bv k) = upd (bkM sm bv) csum (some u) := by
        funext k
        by_cases q : k = csum
        · subst q
          rw [upd_same]
          unfold bkM
          rw [upd_same, if_neg (by simp)]; simp only [if_true]
        · rw [upd_other _ _ q]
          unfold bkM
          rw [upd_other _ _ q]; simp only [if_neg q]
      rw [e]
      exact m4
    · intro k hk
      by_cases q : k = csum
      · subst q
        rw [upd_same]
        simp only [if_true]
        have e1 : ((sm k).take i ++ ([id] ++ (sm k).drop i)).length = (sm k).length + [id].length := by simp; omega
        rw [e1]
        have ru4 := ru.onl T4 (fun g hg e => by
          rcases ru.2 g hg with z | z
          · have := Hl.ls; rw [← e, z] at this; omega
          · have := z.1; omega)
        refine ⟨ru4.1, fun g hg => ?_⟩
        rcases ru.2 g hg with z | z
        · have : g < w.heap.size := HL.out g (by rw [z]; omega)
          show tagd L w w4 (12 + k) g = 12 + k
          rw [tagd_old this]; exact z
        · show tagd L w w4 (12 + k) g = 12 + k
          exact tagd_new (by omega) (by omega)
      · rw [upd_other _ _ q] at hk ⊢
        simp only [if_neg q]
        have r1 := hMr.out k hk
        have r3 := r1.onl O2 (fun g hg e => by have := r1.2 g hg; omega)
        have r4 := r3.onl T4 (fun g hg e => by have := r1.2 g hg; rw [e] at this; have := Hl.ls; omega)
        refine ⟨r4.1, fun g hg => ?_⟩
        have z := r1.2 g hg
        show tagd L w w4 (12 + csum) g = 12 + k
        rw [tagd_old (HL.out g (by rw [z]; omega))]; exact z
    · have := List.perm_middle (a := id) (l₁ := (sm csum).take i) (l₂ := (sm csum).drop i)
      rw [List.take_append_drop] at this
      exact this
    · exact (HO1.out.more O2 (fun j hj => .inl (by omega))).more T4 (fun j hj => .inl (by rw [hj, Hl.ls]; omega))
  rw [HW2.out] at HAF
  clear HW2 hHid HRV2 hM1 hMs hMr HO1 Hh HB2 hkk1 hkk2 HL HH2
  go_wp2
  go_region_held3 (fun W' => W'.cell? ⟨w.heap.size, 1, none⟩ = some (.map (some bs)) ∧ W'.cell? ⟨w.heap.size + 1, 3, none⟩ = some (.int .u64 csum)) (go_keep) (first
    | (go_at_call 78; refine HCI.out.mono ?_; rintro en w3 ⟨u, rfl, ru, gu⟩; obtain ⟨w4, R4, x1, x2, y1, y2, F⟩ := HAF.out w3 u ru gu; have HF := hide F; clear F))
  go_wp2
  go_end0
  exact HF.out
end Go.Proofs.YtegadgncggbeoaaGreat
