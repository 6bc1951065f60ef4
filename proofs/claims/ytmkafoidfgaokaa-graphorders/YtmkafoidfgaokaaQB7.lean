/- A map's Ids, rising; Ids, Reach, Is. Over the translation. Reach, Is, Ids, Keep. Over the translation. -/
import Derived.Laws.IdiomRangeMap
import Derived.BigQuiet
import Derived.Test.YtmkafoidfgaokaaQS5
import Derived.Test.YtmkafoidfgaokaaQB5
import Derived.Test.YtmkafoidfgaokaaQB6
import Derived.Test.YtmkafoidfgaokaaQB3
namespace Go.Proofs.Ytmkafoidfgaokaa
open Go.RowKit Go.Maps Apo
set_option maxRecDepth 100000 in
set_option maxHeartbeats 1000000 in
/-- maps.Keys' iterator over nil -/
theorem ukeys_nil (n : Nat) (Bm : Nat) (w : World) (hBm : Bm < w.heap.size) (hm : w.cell? ⟨Bm, 0, none⟩ = some (.map none)) :
    SeqStopsK Fence.wide n Try.prog 65 #[.pointer (some ⟨Bm, 0, none⟩)] (fun i => #[encU i]) KeepsWalks (fun xs => xs = []) (fun _ => True) 0 w := by
  intro l J Jx W hW hJ _ _ h0
  have hm2 : W.cell? ⟨Bm, 0, none⟩ = some (.map none) := (hW.cell (p := ⟨Bm, 0, none⟩) hBm).trans hm
  have hrg := run_range_nilMap (P := Try.prog) W 61 _ _ Try.underlying61
  have hnx : ∀ ty, (Instr.next (.pointer (some ⟨W.heap.size, 0, none⟩)) false ty).run Try.prog (W.alloc (.mapIter none 0 #[] 0)) = _ := fun ty => run_next_nilMap (P := Try.prog) W ty 0 0 #[]
  have HJ : Hid (J [] (W.alloc (.mapIter none 0 #[] 0))) := hJ [] W _ none h0 (grew_below none ((Below.refl _ W).alloc (Nat.le_refl _) _)) (fun r e => by cases e)
  clear hJ h0 hm hBm
  refine callsIn_of_wp Try.func65 rfl trivial ?_ rfl
  simp only [Try.ntmps65, List.size_toArray, List.length_cons, List.length_nil, Nat.reduceAdd, Nat.reduceSub, Array.replicate_succ, Array.replicate_zero, List.push_toArray, List.append_toArray, List.nil_append, List.cons_append]
  gi_wp2
  gi_loopw [3] (fun v wr => v = undef ∧ W.alloc (.mapIter none 0 #[] 0) = wr) (fun _ _ => 0)
  case atStart => exact ⟨rfl, rfl⟩
  case round =>
    obtain ⟨rfl, rfl⟩ := hrel
    gi_wp2
    go_end0
    exact ⟨⟨_, rfl⟩, .inl ⟨_, rfl, HJ.out⟩⟩
theorem mem_iu {xs : List Nat} {z : Int} : z ∈ iu xs ↔ ∃ i ∈ xs, (i : Int) = z := by simp [iu]
/-- a map's keys, sorted, are its Ids -/
theorem keys_rise {w : World} {m : Option Nat} {F : List CmA} (h : CsO w m F) {xs : List Nat} (hk : KeysU (mC F) xs) : ((iu xs).mergeSort (fun x y => decide (x ≤ y))).Pairwise (· < ·) ∧ ∀ z, z ∈ (iu xs).mergeSort (fun x y => decide (x ≤ y)) ↔ z ∈ idsX F := by
  obtain ⟨h1, h2, h3⟩ := hk
  have hp := List.mergeSort_perm (iu xs) (fun x y => decide (x ≤ y))
  have hle : ((iu xs).mergeSort (fun x y => decide (x ≤ y))).Pairwise (fun x y => decide (x ≤ y) = true) := List.pairwise_mergeSort (fun a b c q r => by simp at *; omega) (fun a b => by simp; omega) _
  have hnd : ((iu xs).mergeSort (fun x y => decide (x ≤ y))).Nodup := by
    rw [hp.nodup_iff]
    unfold iu
    rw [List.nodup_iff_pairwise_ne, List.pairwise_map]
    exact (List.nodup_iff_pairwise_ne.1 h1).imp (fun q e => q (by omega))
  refine ⟨?_, fun z => ?_⟩
  · have := hle.and (List.nodup_iff_pairwise_ne.1 hnd)
    refine this.imp (fun {a b} q => ?_)
    have q1 : a ≤ b := by simpa using q.1
    have := q.2
    omega
  · rw [hp.mem_iff, mem_iu, mem_idsX]
    constructor
    · rintro ⟨i, hi, rfl⟩
      have hs := (h3 i).1 hi
      rw [mC_at (h2 i hi)] at hs
      cases hq : fX F (i : Int) with
      | none => rw [hq] at hs; simp at hs
      | some x => exact ⟨x, fX_some hq⟩
    · rintro ⟨x, hx, rfl⟩
      obtain ⟨hcm, _, hno⟩ := h.cm
      have hb := (hcm x hx).sz.1
      refine ⟨x.c.id.toNat, (h3 _).2 ?_, by omega⟩
      rw [mC_at (by omega), show ((x.c.id.toNat : Nat) : Int) = x.c.id by omega, fX_is hno hx]
      rfl
set_option maxRecDepth 100000 in
set_option maxHeartbeats 1000000 in
/-- a map's Ids -/
theorem midsp_any {w : World} {m : Option Nat} {F : List CmA} (h : CsO w m F) (hl : F.length < 65536) {L : List Int} (hL : L.Pairwise (· < ·)) (hm : ∀ z, z ∈ L ↔ z ∈ idsX F) :
    Calls Try.prog 44 #[.map m] w (NuP w L) := by
  have HC1 := hide (ukeys_any m w)
  have HF : Hid (∀ (v : Value) (xs : List Nat) w', KeysU (mC F) xs → w'.ownsRow (w.heap.size + 1) 23 1 v xs.length (((iu xs).mergeSort (fun x y => decide (x ≤ y))).map (Value.int .u64)) → Below (w.heap.size + 1) (w.alloc (.cells #[.map m] 61)) w' → NuP w L (.returned v) w') := hide (by
    intro v xs w' hk hr hb
    obtain ⟨k1, k2⟩ := keys_rise h hk
    have e : (iu xs).mergeSort (fun x y => decide (x ≤ y)) = L := rise_ext k1 hL (fun z => by rw [k2 z, hm z])
    have el : xs.length = L.length := by rw [← e, List.length_mergeSort]; exact (iu_len xs).symm
    rw [e, el] at hr
    obtain ⟨a, c, rfl⟩ := own_len hr
    exact ⟨a, _, c, rfl, rfl, (own_to0 hr).mono (fun g hg => by omega), ((Below.refl _ w).alloc (Nat.le_refl _) _).trans (hb.mono (by omega))⟩)
  have HC2 : Hid (Calls Try.prog 54 #[.func (.func 65) #[] #[.pointer (some ⟨w.heap.size, 0, none⟩)]] (w.alloc (.cells #[.map m] 61)) fun e w' => ∃ (v : Value) (xs : List Nat), e = .returned v ∧ KeysU (mC F) xs ∧
      w'.ownsRow (w.heap.size + 1) 23 1 v xs.length (((iu xs).mergeSort (fun x y => decide (x ≤ y))).map (Value.int .u64)) ∧ (v = .slice none 0 0 ↔ xs = []) ∧ Below (w.heap.size + 1) (w.alloc (.cells #[.map m] 61)) w') := hide (by
    cases m with
    | some b => exact usorted_keys b (mC F) (F.map (fun x => x.c.id.toNat)) (fun i hi => mC_in hi) (by rw [List.length_map]; exact hl) w (Cs.mp h)
    | none =>
      have hF : F = [] := h
      have hs := ukeys_nil 1 w.heap.size (w.alloc (.cells #[.map none] 61)) (by simp) (by simp)
      have q := usorted_in 4 (Nat.le_refl _) 65 _ (enters_of Try.func65 (by kernel_rfl) rfl) (fun xs => xs = []) (fun xs hx => by rw [hx]; simp) 0 (by omega) _ hs
      rw [World.size_alloc] at q
      refine (callsIn_wide.1 q).mono ?_
      rintro e w' ⟨v, xs, h1, h2, h3⟩
      refine ⟨v, xs, h1, ?_, h3⟩
      subst h2 hF
      exact ⟨List.nodup_nil, by simp, fun i => by simp [mC, fX]⟩)
  clear h hl hL hm
  go_enter Try.func44, Try.ntmps44
  go_wp2_with fail
  refine HC1.out.mono ?_
  rintro e w' ⟨rfl, rfl⟩
  go_wp2_with fail
  refine HC2.out.mono ?_
  rintro e w' ⟨v, xs, rfl, k1, k2, _, k4⟩
  have H := hide (HF.out v xs w' k1 k2 k4)
  clear k1 k2 k4 HC1 HC2 HF
  go_wp2
  go_ret
  exact H.out
end Go.Proofs.Ytmkafoidfgaokaa
namespace Go.Proofs.Ytmkafoidfgaokaa
open Go.RowKit Apo
/-- a graph by its pointer, be it nil -/
structure Gv (w : World) (v : Value) (m : Option Nat) (X : List CmA) (l : List Cm) : Prop where
  com : ∀ w', Below w.heap.size w w' → Calls Try.prog 35 #[v] w' fun e w'' => e = .returned (.map m) ∧ w' = w''
  cs : CsO w m X
  pm : (X.map CmA.c).Perm l
  rise : l.Pairwise (fun a b => a.id < b.id)
  few : X.length ≤ 1000
theorem Gp.gv {w : World} {p b : Nat} {X : List CmA} {l : List Cm} (h : Gp w p b X l) : Gv w (.pointer (some ⟨p, 0, none⟩)) (some b) X l :=
  ⟨fun _ hb => commits_any (h.ob.old hb) ⟨_, rfl⟩, h.cs, h.pm, h.rise, h.few⟩
theorem gv_nil (w : World) : Gv w (.pointer none) none [] [] := ⟨fun w' _ => commits_nil w', rfl, List.Perm.refl _, List.Pairwise.nil, by simp⟩
section
variable {w w' : World} {v : Value} {m : Option Nat} {X : List CmA} {l : List Cm}
theorem Gv.old (h : Gv w v m X l) (o : Below w.heap.size w w') : Gv w' v m X l := { h with com := fun w2 hb => h.com w2 (o.trans (hb.mono o.size)), cs := h.cs.old o }
theorem Gv.get (h : Gv w v m X l) (id : Int) : getG l id = (fX X id).map CmA.c := fX_get h.pm h.rise id
theorem Gv.len (h : Gv w v m X l) : l.length = X.length := by
  have := h.pm.length_eq
  simpa using this.symm
theorem Gv.sub_few {F : List CmA} (h : Gv w v m X l) (hs : ∀ x ∈ F, x ∈ X) (hF : NoTw F) : F.length ≤ X.length := sub_len hs hF (fun y hy => (h.cs.cm.1 y (hs y hy)).sz.1.1)
end
set_option maxRecDepth 100000 in
set_option maxHeartbeats 2000000 in
theorem reachp_any {w : World} {v : Value} {m : Option Nat} {X : List CmA} {l : List Cm} (h : Gv w v m X l) (G : Gok l) {ia : Option Addr} {ids : List Int} {ic : Nat} (hr : Rd .u64 w ia ids) (hn : ia = none → ic = 0) (hil : ids.length ≤ 1000000) (hu : InU ids) :
    Calls Try.prog 24 #[v, .slice ia ids.length ic] w (NuP w (reachG l ids)) := by
  have HC := hide (h.com w (Below.refl _ _))
  have HA := hide (anc_any h.cs h.few h.get hr hn hil hu)
  have HF : Hid (∀ (bf : Nat) (F : List CmA) (w1 : World), Cs w1 bf F → (∀ x ∈ F, x ∈ X) → (∀ z, z ∈ idsX F ↔ ∃ i ∈ ids, Anc l z i) → Calls Try.prog 44 #[.map (some bf)] w1 (NuP w1 (reachG l ids))) := hide (fun bf F w1 h1 h2 h3 => by
    have hl := h.sub_few h2 h1.no
    have hf := h.few
    exact midsp_any (m := some bf) h1 (by omega) (reach_rise h.rise ids) (fun z => by rw [mem_reach G, h3 z]))
  clear h hr hn hil hu
  generalize ids.length = n at *
  go_enter Try.func24, Try.ntmps24
  go_wp2_with fail
  refine HC.out.mono ?_
  rintro e w1 ⟨rfl, rfl⟩
  go_wp2_with fail
  refine HA.out.mono ?_
  rintro e w1 ⟨bf, F, rfl, h1, h2, h3, h4, b1⟩
  have HI := hide (HF.out bf F w1 h2 h3 h4)
  have HB := hide b1
  clear h1 h2 h3 h4 b1 HF HA HC
  go_wp2_with fail
  refine HI.out.mono ?_
  rintro e w2 ⟨a, n2, c, rfl, h1, h2, b2⟩
  have H : Hid (NuP w (reachG l ids) (.returned (.slice a n2 c)) w2) := hide ⟨a, n2, c, rfl, h1, h2.mono (fun g hg => by have := HB.out.size; omega), HB.out.trans (b2.mono HB.out.size)⟩
  clear h1 h2 b2 HI
  go_wp2
  go_ret
  exact H.out
set_option maxRecDepth 100000 in
set_option maxHeartbeats 2000000 in
theorem isp_any {w : World} {v : Value} {m : Option Nat} {X : List CmA} {l : List Cm} (h : Gv w v m X l) (G : Gok l) {old late : Int} (ho : 0 ≤ old ∧ old ≤ 18446744073709551615) (hl : 0 ≤ late ∧ late ≤ 18446744073709551615) :
    Calls Try.prog 20 #[v, .int .u64 old, .int .u64 late] w fun e w' => e = .returned (.bool (isG l old late)) ∧ Below w.heap.size w w' := by
  have bA : Below w.heap.size w (w.alloc (.cells #[.int .u64 late] 23)) := (Below.refl _ _).alloc (Nat.le_refl _) _
  have hrd := rd_lit1 .u64 w 23 late
  have h2 := h.old bA
  have HC := hide (h.com w (Below.refl _ _))
  have HA := hide (anc_any h2.cs h2.few h2.get hrd (ic := 1) (by simp) (by simp) (by intro z hz; simp at hz; subst hz; omega))
  simp only [List.length_singleton] at HA
  have HF : Hid (∀ (bf : Nat) (F : List CmA) (w1 : World), Cs w1 bf F → (∀ z, z ∈ idsX F ↔ ∃ i ∈ [late], Anc l z i) → Below (w.alloc (.cells #[.int .u64 late] 23)).heap.size (w.alloc (.cells #[.int .u64 late] 23)) w1 → Below w.heap.size w w1 ∧ ∃ x : CmA, (Instr.lookup 61 (.map (some bf)) (.int .u64 old) true).run Try.prog w1 = .ok (.tuple #[aggC x, .bool (isG l old late)]) w1) := hide (fun bf F w1 h1 h3 b1 => by
    refine ⟨bA.trans (b1.mono bA.size), (fX F old).getD zeroA, ?_⟩
    rw [mc_look2 h1.mp ho.1 ho.2, fX_in]
    have e : isG l old late = decide (old ∈ idsX F) := by
      unfold isG
      rw [decide_eq_decide, mem_reach G, h3]
    rw [e])
  clear h h2 hrd bA ho hl
  obtain ⟨r, hr⟩ : ∃ r, r = isG l old late := ⟨_, rfl⟩
  rw [← hr] at HF ⊢
  clear hr
  go_enter Try.func20, Try.ntmps20
  go_wp2_with fail
  refine HC.out.mono ?_
  rintro e w1 ⟨rfl, rfl⟩
  go_wp2_with fail
  refine HA.out.mono ?_
  rintro e w1 ⟨bf, F, rfl, h1, h2, h3, h4, b1⟩
  obtain ⟨hb, x, hlk⟩ := HF.out bf F w1 h2 h4 b1
  unfold aggC at hlk
  have HB := hide (hb.alloc hb.size (.cells #[.int .u64 x.c.id, .slice x.a x.c.ps.length x.cap, .int .u64 x.c.gen, .int .u64 x.c.root, .string x.c.tx] 32))
  clear h1 h2 h3 h4 b1 HF HA HC hb
  go_wp2
  go_ret
  exact ⟨rfl, HB.out⟩
/-- the numbers of a graph, rising -/
def lids (l : List Cm) : List Int := l.map Cm.id
theorem lids_rise {l : List Cm} (h : l.Pairwise (fun a b => a.id < b.id)) : (lids l).Pairwise (· < ·) := by
  unfold lids
  rw [List.pairwise_map]
  exact h
/-- what Ids hands out: slices.Values' function over a box with a row of numbers -/
def IdsT (w : World) (L : List Int) (e : Ending) (w' : World) : Prop :=
  ∃ (a : Option Addr) (n c Bs : Nat), e = .returned (.func (.func 62) #[] #[.pointer (some ⟨Bs, 0, none⟩)]) ∧ w.heap.size ≤ Bs ∧ n = L.length ∧ Ob w' Bs 30 [.slice a n c] ∧ Row (fun g => w.heap.size ≤ g) w' 23 1 (.slice a n c) L.length (L.map (Value.int .u64)) ∧ Below w.heap.size w w'
set_option maxRecDepth 100000 in
set_option maxHeartbeats 2000000 in
theorem idsp_any {w : World} {v : Value} {m : Option Nat} {X : List CmA} {l : List Cm} (h : Gv w v m X l) :
    Calls Try.prog 38 #[v] w (IdsT w (lids l)) := by
  have HC := hide (h.com w (Below.refl _ _))
  have hf := h.few
  have HI := hide (midsp_any h.cs (by omega) (lids_rise h.rise) (fun z => by
    unfold lids idsX
    rw [List.mem_map, List.mem_map]
    constructor
    · rintro ⟨c, hc, rfl⟩
      obtain ⟨x, hx, rfl⟩ := List.mem_map.1 (h.pm.mem_iff.2 hc)
      exact ⟨x, hx, rfl⟩
    · rintro ⟨x, hx, rfl⟩
      exact ⟨x.c, h.pm.mem_iff.1 (List.mem_map.2 ⟨x, hx, rfl⟩), rfl⟩))
  clear h hf
  go_enter Try.func38, Try.ntmps38
  go_wp2_with fail
  refine HC.out.mono ?_
  rintro e w1 ⟨rfl, rfl⟩
  go_wp2_with fail
  refine HI.out.mono ?_
  rintro e w1 ⟨a, n, c, rfl, h1, h2, b1⟩
  have HV := hide (uvals_any a n c w1)
  have H : Hid (IdsT w (lids l) (.returned (.func (.func 62) #[] #[.pointer (some ⟨w1.heap.size, 0, none⟩)])) (w1.alloc (.cells #[.slice a n c] 30))) :=
    hide ⟨a, n, c, w1.heap.size, rfl, b1.size, h1, Ob.new w1 [.slice a n c] 30, h2.onl (F := fun _ => False) (Onl.ofBelow ((Below.refl _ w1).alloc (Nat.le_refl _) _)) (fun _ _ q => q), b1.alloc b1.size _⟩
  clear h1 h2 b1 HI HC
  go_wp2_with fail
  refine HV.out.mono ?_
  rintro e w2 ⟨rfl, rfl⟩
  go_wp2
  go_ret
  exact H.out
/-- what Keep answers -/
def KpQ (w : World) (p : Nat) (l : List Cm) (ids : List Int) (e : Ending) (w' : World) : Prop :=
  ∃ l' bf F, l' = l.filter (fun c => decide (c.id ∈ reachG l ids)) ∧ e = .returned (.int .i64 ((l.length : Int) - l'.length)) ∧ Gp w' p bf F l' ∧ w.heap.size ≤ bf ∧ Onl (fun i => i = p) w w'
theorem keep_perm {w : World} {p b : Nat} {X F : List CmA} {l : List Cm} (h : Gp w p b X l) (G : Gok l) {ids : List Int} (hs : ∀ x ∈ F, x ∈ X) (hF : NoTw F) (hm : ∀ z, z ∈ idsX F ↔ ∃ i ∈ ids, Anc l z i) : (F.map CmA.c).Perm (l.filter (fun c => decide (c.id ∈ reachG l ids))) := by
  have n1 : (F.map CmA.c).Nodup := by
    rw [List.nodup_iff_pairwise_ne, List.pairwise_map]
    exact List.Pairwise.imp (fun {x y} q e => q (by rw [e])) hF
  have n2 : (l.filter (fun c => decide (c.id ∈ reachG l ids))).Nodup := by
    rw [List.nodup_iff_pairwise_ne]
    exact (h.rise.sublist List.filter_sublist).imp (fun {x y} q e => by rw [e] at q; omega)
  rw [List.perm_ext_iff_of_nodup n1 n2]
  intro c
  rw [List.mem_map, List.mem_filter, decide_eq_true_iff, mem_reach G]
  constructor
  · rintro ⟨x, hx, rfl⟩
    exact ⟨h.pm.mem_iff.1 (List.mem_map.2 ⟨x, hs x hx, rfl⟩), (hm _).1 (mem_idsX.2 ⟨x, hx, rfl⟩)⟩
  · rintro ⟨hc, ha⟩
    obtain ⟨x, hx, e⟩ := mem_idsX.1 ((hm _).2 ha)
    obtain ⟨y, hy, rfl⟩ := h.mem hc
    exact ⟨x, hx, by rw [h.cs.no.eq (hs x hx) hy e]⟩
set_option maxRecDepth 100000 in
set_option maxHeartbeats 4000000 in
theorem keepp_any {w : World} {p b : Nat} {X : List CmA} {l : List Cm} (h : Gp w p b X l) (G : Gok l) {ia : Option Addr} {ids : List Int} {ic : Nat} (hr : Rd .u64 w ia ids) (hn : ia = none → ic = 0) (hil : ids.length ≤ 1000000) (hu : InU ids) :
    Calls Try.prog 30 #[.pointer (some ⟨p, 0, none⟩), .slice ia ids.length ic] w (KpQ w p l ids) := by
  have HC := hide (commits_any h.ob ⟨_, rfl⟩)
  have heq := fun W => eql_map W (some b)
  have HA := hide (anc_any (m := some b) h.cs h.few h.get hr hn hil hu)
  have HF : Hid (∀ (bf : Nat) (F : List CmA) (w1 : World), w.heap.size ≤ bf → Cs w1 bf F → (∀ x ∈ F, x ∈ X) → (∀ z, z ∈ idsX F ↔ ∃ i ∈ ids, Anc l z i) → Below w.heap.size w w1 →
      Ob w1 p 69 [.map (some b)] ∧ Ob (w1.setCell ⟨p, 0, none⟩ (.map (some bf))) p 69 [.map (some bf)] ∧ Cs (w1.setCell ⟨p, 0, none⟩ (.map (some bf))) bf F ∧ Cs (w1.setCell ⟨p, 0, none⟩ (.map (some bf))) b X ∧ X.length ≤ 1000 ∧ F.length ≤ X.length ∧ ∀ W', Below (w1.setCell ⟨p, 0, none⟩ (.map (some bf))).heap.size (w1.setCell ⟨p, 0, none⟩ (.map (some bf))) W' → KpQ w p l ids (.returned (.int .i64 ((X.length : Int) - F.length))) W') := hide (fun bf F w1 hlo h1 h2 h3 b1 => by
    have k1 := h.ob.old b1
    have o2 : Onl (fun i => i = p) w1 (w1.setCell ⟨p, 0, none⟩ (.map (some bf))) := (Onl.refl (fun i => i = p) w1).set (p := p) (.inl rfl) _
    have k2 := k1.set 0 (.map (some bf))
    have hpl := h.ob.lt
    have hnb : ∀ {y : CmA} {c : Cm}, CmR w1 y.c y.a y.cap → ∀ ad, y.a = some ad → 0 < y.c.ps.length → ad.block ≠ p := fun hy => rd_notob k1 (by simp) hy.rd
    have c2 := h1.beside o2 (by omega) (fun x hx => hnb (c := x.c) (h1.cm x hx))
    have hX1 := (h.cs.old b1)
    have hpb : b ≠ p := by
      intro e
      have h3 := hX1.mp
      have h4 := k1.cell 0
      rw [← e, mp_cell h3] at h4
      cases h4
    have c3 := hX1.beside o2 hpb (fun x hx => hnb (c := x.c) (hX1.cm x hx))
    have hl := h.gv.sub_few h2 h1.no
    have hf := h.few
    refine ⟨k1, k2, c2, c3, hf, hl, fun W' bq => ?_⟩
    have hpm := keep_perm h G h2 h1.no h3
    have hlen := hpm.length_eq
    rw [List.length_map] at hlen
    exact ⟨_, bf, F, rfl, by rw [← hlen, ← h.len], ⟨k2.old bq, c2.old bq, hpm, h.rise.sublist List.filter_sublist, by omega⟩, hlo, ((Onl.ofBelow b1).trans o2).trans (Onl.ofBelow bq)⟩)
  clear h hr hn hil hu
  generalize ids.length = n at *
  go_enter Try.func30, Try.ntmps30
  go_wp2_with fail
  refine HC.out.mono ?_
  rintro e w1 ⟨rfl, rfl⟩
  go_wp2_with fail
  refine HA.out.mono ?_
  rintro e w1 ⟨bf, F, rfl, h1, h2, h3, h4, b1⟩
  obtain ⟨k1, k2, c2, c3, l1, l2, hF⟩ := HF.out bf F w1 h1 h2 h3 h4 b1
  have x0 := k1.cell 0
  have f0 := k1.frozen 0
  have y0 := k2.cell 0
  simp only [List.getElem?_cons_zero] at x0 y0
  have bD := (Below.refl (w1.setCell ⟨p, 0, none⟩ (.map (some bf))).heap.size (w1.setCell ⟨p, 0, none⟩ (.map (some bf)))).drew
  have n1 := fun ty => (c2.old bD).len ty
  have n2 := fun ty => (c3.old bD).len ty
  have hw : IntKind.i64.wrap ((X.length : Int) - F.length) = (X.length : Int) - F.length := by rw [IntKind.wrap_i64]; omega
  have HFF := hide (hF _ bD)
  clear h1 h2 h3 h4 b1 HF HA HC k1 k2 c2 c3 hF bD
  generalize X.length = nx at *
  generalize F.length = nf at *
  go_wp2
  go_region
  go_wp2
  go_ret
  exact HFF.out
end Go.Proofs.Ytmkafoidfgaokaa
