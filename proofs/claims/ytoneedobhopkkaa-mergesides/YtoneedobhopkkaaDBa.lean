/- Picked out of other texts of mine. -/
import Derived.Test.YtoneedobhopkkaaGBa
import Derived.Laws.StructEq
import Derived.BigQuiet
import Derived.Deep.QuietTactic
import Derived.Shelf.SlSorted.Search
import Derived.Lib.Bytealg
import Derived.Lib.Walk
import Derived.BigRegion
namespace Apo
open Go Go.RowKit
/-- an entry, a child, a node -/
structure En where
  k : ByteArray
  v : ByteArray
instance : Inhabited En := ⟨⟨ByteArray.empty, ByteArray.empty⟩⟩
def keyE (k : ByteArray) : Int := if k.size < 1 ∨ 40 < k.size then 100 else 0
def valE (v : ByteArray) : Int := if 200 < v.size then 101 else 0
def sLt (a b : ByteArray) : Bool := Op.bytesLess a.toList b.toList
def enE (e : En) : Int := if keyE e.k ≠ 0 then keyE e.k else valE e.v
/-- the first error of a row -/
def firstE {α : Type} (f : α → Int) : List α → Int
  | [] => 0
  | x :: l => if f x ≠ 0 then f x else firstE f l
theorem firstE_none {α : Type} {f : α → Int} : ∀ {l : List α}, (∀ x ∈ l, f x = 0) → firstE f l = 0
  | [], _ => rfl
  | x :: l, h => by
    unfold firstE
    rw [if_neg (by rw [h x (by simp)]; simp)]
    exact firstE_none (fun y hy => h y (by simp [hy]))
theorem firstE_at {α : Type} {f : α → Int} : ∀ {l : List α} {k : Nat} {x : α}, l[k]? = some x → (∀ y ∈ l.take k, f y = 0) → f x ≠ 0 → firstE f l = f x
  | [], _, _, h, _, _ => by simp at h
  | y :: l, 0, x, h, _, hx => by
    simp at h
    subst h
    unfold firstE
    rw [if_pos hx]
  | y :: l, k + 1, x, h, hb, hx => by
    unfold firstE
    rw [if_neg (by rw [hb y (by simp)]; simp)]
    exact firstE_at (k := k) (by simpa using h) (fun z hz => hb z (by simp [hz])) hx
/-- entries in a row of memory -/
def RdEn (w : World) (a : Option Addr) (l : List En) : Prop :=
  ∀ i e, l[i]? = some e → ∃ g o, a = some ⟨g, o, none⟩ ∧ w.cell? ⟨g, o + i * 2, none⟩ = some (.string e.k) ∧ w.cell? ⟨g, o + i * 2 + 1, none⟩ = some (.string e.v)
theorem RdEn.below {w w' : World} {a : Option Addr} {l : List En} (h : RdEn w a l) (b : Below w.heap.size w w') : RdEn w' a l := fun i e hi => by
  obtain ⟨g, o, h1, h2, h3⟩ := h i e hi
  have hg := World.block_lt_of_cell? _ _ h2
  exact ⟨g, o, h1, (b.cell (p := ⟨g, o + i * 2, none⟩) hg).trans h2, (b.cell (p := ⟨g, o + i * 2 + 1, none⟩) hg).trans h3⟩
def smallEn (e : En) : Bool := decide (e.k.size ≤ 60) && decide (e.v.size ≤ 250)
def lightB (l : List En) : Bool := l.all smallEn && decide (l.length ≤ 60)
theorem all_take_false {α : Type} {p : α → Bool} {l : List α} {k : Nat} {x : α} (h : l[k]? = some x) (hx : p x = false) : l.all p = false := by
  rw [List.all_eq_false]
  exact ⟨x, List.mem_of_getElem? h, by rw [hx]; simp⟩
end Apo
namespace Go.Proofs.Ytoneedobhopkkaa
open Go.RowKit Apo
set_option maxRecDepth 100000 in
set_option maxHeartbeats 2000000 in
theorem light_any (w : World) (a : Option Addr) (c : Nat) (l : List En) (h : RdEn w a l) (hl : l.length ≤ 9223372036854775807) (hz : ∀ e ∈ l, e.k.size ≤ maxLen ∧ e.v.size ≤ maxLen) :
    Calls Try.prog 19 #[.slice a l.length c] w fun e w' => e = .returned (.bool (lightB l)) ∧ Below w.heap.size w w' := by
  obtain ⟨n, hn⟩ : ∃ n, n = l.length := ⟨_, rfl⟩
  have HN := hide hn
  have HE := hide h
  have HZ := hide hz
  rw [← hn] at hl ⊢
  clear h hn hz
  go_enter Try.func19, Try.ntmps19
  go_wp2
  go_loopw [7] (fun i wr => ∃ k : Nat, k ≤ n ∧ i = .int .i64 k ∧ Hid ((l.take k).all smallEn = true) ∧ Hid (Below w.heap.size w wr)) (fun i _ => n - (intOf i).toNat)
  case atStart => exact ⟨0, Nat.zero_le _, rfl, hide (by simp), hide (Below.refl _ _)⟩
  case round =>
    obtain ⟨k, hk, rfl, HS, HB⟩ := hrel
    by_cases hkn : k < n
    · obtain ⟨e, hek⟩ : ∃ e, l[k]? = some e := ⟨l[k]'(by have := HN.out; omega), List.getElem?_eq_getElem _⟩
      obtain ⟨g, o, rfl, q1, q2⟩ := HE.out k e hek
      have q1' := (HB.out.cell (p := ⟨g, o + k * 2, none⟩) (World.block_lt_of_cell? _ _ q1)).trans q1
      have q2' := (HB.out.cell (p := ⟨g, o + k * 2 + 1, none⟩) (World.block_lt_of_cell? _ _ q2)).trans q2
      have hsz := HZ.out _ (List.mem_of_getElem? hek)
      obtain ⟨ek, ev⟩ := e
      simp only at q1' q2' hsz
      unfold maxLen at hsz
      have HEK := hide hek
      have HBA := hide (HB.out.alloc HB.out.size (.cells #[.string ek, .string ev] 47))
      clear q1 q2 hek
      by_cases h1 : ek.size ≤ 60
      · have d1 : decide ((60 : Int) < (ek.size : Int)) = false := by simp; omega
        have d1n : decide (60 < ek.size) = false := by simp; omega
        by_cases h2 : ev.size ≤ 250
        · have d2 : decide ((250 : Int) < (ev.size : Int)) = false := by simp; omega
          have d2n : decide (250 < ev.size) = false := by simp; omega
          have HS2 : Hid ((l.take (k + 1)).all smallEn = true) := by
            refine hide ?_
            rw [List.take_add_one, HEK.out, List.all_append, HS.out]
            simp [smallEn, h1, h2]
          go_wp2
          go_roundw
          case rel => exact ⟨k + 1, by omega, by simp, HS2, HBA⟩
          case measure => simp [intOf]; omega
        · have d2 : decide ((250 : Int) < (ev.size : Int)) = true := by simp; omega
          have d2n : decide (250 < ev.size) = true := by simp; omega
          have HX : Hid (lightB l = false) := hide (by unfold lightB; rw [all_take_false HEK.out (by simp [smallEn, h2])]; rfl)
          go_wp2
          go_ret
          rw [HX.out]
          exact ⟨rfl, HBA.out⟩
      · have d1 : decide ((60 : Int) < (ek.size : Int)) = true := by simp; omega
        have d1n : decide (60 < ek.size) = true := by simp; omega
        have HX : Hid (lightB l = false) := hide (by unfold lightB; rw [all_take_false HEK.out (by simp [smallEn, h1])]; rfl)
        go_wp2
        go_ret
        rw [HX.out]
        exact ⟨rfl, HBA.out⟩
    · obtain rfl : k = n := by omega
      have HX : Hid (lightB l = decide (k ≤ 60)) := by
        refine hide ?_
        have q := HS.out
        rw [HN.out, List.take_length] at q
        unfold lightB
        rw [q, HN.out]
        simp
      have hdd : decide ((k : Int) ≤ 60) = decide (k ≤ 60) := by
        by_cases q : k ≤ 60
        · simp [q]; omega
        · simp [q]; omega
      go_wp2
      go_ret
      rw [HX.out]
      exact ⟨by rw [← hdd]; rfl, HB.out⟩
end Go.Proofs.Ytoneedobhopkkaa
namespace Apo
open Go Go.RowKit
theorem bl_irr : ∀ x : List UInt8, Op.bytesLess x x = false
  | [] => rfl
  | a :: x => by simp [Op.bytesLess, bl_irr x]
theorem bl_trans : ∀ x y z : List UInt8, Op.bytesLess x y = true → Op.bytesLess y z = true → Op.bytesLess x z = true
  | _, [], _, h, _ => by simp [Op.bytesLess] at h
  | _, _ :: _, [], _, h => by simp [Op.bytesLess] at h
  | [], _ :: _, _ :: _, _, _ => by simp [Op.bytesLess]
  | a :: x, b :: y, c :: z, h, k => by
    simp only [Op.bytesLess, Bool.or_eq_true, Bool.and_eq_true, decide_eq_true_eq, beq_iff_eq] at h k ⊢
    rcases h with h | ⟨rfl, h⟩
    · rcases k with k | ⟨rfl, k⟩
      · exact .inl (UInt8.lt_trans h k)
      · exact .inl h
    · rcases k with k | ⟨rfl, k⟩
      · exact .inl k
      · exact .inr ⟨rfl, bl_trans x y z h k⟩
theorem bl_conn : ∀ x y : List UInt8, Op.bytesLess x y = false → Op.bytesLess y x = false → x = y
  | [], [], _, _ => rfl
  | [], _ :: _, h, _ => by simp [Op.bytesLess] at h
  | _ :: _, [], _, h => by simp [Op.bytesLess] at h
  | a :: x, b :: y, h, k => by
    simp only [Op.bytesLess, Bool.or_eq_false_iff, decide_eq_false_iff_not, Bool.and_eq_false_iff] at h k
    have hab : a = b := by
      have h1 := h.1
      have h2 := k.1
      rw [UInt8.not_lt] at h1 h2
      exact UInt8.le_antisymm h2 h1
    subst hab
    have h2 := h.2
    have k2 := k.2
    simp at h2 k2
    rw [bl_conn x y h2 k2]
theorem sLt_trans {a b c : ByteArray} (h : sLt a b = true) (k : sLt b c = true) : sLt a c = true := bl_trans _ _ _ h k
theorem sLt_irr (a : ByteArray) : sLt a a = false := bl_irr _
end Apo
namespace Go.Proofs.Ytoneedobhopkkaa
open Go.RowKit Apo
set_option maxRecDepth 100000 in
theorem bytes_of_list {a b : ByteArray} (h : a.toList = b.toList) : a = b := by
  rw [ByteArray.toList_eq, ByteArray.toList_eq] at h
  exact ByteArray.ext (Array.ext' h)
open Classical in
set_option maxRecDepth 100000 in
theorem neqEn (f g : En) (w : World) : (binOp .neq 47 (.agg #[.string f.k, .string f.v]) (.agg #[.string g.k, .string g.v])).run Try.prog w = .ok (.bool (!decide (f = g))) w := by
  have u9 := Try.underlying9
  have hS : Try.prog.underlying 47 = some (.struct (Try.prog.fieldsOf 47)) := by kernel_rfl
  have hp : Try.prog.stoodInHeld 47 = false := by kernel_rfl
  rw [run_neq_struct, show (10000 : Nat) = 9999 + 1 from rfl, run_equalIn_agg w 9999 47 _ _ hS hp]
  simp only [Program.fieldsOf, Try.underlying47]
  go_simp
  obtain ⟨fk, fv⟩ := f
  obtain ⟨gk, gv⟩ := g
  simp only
  by_cases h1 : fk = gk
  · by_cases h2 : fv = gv
    · simp [h1, h2]
    · have h2' : ¬ fv.toList = gv.toList := fun e => h2 (bytes_of_list e)
      simp [h1, h2, h2']
  · have h1' : ¬ fk.toList = gk.toList := fun e => h1 (bytes_of_list e)
    simp [h1, h1']
open Classical in
set_option maxRecDepth 100000 in
set_option maxHeartbeats 1000000 in
theorem sameEn_any (a : Option Addr) (acap : Nat) (l : List En) (b : Option Addr) (bcap : Nat) (m : List En) (w : World) (ha : RdEn w a l) (hb : RdEn w b m) (hl : l.length ≤ 9223372036854775807) :
    Calls Try.prog 14 #[.slice a l.length acap, .slice b m.length bcap] w fun e w' => e = .returned (.bool (decide (l = m))) ∧ Below w.heap.size w w' := by
  have hA := hide ha
  have hB := hide hb
  clear ha hb
  by_cases hlen : l.length = m.length
  · rw [← hlen]
    have HL := hide hlen
    clear hlen
    go_enter Try.func14, Try.ntmps14
    go_wp2
    go_loopw [13] (fun i wr => ∃ k : Nat, k ≤ l.length ∧ i = .int .i64 k ∧ Hid (l.take k = m.take k) ∧ Below w.heap.size w wr) (fun i _ => l.length - (intOf i).toNat)
    case atStart => exact ⟨0, Nat.zero_le _, rfl, rfl, Below.refl _ _⟩
    case round =>
      obtain ⟨k, hk, rfl, hE, hbr⟩ := hrel
      by_cases hlt : k < l.length
      · have hz : l[k]? = some l[k] := List.getElem?_eq_getElem hlt
        have hlt2 : k < m.length := by rw [← HL.out]; exact hlt
        have hy : m[k]? = some m[k] := List.getElem?_eq_getElem hlt2
        generalize l[k] = f at hz
        generalize m[k] = g at hy
        obtain ⟨p, off, rfl, c0, c1⟩ := (hA.out.below hbr) k f hz
        obtain ⟨p', off', rfl, d0, d1⟩ := (hB.out.below hbr) k g hy
        have HZ := hide hz
        have HY := hide hy
        clear hz hy
        have hm : Try.prog.eqGuardType Try.prog.depth 47 = false := by kernel_rfl
        have hcmp := neqEn f g
        by_cases hfg : f = g
        · subst hfg
          simp only [decide_true, Bool.not_true] at hcmp
          have hE' : Hid (l.take (k + 1) = m.take (k + 1)) := by
            show _ = _
            rw [List.take_add_one, List.take_add_one, HZ.out, HY.out, hE.out]
          go_wp2
          go_quiet (fail)
          go_wp2
          go_roundw
          case rel => exact ⟨k + 1, by omega, by go_num, hE', below_drewN hbr _⟩
          case measure => simp [intOf]; omega
        · have hd : decide (f = g) = false := by simp [hfg]
          simp only [hd, Bool.not_false] at hcmp
          have hE' : Hid (l ≠ m) := by
            intro e
            have h1 := HZ.out
            rw [e, HY.out] at h1
            exact hfg (by cases h1; rfl)
          go_wp2
          go_quiet (fail)
          go_wp2
          go_ret
          exact ⟨by simp [hE'.out], below_drewN hbr _⟩
      · have hE' : Hid (l = m) := by
          have h1 := hE.out
          rw [List.take_of_length_le (by omega), List.take_of_length_le (by rw [← HL.out]; omega)] at h1
          exact h1
        go_wp2
        go_ret
        exact ⟨by simp [hE'.out], hbr⟩
  · have hne : l ≠ m := fun e => hlen (by rw [e])
    have hN := hide hne
    have hlb : ((l.length : Int) == (m.length : Int)) = false := by simp; omega
    clear hne
    go_enter Try.func14, Try.ntmps14
    go_wp2
    go_ret
    exact ⟨by simp [hN.out], Below.refl _ _⟩
theorem sLt_conn {a b : ByteArray} (h : sLt a b = false) (k : sLt b a = false) : a = b := bytes_of_list (bl_conn _ _ h k)
/-- keys that rise -/
def Rise (l : List ByteArray) : Prop := l.Pairwise (fun a b => sLt a b = true)
theorem rise_of {l : List ByteArray} (h : ∀ i, i + 1 < l.length → sLt (l.getD i ByteArray.empty) (l.getD (i + 1) ByteArray.empty) = true) : Rise l := by
  induction l with
  | nil => exact List.Pairwise.nil
  | cons x l ih =>
    have hl : Rise l := ih (fun i hi => by have := h (i + 1) (by simp; omega); simpa using this)
    refine List.Pairwise.cons (fun y hy => ?_) hl
    cases l with
    | nil => simp at hy
    | cons z l =>
      have h0 : sLt x z = true := by have := h 0 (by simp); simpa using this
      rcases List.mem_cons.1 hy with rfl | q
      · exact h0
      · exact sLt_trans h0 (List.rel_of_pairwise_cons hl q)
theorem Rise.at {l : List ByteArray} (h : Rise l) {i : Nat} (hi : i + 1 < l.length) : sLt (l.getD i ByteArray.empty) (l.getD (i + 1) ByteArray.empty) = true := by
  have := List.pairwise_iff_getElem.1 h i (i + 1) (by omega) hi (by omega)
  rw [List.getD_eq_getElem?_getD, List.getD_eq_getElem?_getD, List.getElem?_eq_getElem (by omega), List.getElem?_eq_getElem hi]
  exact this
/-- a map's entries -/
structure MapOk (es : List En) : Prop where
  rise : Rise (es.map En.k)
  key : ∀ e ∈ es, 1 ≤ e.k.size ∧ e.k.size ≤ 40
  val : ∀ e ∈ es, e.v.size ≤ 200
set_option maxRecDepth 100000 in
theorem rkey_any (k : ByteArray) (w : World) (hk : k.size ≤ 9223372036854775807) : Calls Try.prog 24 #[.string k] w fun e w' => e = .returned (.int .i64 (keyE k)) ∧ w = w' := by
  unfold keyE
  by_cases h1 : k.size < 1
  · have d1 : decide ((k.size : Int) < 1) = true := by simp; omega
    rw [if_pos (.inl h1)]
    go_enter Try.func24, Try.ntmps24
    go_wp2
    go_ret
    exact ⟨rfl, rfl⟩
  · have d1 : decide ((k.size : Int) < 1) = false := by simp; omega
    by_cases h2 : 40 < k.size
    · have d2 : decide ((40 : Int) < (k.size : Int)) = true := by simp; omega
      rw [if_pos (.inr h2)]
      go_enter Try.func24, Try.ntmps24
      go_wp2
      go_ret
      exact ⟨rfl, rfl⟩
    · have d2 : decide ((40 : Int) < (k.size : Int)) = false := by simp; omega
      rw [if_neg (by omega)]
      go_enter Try.func24, Try.ntmps24
      go_wp2
      go_ret
      exact ⟨rfl, rfl⟩
set_option maxRecDepth 100000 in
theorem rval_any (v : ByteArray) (w : World) (hk : v.size ≤ 9223372036854775807) : Calls Try.prog 25 #[.string v] w fun e w' => e = .returned (.int .i64 (valE v)) ∧ w = w' := by
  unfold valE
  by_cases h2 : 200 < v.size
  · have d2 : decide ((200 : Int) < (v.size : Int)) = true := by simp; omega
    rw [if_pos h2]
    go_enter Try.func25, Try.ntmps25
    go_wp2
    go_ret
    exact ⟨rfl, rfl⟩
  · have d2 : decide ((200 : Int) < (v.size : Int)) = false := by simp; omega
    rw [if_neg h2]
    go_enter Try.func25, Try.ntmps25
    go_wp2
    go_ret
    exact ⟨rfl, rfl⟩
end Go.Proofs.Ytoneedobhopkkaa
namespace Apo
open Go Go.RowKit
theorem enE_key {e : En} (h : keyE e.k ≠ 0) : enE e = keyE e.k := by unfold enE; rw [if_pos h]
theorem enE_val {e : En} (h : keyE e.k = 0) : enE e = valE e.v := by unfold enE; rw [if_neg (by simp [h])]
theorem keyE_ok {k : ByteArray} (h : keyE k = 0) : 1 ≤ k.size ∧ k.size ≤ 40 := by
  unfold keyE at h
  split at h
  · simp at h
  · omega
theorem firstE_zero {α : Type} {f : α → Int} : ∀ {l : List α}, firstE f l = 0 → ∀ x ∈ l, f x = 0
  | [], _, x, hx => by simp at hx
  | y :: l, h, x, hx => by
    unfold firstE at h
    by_cases q : f y = 0
    · rw [if_neg (by simp [q])] at h
      rcases List.mem_cons.1 hx with rfl | z
      · exact q
      · exact firstE_zero h x z
    · rw [if_pos q] at h
      exact absurd h q
end Apo
namespace Go.Proofs.Ytoneedobhopkkaa
open Go.RowKit Apo
/-- what tells whether keys rise -/
def RsP (es : List En) (w : World) (e : Ending) (w' : World) : Prop := ∃ b : Bool, e = .returned (.bool b) ∧ (b = true ↔ Rise (es.map En.k)) ∧ Below w.heap.size w w'
theorem rise_getD {es : List En} {i : Nat} {e f : En} (h : Rise (es.map En.k)) (h1 : es[i]? = some e) (h2 : es[i + 1]? = some f) : sLt e.k f.k = true := by
  have hl := (List.getElem?_eq_some_iff.1 h2).1
  have := h.at (i := i) (by simpa using hl)
  simpa [List.getD_eq_getElem?_getD, h1, h2] using this
theorem rise_all {es : List En} (h : ∀ i e f, es[i]? = some e → es[i + 1]? = some f → sLt e.k f.k = true) : Rise (es.map En.k) := by
  refine rise_of (fun i hi => ?_)
  simp only [List.length_map] at hi
  have h1 : es[i]? = some (es[i]'(by omega)) := List.getElem?_eq_getElem _
  have h2 : es[i + 1]? = some (es[i + 1]'hi) := List.getElem?_eq_getElem _
  simpa [List.getD_eq_getElem?_getD, h1, h2] using h i _ _ h1 h2
open Classical in
/-- what is wrong with a map's entries -/
noncomputable def rightE (es : List En) : Int := if firstE enE es ≠ 0 then firstE enE es else if Rise (es.map En.k) then 0 else 90
theorem rightE_map {es : List En} (h : rightE es = 0) : MapOk es := by
  unfold rightE at h
  by_cases h1 : firstE enE es ≠ 0
  · rw [if_pos h1] at h; exact absurd h h1
  · rw [if_neg h1] at h
    by_cases h2 : Rise (es.map En.k)
    · have h3 : firstE enE es = 0 := by simpa using h1
      have h4 : ∀ e ∈ es, keyE e.k = 0 ∧ valE e.v = 0 := fun e he => by
        have := firstE_zero h3 e he
        by_cases q : keyE e.k = 0
        · rw [enE_val q] at this; exact ⟨q, this⟩
        · rw [enE_key q] at this; exact absurd this q
      refine ⟨h2, fun e he => keyE_ok (h4 e he).1, fun e he => ?_⟩
      have := (h4 e he).2
      unfold valE at this
      split at this
      · simp at this
      · omega
    · rw [if_neg h2] at h; simp at h
theorem take_enE {es : List En} {k : Nat} {e : En} (h : es[k]? = some e) (hp : ∀ y ∈ es.take k, enE y = 0) (hx : enE e = 0) : ∀ y ∈ es.take (k + 1), enE y = 0 := by
  intro y hy
  rw [List.take_add_one, h] at hy
  rcases List.mem_append.1 hy with q | q
  · exact hp y q
  · simp at q; rw [q]; exact hx
theorem rightE_at {es : List En} {k : Nat} {e : En} (h : es[k]? = some e) (hp : ∀ y ∈ es.take k, enE y = 0) (hx : enE e ≠ 0) : rightE es = enE e := by
  unfold rightE
  rw [firstE_at h hp hx, if_pos hx]
/-- what is told of a key: its value, or that there is none -/
def Gets (es : List En) (key : ByteArray) (v : ByteArray) (b : Bool) : Prop := (b = true ∧ ∃ e ∈ es, e.k = key ∧ e.v = v) ∨ (b = false ∧ v = ⟨#[]⟩ ∧ ∀ e ∈ es, e.k ≠ key)
set_option maxRecDepth 100000 in
set_option maxHeartbeats 4000000 in
theorem rrises_any (w : World) (a : Option Addr) (c : Nat) (es : List En) (h : RdEn w a es) (hl : es.length ≤ 1000000) :
    Calls Try.prog 26 #[.slice a es.length c] w (RsP es w) := by
  obtain ⟨n, hn⟩ : ∃ n, n = es.length := ⟨_, rfl⟩
  have HN := hide hn
  have HR := hide h
  rw [← hn] at hl ⊢
  clear h hn
  go_enter Try.func26, Try.ntmps26
  go_wp2
  go_loopw [6] (fun v wr => ∃ i : Nat, i ≤ n ∧ v = .int .i64 i ∧ Hid (∀ t e f, t + 1 < i → es[t]? = some e → es[t + 1]? = some f → sLt e.k f.k = true) ∧ Hid (Below w.heap.size w wr)) (fun v _ => n - (intOf v).toNat)
  case atStart => exact ⟨0, Nat.zero_le _, rfl, hide (fun t e f ht => absurd ht (by omega)), hide (Below.refl _ _)⟩
  case round =>
    obtain ⟨i, hi2, rfl, HS, HB⟩ := hrel
    by_cases hin : i < n
    · by_cases hi0 : i = 0
      · subst hi0
        have HS3 : Hid (∀ t e f, t + 1 < 0 + 1 → es[t]? = some e → es[t + 1]? = some f → sLt e.k f.k = true) := hide (fun t e f ht => absurd ht (by omega))
        clear HS
        go_wp2
        go_quiet (fail)
        go_wp2
        go_roundw
        case rel => exact ⟨1, by omega, by simp, HS3, hide (below_drewN HB.out _)⟩
        case measure => simp [intOf]; omega
      · obtain ⟨i1, hi3⟩ : ∃ i1, i = i1 + 1 := ⟨i - 1, by omega⟩
        obtain ⟨s1, hs1⟩ : ∃ s, es[i1]? = some s := ⟨es[i1]'(by have := HN.out; omega), List.getElem?_eq_getElem _⟩
        obtain ⟨s2, hs2⟩ : ∃ s, es[i1 + 1]? = some s := ⟨es[i1 + 1]'(by have := HN.out; omega), List.getElem?_eq_getElem _⟩
        obtain ⟨g, of, rfl, q1, _⟩ := (HR.out.below HB.out) i1 s1 hs1
        obtain ⟨g2, of2, hgg, q2, _⟩ := (HR.out.below HB.out) (i1 + 1) s2 hs2
        injection hgg with hgg
        injection hgg with e1 e2 _
        subst e1 e2
        have hwi : IntKind.i64.wrap ((i : Int) - 1) = (i1 : Int) := by rw [IntKind.wrap_i64]; omega
        have hsub : (i : Int) - 1 = (i1 : Int) := by omega
        have hi1n : i1 < n := by omega
        have hd0 : decide ((0 : Int) < (i : Int)) = true := decide_eq_true (by omega)
        have hd1 : decide (0 < i) = true := decide_eq_true (by omega)
        have hpos : 0 < i := by omega
        rw [← hi3] at q2
        have HI3 := hide hi3
        have HS12 := hide (And.intro hs1 hs2)
        clear hs1 hs2 hi3
        cases hb1 : sLt s1.k s2.k
        · have hbl : Op.bytesLess s1.k.toList s2.k.toList = false := hb1
          have HX : Hid (¬ Rise (es.map En.k)) := hide (fun z => by
            have q := rise_getD z HS12.out.1 HS12.out.2
            rw [hb1] at q
            cases q)
          clear hb1
          go_wp2
          go_quiet (fail)
          go_wp2
          go_ret
          exact ⟨false, rfl, ⟨fun q => (by cases q), fun q => absurd q HX.out⟩, below_drewN HB.out _⟩
        · have hbl : Op.bytesLess s1.k.toList s2.k.toList = true := hb1
          have HS3 : Hid (∀ t e f, t + 1 < i + 1 → es[t]? = some e → es[t + 1]? = some f → sLt e.k f.k = true) := by
            refine hide (fun t e f ht h1 h2 => ?_)
            by_cases z : t + 1 < i
            · exact HS.out t e f z h1 h2
            · obtain rfl : t = i1 := by have := HI3.out; omega
              rw [HS12.out.1] at h1
              rw [HS12.out.2] at h2
              cases h1
              cases h2
              exact hb1
          clear hb1 HS
          go_wp2
          go_quiet (fail)
          go_wp2
          go_roundw
          case rel => exact ⟨i + 1, by omega, by simp, HS3, hide (below_drewN HB.out _)⟩
          case measure => simp [intOf]; omega
    · have HF : Hid (Rise (es.map En.k)) := hide (rise_all (fun t e f h1 h2 => HS.out t e f (by have := (List.getElem?_eq_some_iff.1 h2).1; have := HN.out; omega) h1 h2))
      clear HS
      go_wp2
      go_ret
      exact ⟨true, rfl, ⟨fun _ => HF.out, fun _ => rfl⟩, HB.out⟩
def RrP (es : List En) (w : World) (e : Ending) (w' : World) : Prop := e = .returned (.int .i64 (rightE es)) ∧ Below w.heap.size w w'
set_option maxRecDepth 100000 in
set_option maxHeartbeats 4000000 in
theorem rright_any (W : World) (ea : Option Addr) (ec : Nat) (es : List En) (hr : RdEn W ea es) (hel : es.length ≤ 1000000) (hsz : ∀ e ∈ es, e.k.size ≤ maxLen ∧ e.v.size ≤ maxLen) :
    Calls Try.prog 20 #[.slice ea es.length ec] W (RrP es W) := by
  have C2 : ∀ W', Below W.heap.size W W' → Calls Try.prog 26 #[.slice ea es.length ec] W' (RsP es W') := fun W' b => rrises_any W' ea ec es (hr.below b) hel
  obtain ⟨ne, hne⟩ : ∃ ne, ne = es.length := ⟨_, rfl⟩
  have hmx : maxLen ≤ 9223372036854775807 := by decide
  have HC2 := hide C2
  have HNE := hide hne
  have HR := hide hr
  have HSZ := hide hsz
  rw [← hne] at HC2 hel ⊢
  clear C2 hne hr hsz
  go_enter Try.func20, Try.ntmps20
  go_wp2
  go_loopw [9] (fun i wr => ∃ k : Nat, k ≤ ne ∧ i = .int .i64 k ∧ Hid (∀ y ∈ es.take k, enE y = 0) ∧ Hid (Below W.heap.size W wr)) (fun i _ => ne - (intOf i).toNat)
  case atStart => exact ⟨0, Nat.zero_le _, rfl, hide (fun y hy => by simp at hy), hide (Below.refl _ _)⟩
  case round =>
    obtain ⟨k, hk, rfl, HP, HB⟩ := hrel
    by_cases hkn : k < ne
    · obtain ⟨⟨ek, ev⟩, hx⟩ : ∃ x, es[k]? = some x := ⟨es[k]'(by have := HNE.out; omega), List.getElem?_eq_getElem _⟩
      obtain ⟨g, of, rfl, q1, q2⟩ := (HR.out.below HB.out) k _ hx
      simp only at q1 q2
      have hz := HSZ.out _ (List.mem_of_getElem? hx)
      simp only at hz
      obtain ⟨W1, hW1⟩ : ∃ W1, W1 = wr.alloc (.cells #[.string ek, .string ev] 47) := ⟨_, rfl⟩
      have kb : Ob W1 wr.heap.size 47 [.string ek, .string ev] := by rw [hW1]; exact Ob.new wr [.string ek, .string ev] 47
      have b1 : Below W.heap.size W W1 := by rw [hW1]; exact HB.out.alloc HB.out.size _
      have y0 := kb.cell 0
      have y1 := kb.cell 1
      simp only [List.getElem?_cons_zero, List.getElem?_cons_succ] at y0 y1
      have CK := rkey_any ek W1 (by omega)
      have CV := rval_any ev W1 (by omega)
      have HX := hide hx
      have HB1 := hide b1
      have HCK := hide CK
      have HCV := hide CV
      clear hx kb b1 CK CV
      by_cases hke : keyE ek = 0
      · rw [hke] at HCK
        by_cases hve : valE ev = 0
        · rw [hve] at HCV
          have HN : Hid (∀ y ∈ es.take (k + 1), enE y = 0) := hide (take_enE HX.out HP.out (by rw [enE_val hke]; exact hve))
          clear hke hve HP
          go_wp2_with fail
          rw [← hW1]
          clear hW1
          refine HCK.out.mono ?_
          rintro e w2 ⟨rfl, rfl⟩
          go_wp2_with fail
          refine HCV.out.mono ?_
          rintro e w2 ⟨rfl, rfl⟩
          go_wp2
          go_roundw
          case rel => exact ⟨k + 1, by omega, by simp, HN, HB1⟩
          case measure => simp [intOf]; omega
        · have HF : Hid (RrP es W (.returned (.int .i64 (valE ev))) W1) := by
            have hq : rightE es = valE ev := by rw [rightE_at HX.out HP.out (by rw [enE_val hke]; exact hve), enE_val hke]
            exact hide ⟨by rw [hq], HB1.out⟩
          obtain ⟨er, her⟩ : ∃ er, er = valE ev := ⟨_, rfl⟩
          rw [← her] at HCV HF hve
          have hb : (er != 0) = true := by simpa using hve
          clear hke hve HP her
          go_wp2_with fail
          rw [← hW1]
          clear hW1
          refine HCK.out.mono ?_
          rintro e w2 ⟨rfl, rfl⟩
          go_wp2_with fail
          refine HCV.out.mono ?_
          rintro e w2 ⟨rfl, rfl⟩
          go_wp2
          go_ret
          exact HF.out
      · have HF : Hid (RrP es W (.returned (.int .i64 (keyE ek))) W1) := by
          have hq : rightE es = keyE ek := by rw [rightE_at HX.out HP.out (by rw [enE_key hke]; exact hke), enE_key hke]
          exact hide ⟨by rw [hq], HB1.out⟩
        obtain ⟨er, her⟩ : ∃ er, er = keyE ek := ⟨_, rfl⟩
        rw [← her] at HCK HF hke
        have hb : (er != 0) = true := by simpa using hke
        clear hke HP her
        go_wp2_with fail
        rw [← hW1]
        clear hW1
        refine HCK.out.mono ?_
        rintro e w2 ⟨rfl, rfl⟩
        go_wp2
        go_ret
        exact HF.out
    · have hf0 : firstE enE es = 0 := firstE_none (fun y hy => HP.out y (by rw [List.take_of_length_le (by have := HNE.out; omega)]; exact hy))
      have CR := HC2.out wr HB.out
      have HF0 := hide hf0
      have HCR := hide CR
      clear hf0 CR HP
      go_wp2_with fail
      refine HCR.out.mono ?_
      rintro e w2 ⟨b, rfl, hb, b2⟩
      have HBW := hide (HB.out.trans (b2.mono HB.out.size))
      cases b with
      | false =>
        have HF : Hid (RrP es W (.returned (.int .i64 90)) w2) := by
          have hq : rightE es = 90 := by
            unfold rightE
            rw [if_neg (by rw [HF0.out]; simp), if_neg (fun q => by have := hb.2 q; cases this)]
          exact hide ⟨by rw [hq], HBW.out⟩
        clear hb b2
        go_wp2
        go_ret
        exact HF.out
      | true =>
        have HF : Hid (RrP es W (.returned (.int .i64 0)) w2) := by
          have hq : rightE es = 0 := by
            unfold rightE
            rw [if_neg (by rw [HF0.out]; simp), if_pos (hb.1 rfl)]
          exact hide ⟨by rw [hq], HBW.out⟩
        clear hb b2
        go_wp2
        go_ret
        exact HF.out
def RgP (es : List En) (key : ByteArray) (w : World) (e : Ending) (w' : World) : Prop := ∃ (v : ByteArray) (b : Bool), e = .returned (.agg #[.bool b, .string v]) ∧ Gets es key v b ∧ Below w.heap.size w w'
set_option maxRecDepth 100000 in
theorem size_side : (Try.prog.info? 23).map (·.size) = some 2 := by kernel_rfl
set_option maxRecDepth 100000 in
theorem fin_rget {W : World} {g : Nat} {c0 c1 : Value} {tmps : Array Value} {Q : Ending → World → Prop} (k : Ob W g 23 [c0, c1]) (h4 : tmps.getD 4 undef = .pointer (some ⟨g, 0, none⟩)) (hq : Q (.returned (.agg #[c0, c1])) W) :
    bodyPost Try.prog Try.f16 Q Exit.ret { tmps := tmps, defers := [] } W := by
  have hl := run_loadVar_row (P := Try.prog) W g 23 23 #[c0, c1] (0, 0) _ k Try.underlying23 rfl (by rw [size_side]; rfl)
  have h4' : tmps[4]?.getD undef = .pointer (some ⟨g, 0, none⟩) := by simpa using h4
  refine bodyPost_ret (v := .agg #[c0, c1]) ?_ rfl hq
  simp [results, Try.results16, asAddr, h4', hl]
set_option maxRecDepth 100000 in
set_option maxHeartbeats 4000000 in
theorem rget_any (w : World) (a : Option Addr) (c : Nat) (es : List En) (key : ByteArray) (h : RdEn w a es) (hl : es.length ≤ 1000000) :
    Calls Try.prog 16 #[.slice a es.length c, .string key] w (RgP es key w) := by
  obtain ⟨n, hn⟩ : ∃ n, n = es.length := ⟨_, rfl⟩
  have HN := hide hn
  obtain ⟨W0, hW0⟩ : ∃ W0, W0 = w.alloc (.cells #[.bool false, .string ⟨#[]⟩] 23) := ⟨_, rfl⟩
  have b0 : Below w.heap.size w W0 := by rw [hW0]; exact (Below.refl _ w).alloc (Nat.le_refl _) _
  have s0 : W0.heap.size = w.heap.size + 1 := by rw [hW0]; simp
  have k0 : Ob W0 w.heap.size 23 [.bool false, .string ⟨#[]⟩] := by rw [hW0]; exact Ob.new w [.bool false, .string ⟨#[]⟩] 23
  have HR := hide (h.below b0)
  have HB0 := hide b0
  have HK0 := hide k0
  rw [← hn] at hl ⊢
  clear h hn b0 k0
  go_enter Try.func16, Try.ntmps16
  go_wp2
  rw [← hW0]
  clear hW0
  go_loopw [9] (fun v wr => ∃ i : Nat, i ≤ n ∧ v = .int .i64 i ∧ Hid (∀ e ∈ es.take i, e.k ≠ key) ∧ Hid (Below W0.heap.size W0 wr)) (fun v _ => n - (intOf v).toNat)
  case atStart => exact ⟨0, Nat.zero_le _, rfl, hide (fun e he => by simp at he), hide (Below.refl _ _)⟩
  case round =>
    obtain ⟨i, hi2, rfl, HS, HB⟩ := hrel
    have kr := HK0.out.old HB.out
    have sr := HB.out.size
    by_cases hin : i < n
    · obtain ⟨⟨ek, ev⟩, hx⟩ : ∃ x, es[i]? = some x := ⟨es[i]'(by have := HN.out; omega), List.getElem?_eq_getElem _⟩
      obtain ⟨g, of, rfl, q1, q2⟩ := (HR.out.below HB.out) i _ hx
      simp only at q1 q2
      obtain ⟨W1, hW1⟩ : ∃ W1, W1 = wr.alloc (.cells #[.string ek, .string ev] 47) := ⟨_, rfl⟩
      have b1 : Below wr.heap.size wr W1 := by rw [hW1]; exact (Below.refl _ wr).alloc (Nat.le_refl _) _
      have kb : Ob W1 wr.heap.size 47 [.string ek, .string ev] := by rw [hW1]; exact Ob.new wr [.string ek, .string ev] 47
      have kr1 := kr.old b1
      have bW1 : Below w.heap.size w W1 := HB0.out.trans ((HB.out.mono (by omega)).trans (b1.mono (by omega)))
      by_cases hk : ek = key
      · have hd : (ek.toList == key.toList) = true := by rw [hk]; simp
        have y0 := kb.cell 0
        have y1 := kb.cell 1
        have z0 := kr1.cell 0
        have z1 := kr1.cell 1
        have f0 := kr1.frozen 0
        have f1 := kr1.frozen 1
        simp only [List.getElem?_cons_zero, List.getElem?_cons_succ] at y0 y1 z0 z1
        obtain ⟨W2, hW2⟩ : ∃ W2, W2 = (W1.setCell ⟨w.heap.size, 0, none⟩ (.bool true)).setCell ⟨w.heap.size, 1, none⟩ (.string ev) := ⟨_, rfl⟩
        have o2 : Onl (fun j => j = w.heap.size) W1 W2 := by rw [hW2]; exact ((Onl.refl (fun j => j = w.heap.size) W1).set (p := w.heap.size) (.inl rfl) _).set (p := w.heap.size) (.inl rfl) _
        have k2 : Ob W2 w.heap.size 23 [.bool true, .string ev] := by rw [hW2]; exact (kr1.set 0 _).set 1 _
        have HF : Hid (RgP es key w (.returned (.agg #[.bool true, .string ev])) W2) := hide ⟨ev, true, rfl, .inl ⟨rfl, _, List.mem_of_getElem? hx, hk, rfl⟩, Below.onl bW1 o2 (fun j q => by omega) (Nat.le_refl _)⟩
        have HK2 := hide k2
        rw [hW2] at HF HK2
        rw [hW1] at y0 y1 z0 z1 f0 f1 HF HK2
        clear hW2 hW1 o2 k2 kr kr1 kb b1 bW1 hx hk HS HB
        go_wp2
        exact fin_rget HK2.out rfl HF.out
      · have hd : (ek.toList == key.toList) = false := by
          cases q : (ek.toList == key.toList) with
          | false => rfl
          | true => exact absurd (bytes_of_list (by simpa using q)) hk
        have y0 := kb.cell 0
        simp only [List.getElem?_cons_zero] at y0
        have HS2 : Hid (∀ e ∈ es.take (i + 1), e.k ≠ key) := hide (fun e he => by
          rw [List.take_add_one, hx] at he
          rcases List.mem_append.1 he with q | q
          · exact HS.out e q
          · simp at q; rw [q]; exact hk)
        have HB2 := hide (HB.out.trans (b1.mono (by omega)))
        rw [hW1] at y0 HB2
        clear hW1 kr kr1 kb b1 bW1 hx hk HS HB
        go_wp2
        go_roundw
        case rel => exact ⟨i + 1, by omega, by simp, HS2, HB2⟩
        case measure => simp [intOf]; omega
    · have hall : ∀ e ∈ es, e.k ≠ key := fun e he => HS.out e (by rw [List.take_of_length_le (by have := HN.out; omega)]; exact he)
      have z0 := kr.cell 0
      have z1 := kr.cell 1
      have f0 := kr.frozen 0
      have f1 := kr.frozen 1
      simp only [List.getElem?_cons_zero, List.getElem?_cons_succ] at z0 z1
      obtain ⟨W2, hW2⟩ : ∃ W2, W2 = (wr.setCell ⟨w.heap.size, 0, none⟩ (.bool false)).setCell ⟨w.heap.size, 1, none⟩ (.string ⟨#[]⟩) := ⟨_, rfl⟩
      have o2 : Onl (fun j => j = w.heap.size) wr W2 := by rw [hW2]; exact ((Onl.refl (fun j => j = w.heap.size) wr).set (p := w.heap.size) (.inl rfl) _).set (p := w.heap.size) (.inl rfl) _
      have k2 : Ob W2 w.heap.size 23 [.bool false, .string ⟨#[]⟩] := by rw [hW2]; exact (kr.set 0 _).set 1 _
      have HF : Hid (RgP es key w (.returned (.agg #[.bool false, .string ⟨#[]⟩])) W2) := hide ⟨_, false, rfl, .inr ⟨rfl, rfl, hall⟩, Below.onl (HB0.out.trans (HB.out.mono (by omega))) o2 (fun j q => by omega) (Nat.le_refl _)⟩
      have HK2 := hide k2
      rw [hW2] at HF HK2
      clear hW2 o2 k2 kr hall HS HB
      go_wp2
      exact fin_rget HK2.out rfl HF.out
/-- how two texts are held against each other -/
def cmpS (a b : ByteArray) : Int := Lib.compareBytes a.data.toList b.data.toList
theorem cb_lt : ∀ x y : List UInt8, (Lib.compareBytes x y < 0 ↔ Op.bytesLess x y = true) ∧ (Lib.compareBytes x y = 0 ↔ x = y) ∧ -1 ≤ Lib.compareBytes x y ∧ Lib.compareBytes x y ≤ 1
  | [], [] => by simp [Lib.compareBytes, Op.bytesLess]
  | [], _ :: _ => by simp [Lib.compareBytes, Op.bytesLess]
  | _ :: _, [] => by simp [Lib.compareBytes, Op.bytesLess]
  | a :: x, b :: y => by
    have ih := cb_lt x y
    unfold Lib.compareBytes
    by_cases h1 : a < b
    · rw [if_pos h1]
      refine ⟨by simp [Op.bytesLess, h1], ⟨fun q => by simp at q, fun q => ?_⟩, by omega, by omega⟩
      have : a = b := by injection q
      subst this
      exact absurd h1 (UInt8.lt_irrefl a)
    · rw [if_neg h1]
      by_cases h2 : b < a
      · rw [if_pos h2]
        have hne : a ≠ b := fun q => by subst q; exact UInt8.lt_irrefl a h2
        refine ⟨by simp [Op.bytesLess, h1, hne], ⟨fun q => by simp at q, fun q => ?_⟩, by omega, by omega⟩
        injection q with q
        exact absurd q hne
      · rw [if_neg h2]
        have hab : a = b := by
          rw [UInt8.not_lt] at h1 h2
          exact UInt8.le_antisymm h2 h1
        subst hab
        refine ⟨?_, ?_, ih.2.2.1, ih.2.2.2⟩
        · rw [ih.1]
          simp [Op.bytesLess]
        · rw [ih.2.1]
          simp
theorem cmpS_lt {a b : ByteArray} : cmpS a b < 0 ↔ sLt a b = true := by
  unfold cmpS sLt
  rw [ByteArray.toList_eq, ByteArray.toList_eq]
  exact (cb_lt _ _).1
theorem cmpS_eq {a b : ByteArray} : cmpS a b = 0 ↔ a = b := by
  unfold cmpS
  rw [(cb_lt _ _).2.1]
  exact ⟨fun q => ByteArray.ext (Array.ext' q), fun q => by rw [q]⟩
/-- entries whose keys rise -/
def RiseE (es : List En) : Prop := es.Pairwise (fun a b => sLt a.k b.k = true)
theorem riseE_iff {es : List En} : RiseE es ↔ Rise (es.map En.k) := by unfold RiseE Rise; rw [List.pairwise_map]
theorem gets_uniq {es : List En} {key v v' : ByteArray} {b b' : Bool} (hr : RiseE es) (h : Gets es key v b) (h' : Gets es key v' b') : v = v' ∧ b = b' := by
  rcases h with ⟨rfl, e, h1, h2, h3⟩ | ⟨rfl, rfl, h1⟩
  · rcases h' with ⟨rfl, f, k1, k2, k3⟩ | ⟨rfl, rfl, k1⟩
    · obtain ⟨i, hi, qi⟩ := List.mem_iff_getElem.1 h1
      obtain ⟨j, hj, qj⟩ := List.mem_iff_getElem.1 k1
      have hP := List.pairwise_iff_getElem.1 hr
      rcases Nat.lt_trichotomy i j with z | z | z
      · have := hP i j hi hj z
        rw [qi, qj, h2, k2, sLt_irr] at this
        cases this
      · subst z
        rw [← h3, ← k3, ← qi, ← qj]
        exact ⟨rfl, rfl⟩
      · have := hP j i hj hi z
        rw [qi, qj, h2, k2, sLt_irr] at this
        cases this
    · exact absurd h2 (k1 e h1)
  · rcases h' with ⟨rfl, f, k1, k2, k3⟩ | ⟨rfl, rfl, k1⟩
    · exact absurd k2 (h1 f k1)
    · exact ⟨rfl, rfl⟩
end Go.Proofs.Ytoneedobhopkkaa
