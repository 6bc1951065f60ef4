/- What pack.Of answers, over the translation. -/
import Derived.Test.YtilklonjacjgbaaRfl
namespace Go.Proofs.Ytilklonjacjgbaa
open Go.RowKit Apo

theorem Try.info38 : (Try.prog.info? 38).map (fun i => (i.zero, i.size, i.bytes)) = some (some (.agg #[.int .i64 0, .int .u64 0, .string ⟨#[]⟩, .bool false]), 4, 40) := by kernel_rfl

/-- fields of these kinds, read one behind the other until one fails -/
noncomputable def ofF : List Int → St → Option (List Fld)
  | [], st => if st = some [] then some [] else none
  | k :: ks, st => match rfield k st with
    | (_, none) => none
    | (f, st') => (ofF ks st').map (f :: ·)

/-- the cells of fields -/
def fcells (l : List Fld) : List Value := l.flatMap Fld.cells
theorem fcells_length (l : List Fld) : (fcells l).length = l.length * 4 := by
  induction l with
  | nil => rfl
  | cons f l ih =>
    show (f.cells ++ fcells l).length = _
    rw [List.length_append, ih, List.length_cons]
    simp [Fld.cells]; omega
theorem fcells_append (a b : List Fld) : fcells (a ++ b) = fcells a ++ fcells b := by simp [fcells]
theorem fcells_one (f : Fld) : fcells [f] = [.int .i64 f.k, .int .u64 f.n, .string f.s, .bool f.b] := by simp [fcells, Fld.cells]

theorem cells_new (w : World) (cs : List Value) (t : TypeId) : ∀ j u, cs[j]? = some u → (w.alloc (.cells cs.toArray t)).cell? ((⟨w.heap.size, 0, none⟩ : Addr).add j) = some u := by
  intro j u hu
  have hadd : (⟨w.heap.size, 0, none⟩ : Addr).add j = ⟨w.heap.size, j, none⟩ := by unfold Addr.add; split <;> simp_all
  rw [hadd, (Ob.new w cs t).cell j]
  exact hu
theorem fld_one (f : Fld) : ∀ u ∈ [Value.int .i64 f.k, .int .u64 f.n, .string f.s, .bool f.b], u.oneCell' = true := by
  intro u hu
  simp at hu
  rcases hu with rfl | rfl | rfl | rfl <;> rfl

theorem howRead_cases (z : Int) : howRead z = 40 ∨ howRead z = 41 ∨ howRead z = 42 ∨ howRead z = 43 := by
  unfold howRead
  split
  · simp
  · split
    · simp
    · split <;> simp

/-- where the reader's bytes lie -/
def blockOf (a : Option Addr) (l : List Int) (p : Nat) : Nat := match a, l with | some x, _ :: _ => x.block | _, _ => p

theorem rr_new {w : World} {a : Option Addr} {cap : Nat} {l : List Int} (t : TypeId) (hr : Rd .u8 w a l) (hcap : l.length ≤ cap) (hn : a = none → cap = 0) (hb : InB l) (hl : l.length ≤ 1099511627776) :
    Rr (w.alloc (.cells #[.slice a l.length cap, .bool false] t)) w.heap.size t (blockOf a l w.heap.size) (some l) := by
  refine ⟨a, cap, Ob.new w [.slice a l.length cap, .bool false] t, hr.below ((Below.refl _ _).alloc (Nat.le_refl _) _), hcap, hn, fun x hx h0 => ?_, hb, hl⟩
  subst hx
  have := hr.lt h0
  cases l with
  | nil => simp at h0
  | cons _ _ => exact ⟨rfl, by omega, by simp; omega⟩

theorem blockOf_lt {w : World} {a : Option Addr} {l : List Int} (hr : Rd .u8 w a l) : blockOf a l w.heap.size ≤ w.heap.size := by
  cases a with
  | none => exact Nat.le_refl _
  | some x =>
    cases l with
    | nil => exact Nat.le_refl _
    | cons _ _ => exact Nat.le_of_lt (hr.lt (by simp))

theorem ofF_bad {k : Int} {ks : List Int} {st : St} {f : Fld} (h : rfield k st = (f, none)) : ofF (k :: ks) st = none := by simp [ofF, h]
theorem ofF_good {k : Int} {ks : List Int} {st : St} {f : Fld} {l : List Int} (h : rfield k st = (f, some l)) : ofF (k :: ks) st = (ofF ks (some l)).map (f :: ·) := by simp [ofF, h]
theorem drop_at {ks : List Int} {k : Nat} {z : Int} (h : ks[k]? = some z) : ks.drop k = z :: ks.drop (k + 1) := by
  have hk := (List.getElem?_eq_some_iff.1 h).1
  rw [List.drop_eq_getElem_cons hk]
  have := (List.getElem?_eq_some_iff.1 h).2
  rw [this]

/-- one field more -/
theorem of_step {t : TypeId} {w w2 w3 : World} {g k : Nat} {st : St} {v v3 : Value} {fs : List Fld} {f : Fld} (ho : w2.ownsRow (w.heap.size + 1) 38 4 v k (fcells fs)) (hr : Rr w2 w.heap.size t g st) (hb : Below w.heap.size w w2) (hs : w.heap.size < w2.heap.size) (hgl : g ≤ w.heap.size)
    (h3 : w3.ownsRow (w.heap.size + 1) 38 4 v3 (k + 1) (fcells fs ++ [.int .i64 f.k, .int .u64 f.n, .string f.s, .bool f.b])) (hg : (w2.alloc (.cells #[.int .i64 f.k, .int .u64 f.n, .string f.s, .bool f.b] 38)).grownBy w3 v.ownBlock) :
    w3.ownsRow (w.heap.size + 1) 38 4 v3 (k + 1) (fcells (fs ++ [f])) ∧ Rr w3 w.heap.size t g st ∧ Below w.heap.size w w3 := by
  have hv : ∀ q, v.ownBlock = some q → w.heap.size + 1 ≤ q := fun q hq => (ho.lt q hq).1
  refine ⟨by rw [fcells_append, fcells_one]; exact h3, ?_, ?_⟩
  · refine (hr.old ((Below.refl _ _).alloc (Nat.le_refl _) _)).kept hg (fun e => ?_) (fun e => ?_)
    · have := hv _ e; omega
    · have := hv _ e; omega
  · exact (hb.alloc (by omega) _).grown hg (by simp; omega) (fun q hq => by have := hv q hq; omega)

set_option maxHeartbeats 2000000 in
theorem pof_any (a : Option Addr) (cap : Nat) (l : List Int) (ka : Option Addr) (kcap : Nat) (ks : List Int) (w : World) (hr : Rd .u8 w a l) (hcap : l.length ≤ cap) (hn : a = none → cap = 0) (hb : InB l) (hl : l.length ≤ 1099511627776)
    (hk : Rd .i64 w ka ks) (hkl : ks.length ≤ 1000000) :
    Calls Try.prog 9 #[.slice a l.length cap, .slice ka ks.length kcap] w fun e w' =>
      (∀ fs, ofF ks (some l) = some fs → ∃ v, e = .returned (.tuple #[v, .int .i64 0]) ∧ w'.ownsRow (w.heap.size + 1) 38 4 v fs.length (fcells fs)) ∧ (ofF ks (some l) = none → e = .returned (.tuple #[.slice none 0 0, .int .i64 20])) ∧ Below w.heap.size w w' := by
  obtain ⟨i0, hi, hz0, hz1, hz2⟩ := info_parts Try.info38
  have hN := hide (rr_new 56 hr hcap hn hb hl)
  have hgl := blockOf_lt hr
  generalize blockOf a l w.heap.size = g at *
  have hK := hide hk
  have hb0 := hide ((Below.refl w.heap.size w).alloc (Nat.le_refl _) (.cells #[.slice a l.length cap, .bool false] 56))
  clear hr hcap hn hb hl hk
  go_enter Try.func9, Try.ntmps9
  go_wp2
  go_loopw [7, 16] (fun v i wr => ∃ k : Nat, k ≤ ks.length ∧ i = .int .i64 k ∧ ∃ fs l', wr.ownsRow (w.heap.size + 1) 38 4 v k (fcells fs) ∧ Rr wr w.heap.size 56 g (some l') ∧ Hid (ofF ks (some l) = (ofF (ks.drop k) (some l')).map (fs ++ ·)) ∧ Below w.heap.size w wr) (fun _ i _ => ks.length - (intOf i).toNat)
  case atStart => exact ⟨0, Nat.zero_le _, rfl, [], l, World.ownsRow_nil _ _ _ _, hN, by show _ = _; simp, hb0⟩
  case round =>
    clear hN hb0
    obtain ⟨k, hk, rfl, fs, l', hown, hR, HE, hbr⟩ := hrel
    have hsz := hbr.size
    have hp := hR.lt
    by_cases hlt : k < ks.length
    · obtain ⟨b, off, z, rfl, hc0, hz, _⟩ := (hK.out.below hbr).at hlt
      have HD := hide (drop_at hz.out)
      have HC := hide (field_any w.heap.size g z (some l') wr hR (by omega))
      have HR := hide hR
      rcases hv : rfield z (some l') with ⟨f, st⟩
      rw [hv] at HC
      have HO := hide hown
      have HB := hide hbr
      clear hown hbr hR hz
      have HRd := hide (reading_any w.heap.size z wr)
      rcases howRead_cases z with hq | hq | hq | hq
      all_goals
        rw [hq] at HC HRd
        clear hq
        go_wp2_with fail
        refine HRd.out.mono ?_
        rintro e w1 ⟨rfl, rfl⟩
        clear HRd
        go_wp2_with fail
        refine HC.out.mono ?_
        rintro e w2 ⟨rfl, r1, r2⟩
        clear HC
        have HO2 : Hid (w2.ownsRow (w.heap.size + 1) 38 4 u7 k (fcells fs)) := HO.out.kept r2 (Or.inr (fun e => by have := (HO.out.lt _ e).1; omega))
        have R1 := hide r1
        have hs2 := r2.size
        have B2 := hide (below_grew HB.out r2 hsz (Nat.le_refl _))
        clear r1 r2 HO HB
        go_wp2_with (at_builtin; refine wpList_append_own _ rfl _ _ 22 rfl (w.heap.size + 1) 38 i0 _ 4 40 Try.underlying22 hi hz0 hz1 hz2 rfl (by decide) _ k (fcells fs) rfl (HO2.out.alloc _) ⟨w2.heap.size, 0, none⟩ 1 1 [.int .i64 f.k, .int .u64 f.n, .string f.s, .bool f.b] rfl rfl (cells_new _ _ _) (fld_one f) (by unfold maxLen; omega) (by omega) (by simp; omega) ?_)
        intro v3 w3 hown3 hgrow3 _
        obtain ⟨o3, q3, b3⟩ := of_step HO2.out R1.out B2.out (by omega) hgl hown3 hgrow3
        have O3 := hide o3
        have Q3 := hide q3
        have B3 := hide b3
        clear hown3 hgrow3 o3 q3 b3 HO2 R1 B2
        cases st with
        | none =>
          have c1 := Ob.cell Q3.out 1
          simp only [List.getElem?_cons_zero, List.getElem?_cons_succ] at c1
          have HX : Hid (ofF ks (some l) = none) := by show _ = _; rw [HE.out, HD.out, ofF_bad hv]; rfl
          clear hv
          go_wp2
          go_ret2
          rw [HX.out]
          exact ⟨fun _ h => absurd h (by simp), fun _ => rfl, B3⟩
        | some l2 =>
          have c1 : w3.cell? ⟨w.heap.size, 1, none⟩ = some (.bool false) := by
            obtain ⟨a', cap', ho, _⟩ := Q3.out
            exact ho.cell 1
          have HX : Hid (ofF ks (some l) = (ofF (ks.drop (k + 1)) (some l2)).map ((fs ++ [f]) ++ ·)) := by
            show _ = _
            rw [HE.out, HD.out, ofF_good hv, Option.map_map]
            congr 1
            funext x
            simp
          clear hv
          go_wp2
          go_roundw
          case rel => exact ⟨k + 1, by omega, by go_num, fs ++ [f], l2, O3, Q3, HX, B3⟩
          case measure => simp [intOf]; omega
    · have hkk : k = ks.length := by omega
      subst hkk
      have HC := hide (rddone_any w.heap.size g (some l') wr hR)
      have hfl : fs.length = ks.length := by
        have := hown.1
        rw [fcells_length] at this
        omega
      have HFL := hide hfl
      have HO := hide hown
      have HB := hide hbr
      clear hown hbr hR hfl
      by_cases hl' : l' = []
      · subst hl'
        have HX : Hid (ofF ks (some l) = some fs) := by
          show _ = _
          rw [HE.out, List.drop_length]
          simp [ofF]
        clear HE
        go_wp2_with fail
        refine HC.out.mono ?_
        rintro e w1 ⟨rfl, rfl⟩
        go_wp2
        go_ret2
        rw [HX.out]
        refine ⟨fun fs' h => ?_, fun h => absurd h (by simp), HB⟩
        cases h
        rw [HFL.out]
        exact ⟨_, rfl, HO⟩
      · have hd : decide ((some l' : St) = some []) = false := by simp [hl']
        rw [hd] at HC
        have HX : Hid (ofF ks (some l) = none) := by
          show _ = _
          rw [HE.out, List.drop_length]
          simp [ofF, hl']
        clear HE
        go_wp2_with fail
        refine HC.out.mono ?_
        rintro e w1 ⟨rfl, rfl⟩
        go_wp2
        go_ret2
        rw [HX.out]
        exact ⟨fun _ h => absurd h (by simp), fun _ => rfl, HB⟩
end Go.Proofs.Ytilklonjacjgbaa
