/- Refs: the document's table, pure; refs in memory. Names of refs: the document's Name. Over the translation. The document's SameRefs, over the translation. The program's names of refs. Over the translation. Refs and law 16's deeds as they come in. Over the translation. -/
import Derived.PlainAid
import Derived.WalkKit
import Derived.BigQuiet
import Derived.Deep.Slices
import Derived.ProofKit
import Derived.OpenShut
import Derived.Test.YtgjhmpmjbedjoaaRows
import Derived.Test.YtgjhmpmjbedjoaaQA2
namespace Go.Proofs.Ytgjhmpmjbedjoaa
open Go.RowKit Apo
structure Rf where
  n : ByteArray
  t : Bool
  i : Int
/-- whether a byte may stand at a place -/
def okAt (i : Nat) (c : Int) : Bool := (decide (97 ≤ c) && decide (c ≤ 122)) || (decide (0 < i) && ((decide (48 ≤ c) && decide (c ≤ 57)) || (c == 45)))
/-- whether a text may be a name -/
def nameM (s : ByteArray) : Bool := (List.range s.size).all (fun k => okAt k (PlainAid.bt s k)) && (decide (1 ≤ s.size) && decide (s.size ≤ 20))
def getR (l : List Rf) (n : ByteArray) : Option Rf := l.find? (fun r => decide (r.n = n))
def atR (l : List Rf) (n : ByteArray) : Int := match l.findIdx? (fun r => decide (r.n = n)) with | some i => (i : Int) | none => -1
def insR (l : List Rf) (n : ByteArray) : Nat := (l.takeWhile (fun r => sLt r.n n)).length
def makeE (l : List Rf) (x : Rf) : Int := if nameM x.n = false then 110 else if (getR l x.n).isSome then 112 else if 40 ≤ l.length then 4 else 0
def makeL (l : List Rf) (x : Rf) : List Rf := if makeE l x = 0 then l.take (insR l x.n) ++ x :: l.drop (insR l x.n) else l
def setE (l : List Rf) (n : ByteArray) (old : Int) : Int := match getR l n with
  | none => 111
  | some r => if r.t then 114 else if r.i = old then 0 else 113
def setL (l : List Rf) (n : ByteArray) (old id : Int) : List Rf := if setE l n old = 0 then l.map (fun r => if r.n = n then { r with i := id } else r) else l
def dropE (l : List Rf) (n : ByteArray) : Int := match getR l n with
  | none => 111
  | some _ => 0
def dropL (l : List Rf) (n : ByteArray) : List Rf := l.filter (fun r => decide (r.n ≠ n))
def cRf (x : Rf) : List Value := [.string x.n, .bool x.t, .int .u64 x.i]
theorem cRf_len (x : Rf) : (cRf x).length = 3 := rfl
theorem cRf_one (x : Rf) : ∀ u ∈ cRf x, u.oneCell' = true := by simp [cRf, Value.oneCell']
theorem rd_rf {w : World} {a : Option Addr} {l : List Rf} (h : RdG cRf 3 w a l) {i : Nat} {x : Rf} (hi : l[i]? = some x) : ∃ g o, a = some ⟨g, o, none⟩ ∧ w.cell? ⟨g, o + i * 3, none⟩ = some (.string x.n) ∧ w.cell? ⟨g, o + i * 3 + 1, none⟩ = some (.bool x.t) ∧ w.cell? ⟨g, o + i * 3 + 2, none⟩ = some (.int .u64 x.i) := by
  obtain ⟨g, o, h1, h2⟩ := h i x hi
  exact ⟨g, o, h1, h2 0 _ rfl, h2 1 _ rfl, h2 2 _ rfl⟩
set_option maxRecDepth 100000 in
theorem info_rf : (Try.prog.info? 57).map (fun i => (i.zero, i.size, i.bytes)) = some (some (.agg #[.string ByteArray.empty, .bool false, .int .u64 0]), 3, 32) := by kernel_rfl
theorem app_rf {O : Nat → Prop} {W : World} {v : Value} {l xs : List Rf} {y : Addr} {cp : Nat} (h : Row O W 57 3 v l.length (gcells cRf l)) (hn : l.length + xs.length ≤ 100000000) (hr : RdG cRf 3 W (some y) xs) :
    ∃ v' w', (Builtin.append_ #[23, 23] 23 #[v, .slice (some y) xs.length cp]).run Try.prog W = .ok v' w' ∧ Row (fun g => O g ∨ g = W.heap.size) w' 57 3 v' (l ++ xs).length (gcells cRf (l ++ xs)) ∧ Onl (fun g => v.ownBlock = some g) W w' ∧ ∀ g, v'.ownBlock = some g → v.ownBlock = some g ∨ g = W.heap.size :=
  app_G cRf_len (by decide) cRf_one Try.underlying23 info_rf (by rfl) (by decide) h hn hr
/-- refs by Name, each once -/
structure Rok (l : List Rf) : Prop where
  rise : l.Pairwise (fun a b => sLt a.n b.n = true)
  len : l.length ≤ 40
theorem getR_at {l : List Rf} {n : ByteArray} {k : Nat} {c : Rf} (h : l[k]? = some c) (hc : c.n = n) (hb : ∀ j x, j < k → l[j]? = some x → x.n ≠ n) : getR l n = some c ∧ atR l n = (k : Int) := by
  unfold getR atR
  have h1 : l.findIdx? (fun r => decide (r.n = n)) = some k := by
    rw [List.findIdx?_eq_some_iff_getElem]
    obtain ⟨hlt, hv⟩ := List.getElem?_eq_some_iff.1 h
    refine ⟨hlt, by simp [hv, hc], fun j hj => ?_⟩
    have := hb j l[j] hj (List.getElem?_eq_getElem _)
    simpa using this
  refine ⟨?_, by rw [h1]⟩
  rw [List.find?_eq_some_iff_getElem]
  obtain ⟨hlt, hv⟩ := List.getElem?_eq_some_iff.1 h
  refine ⟨by simp [hc], k, hlt, hv, fun j hj => ?_⟩
  have := hb j l[j] hj (List.getElem?_eq_getElem _)
  simpa using this
theorem getR_no {l : List Rf} {n : ByteArray} (hb : ∀ x ∈ l, x.n ≠ n) : getR l n = none ∧ atR l n = -1 := by
  unfold getR atR
  have h1 : l.findIdx? (fun r => decide (r.n = n)) = none := by
    rw [List.findIdx?_eq_none_iff]
    intro x hx
    simpa using hb x hx
  refine ⟨?_, by rw [h1]⟩
  rw [List.find?_eq_none]
  intro x hx
  simpa using hb x hx
theorem at_casesR (l : List Rf) (n : ByteArray) : (∃ (i : Nat) (c : Rf), l[i]? = some c ∧ c.n = n ∧ (∀ j x, j < i → l[j]? = some x → x.n ≠ n) ∧ getR l n = some c ∧ atR l n = (i : Int)) ∨ (getR l n = none ∧ atR l n = -1 ∧ ∀ x ∈ l, x.n ≠ n) := by
  cases h : l.findIdx? (fun r => decide (r.n = n)) with
  | none =>
    right
    rw [List.findIdx?_eq_none_iff] at h
    have h2 : ∀ x ∈ l, x.n ≠ n := fun x hx => by simpa using h x hx
    exact ⟨(getR_no h2).1, (getR_no h2).2, h2⟩
  | some k =>
    left
    rw [List.findIdx?_eq_some_iff_getElem] at h
    obtain ⟨hlt, h1, h2⟩ := h
    have h3 : ∀ j x, j < k → l[j]? = some x → x.n ≠ n := fun j x hj hx => by
      have := h2 j hj
      obtain ⟨hl, hv⟩ := List.getElem?_eq_some_iff.1 hx
      rw [← hv]
      simpa using this
    have := getR_at (n := n) (List.getElem?_eq_getElem hlt) (by simpa using h1) h3
    exact ⟨k, l[k], List.getElem?_eq_getElem _, by simpa using h1, h3, this.1, this.2⟩
theorem insR_le (l : List Rf) (n : ByteArray) : insR l n ≤ l.length := (List.takeWhile_sublist _).length_le
theorem insR_is {l : List Rf} {n : ByteArray} {k : Nat} (hk : k ≤ l.length) (hb : ∀ j x, j < k → l[j]? = some x → sLt x.n n = true) (hn : ∀ x, l[k]? = some x → sLt x.n n = false) : insR l n = k := by
  have hs : l = l.take k ++ l.drop k := (List.take_append_drop k l).symm
  have h1 : ∀ x ∈ l.take k, sLt x.n n = true := by
    intro x hx
    obtain ⟨j, hj, hv⟩ := List.getElem_of_mem hx
    rw [List.getElem_take] at hv
    exact hb j x (by simp at hj; omega) (by rw [← hv]; exact List.getElem?_eq_getElem _)
  have h2 : (l.drop k).takeWhile (fun r => sLt r.n n) = [] := by
    cases hd : l.drop k with
    | nil => rfl
    | cons x r =>
      have hx : l[k]? = some x := by
        have := congrArg (fun z : List Rf => z[0]?) hd
        simpa using this
      rw [List.takeWhile_cons_of_neg (by rw [hn x hx]; simp)]
  unfold insR
  rw [hs, List.takeWhile_append_of_pos h1, h2, List.append_nil, List.length_take]
  omega
end Go.Proofs.Ytgjhmpmjbedjoaa
namespace Go.Proofs.Ytgjhmpmjbedjoaa
open Go.RowKit Apo
theorem nm_step {s : ByteArray} {k : Nat} (h : (List.range k).all (fun k => okAt k (PlainAid.bt s k)) = true) (hk : okAt k (PlainAid.bt s k) = true) : (List.range (k + 1)).all (fun k => okAt k (PlainAid.bt s k)) = true := by
  rw [List.range_succ, List.all_append, h]
  simp [hk]
theorem nm_no {s : ByteArray} {k : Nat} (h : k < s.size) (hk : okAt k (PlainAid.bt s k) = false) : nameM s = false := by
  unfold nameM
  have : (List.range s.size).all (fun k => okAt k (PlainAid.bt s k)) = false := by
    rw [List.all_eq_false]
    exact ⟨k, List.mem_range.2 h, by rw [hk]; decide⟩
  rw [this, Bool.false_and]
set_option maxHeartbeats 4000000 in
theorem rname_any (s : ByteArray) (w : World) (hs : s.size ≤ 9223372036854775807) :
    Calls Try.prog 33 #[.string s] w fun e w' => e = .returned (.bool (nameM s)) ∧ w = w' := by
  have hb := PlainAid.get_bt s
  go_enter Try.func33, Try.ntmps33
  go_wp2
  go_loop [3] (fun i => ∃ k : Nat, k ≤ s.size ∧ i = .int .i64 k ∧ Hid ((List.range k).all (fun k => okAt k (PlainAid.bt s k)) = true)) (fun i => s.size - (intOf i).toNat)
  case atStart => exact ⟨0, Nat.zero_le _, rfl, hide (by simp)⟩
  case round =>
    obtain ⟨k, hk, rfl, hf⟩ := hrel
    by_cases hlt : k < s.size
    · have hz0 := PlainAid.bt_nonneg s k
      have hz1 := PlainAid.bt_le s k
      by_cases h1 : 97 ≤ PlainAid.bt s k
      · by_cases h2 : PlainAid.bt s k ≤ 122
        · have HS := hide (nm_step hf.out (by unfold okAt; simp only [Bool.or_eq_true, Bool.and_eq_true, decide_eq_true_eq, beq_iff_eq]; omega))
          go_wp2
          go_round
          case rel => exact ⟨k + 1, hlt, rfl, HS⟩
          case measure => simp [intOf]; omega
        · have h3 : 48 ≤ PlainAid.bt s k := by omega
          have h4 : ¬ PlainAid.bt s k ≤ 57 := by omega
          have h5 : (PlainAid.bt s k == 45) = false := by rw [beq_eq_false_iff_ne]; omega
          by_cases h0 : 0 < k
          · have HN := hide (nm_no hlt (by unfold okAt; simp only [Bool.or_eq_false_iff, Bool.and_eq_false_iff, decide_eq_false_iff_not, beq_eq_false_iff_ne, ne_eq]; omega))
            go_wp2
            go_ret
            exact ⟨by rw [HN.out]; rfl, rfl⟩
          · have HN := hide (nm_no hlt (by unfold okAt; simp only [Bool.or_eq_false_iff, Bool.and_eq_false_iff, decide_eq_false_iff_not, beq_eq_false_iff_ne, ne_eq]; omega))
            go_wp2
            go_ret
            exact ⟨by rw [HN.out]; rfl, rfl⟩
      · by_cases h0 : 0 < k
        · by_cases h3 : 48 ≤ PlainAid.bt s k
          · by_cases h4 : PlainAid.bt s k ≤ 57
            · have HS := hide (nm_step hf.out (by unfold okAt; simp only [Bool.or_eq_true, Bool.and_eq_true, decide_eq_true_eq, beq_iff_eq]; omega))
              go_wp2
              go_round
              case rel => exact ⟨k + 1, hlt, rfl, HS⟩
              case measure => simp [intOf]; omega
            · have h5 : (PlainAid.bt s k == 45) = false := by rw [beq_eq_false_iff_ne]; omega
              have HN := hide (nm_no hlt (by unfold okAt; simp only [Bool.or_eq_false_iff, Bool.and_eq_false_iff, decide_eq_false_iff_not, beq_eq_false_iff_ne, ne_eq]; omega))
              go_wp2
              go_ret
              exact ⟨by rw [HN.out]; rfl, rfl⟩
          · by_cases h5 : PlainAid.bt s k = 45
            · have h6 : (PlainAid.bt s k == 45) = true := by rw [beq_iff_eq]; exact h5
              have HS := hide (nm_step hf.out (by unfold okAt; simp only [Bool.or_eq_true, Bool.and_eq_true, decide_eq_true_eq, beq_iff_eq]; omega))
              clear h5
              go_wp2
              go_round
              case rel => exact ⟨k + 1, hlt, rfl, HS⟩
              case measure => simp [intOf]; omega
            · have h6 : (PlainAid.bt s k == 45) = false := by rw [beq_eq_false_iff_ne]; exact h5
              have HN := hide (nm_no hlt (by unfold okAt; simp only [Bool.or_eq_false_iff, Bool.and_eq_false_iff, decide_eq_false_iff_not, beq_eq_false_iff_ne, ne_eq]; omega))
              go_wp2
              go_ret
              exact ⟨by rw [HN.out]; rfl, rfl⟩
        · have HN := hide (nm_no hlt (by unfold okAt; simp only [Bool.or_eq_false_iff, Bool.and_eq_false_iff, decide_eq_false_iff_not, beq_eq_false_iff_ne, ne_eq]; omega))
          go_wp2
          go_ret
          exact ⟨by rw [HN.out]; rfl, rfl⟩
    · have HY : Hid (nameM s = (decide (1 ≤ s.size) && decide (s.size ≤ 20))) := hide (by
        have e : k = s.size := by omega
        unfold nameM
        have := hf.out
        rw [e] at this
        rw [this, Bool.true_and])
      have hd1 : decide ((1 : Int) ≤ (s.size : Int)) = decide (1 ≤ s.size) := by
        by_cases q : 1 ≤ s.size
        · simp [q]; omega
        · simp [q]; omega
      have hd2 : decide ((s.size : Int) ≤ 20) = decide (s.size ≤ 20) := by
        by_cases q : s.size ≤ 20
        · simp [q]; omega
        · simp [q]; omega
      by_cases q1 : 1 ≤ s.size
      · have q2 : decide (1 ≤ s.size) = true := by simpa using q1
        have q3 : decide ((1 : Int) ≤ (s.size : Int)) = true := by rw [hd1]; exact q2
        go_wp2
        go_ret
        exact ⟨by rw [HY.out, q2, ← hd2]; rfl, rfl⟩
      · have q2 : decide (1 ≤ s.size) = false := by simpa using q1
        have q3 : decide ((1 : Int) ≤ (s.size : Int)) = false := by rw [hd1]; exact q2
        go_wp2
        go_ret
        exact ⟨by rw [HY.out, q2]; rfl, rfl⟩
end Go.Proofs.Ytgjhmpmjbedjoaa
namespace Go.Proofs.Ytgjhmpmjbedjoaa
open Go.RowKit Apo
open Classical in
set_option maxRecDepth 100000 in
theorem neqRf (f g : Rf) (w : World) : (binOp .neq 57 (.agg #[.string f.n, .bool f.t, .int .u64 f.i]) (.agg #[.string g.n, .bool g.t, .int .u64 g.i])).run Try.prog w = .ok (.bool (!decide (f = g))) w := by
  have u9 := Try.underlying9
  have u4 := Try.underlying4
  have u30 := Try.underlying22
  have hS : Try.prog.underlying 57 = some (.struct (Try.prog.fieldsOf 57)) := by kernel_rfl
  have hp : Try.prog.stoodInHeld 57 = false := by kernel_rfl
  rw [run_neq_struct, show (10000 : Nat) = 9999 + 1 from rfl, run_equalIn_agg w 9999 57 _ _ hS hp]
  simp only [Program.fieldsOf, Try.underlying57]
  go_simp
  obtain ⟨fn, ft, fi⟩ := f
  obtain ⟨gn, gt, gi⟩ := g
  simp only
  by_cases h1 : fn = gn
  · by_cases h2 : ft = gt
    · by_cases h3 : fi = gi
      · simp [h1, h2, h3]
      · simp [h1, h2, h3]
    · simp [h1, h2]
  · have h1' : ¬ fn.toList = gn.toList := fun e => h1 (bytes_of_list e)
    simp [h1, h1']
open Classical in
set_option maxRecDepth 100000 in
set_option maxHeartbeats 1000000 in
theorem rsame_refs (a : Option Addr) (acap : Nat) (l : List Rf) (b : Option Addr) (bcap : Nat) (m : List Rf) (w : World) (ha : RdG cRf 3 w a l) (hb : RdG cRf 3 w b m) (hl : l.length ≤ 9223372036854775807) :
    Calls Try.prog 38 #[.slice a l.length acap, .slice b m.length bcap] w fun e w' => e = .returned (.bool (decide (l = m))) ∧ Below w.heap.size w w' := by
  have hA := hide ha
  have hB := hide hb
  clear ha hb
  by_cases hlen : l.length = m.length
  · rw [← hlen]
    have HL := hide hlen
    clear hlen
    go_enter Try.func38, Try.ntmps38
    go_wp2
    go_loopw [13] (fun i wr => ∃ k : Nat, k ≤ l.length ∧ i = .int .i64 k ∧ Hid (l.take k = m.take k) ∧ Below w.heap.size w wr) (fun i _ => l.length - (intOf i).toNat)
    case atStart => exact ⟨0, Nat.zero_le _, rfl, rfl, Below.refl _ _⟩
    case round =>
      obtain ⟨k, hk, rfl, hE, hbr⟩ := hrel
      by_cases hlt : k < l.length
      · have hz : l[k]? = some l[k] := List.getElem?_eq_getElem hlt
        have hlt2 : k < m.length := by rw [← HL.out]; exact hlt
        have hy : m[k]? = some m[k] := List.getElem?_eq_getElem hlt2
        generalize l[k] = f at hz
        generalize m[k] = g at hy
        obtain ⟨p, off, rfl, c0, c1, c2⟩ := rd_rf (hA.out.below hbr) hz
        obtain ⟨p', off', rfl, d0, d1, d2⟩ := rd_rf (hB.out.below hbr) hy
        have HZ := hide hz
        have HY := hide hy
        clear hz hy
        have hm : Try.prog.eqGuardType Try.prog.depth 57 = false := by kernel_rfl
        have hcmp := neqRf f g
        by_cases hfg : f = g
        · subst hfg
          simp only [decide_true, Bool.not_true] at hcmp
          have hE' : Hid (l.take (k + 1) = m.take (k + 1)) := by
            show _ = _
            rw [List.take_add_one, List.take_add_one, HZ.out, HY.out, hE.out]
          go_wp2
          go_quiet (fail)
          go_wp2
          go_roundw
          case rel => exact ⟨k + 1, by omega, by go_num, hE', below_drewN hbr _⟩
          case measure => simp [intOf]; omega
        · have hd : decide (f = g) = false := by simp [hfg]
          simp only [hd, Bool.not_false] at hcmp
          have hE' : Hid (l ≠ m) := by
            intro e
            have h1 := HZ.out
            rw [e, HY.out] at h1
            exact hfg (by cases h1; rfl)
          go_wp2
          go_quiet (fail)
          go_wp2
          go_ret
          exact ⟨by simp [hE'.out], below_drewN hbr _⟩
      · have hE' : Hid (l = m) := by
          have h1 := hE.out
          rw [List.take_of_length_le (by omega), List.take_of_length_le (by rw [← HL.out]; omega)] at h1
          exact h1
        go_wp2
        go_ret
        exact ⟨by simp [hE'.out], hbr⟩
  · have hne : l ≠ m := fun e => hlen (by rw [e])
    have hN := hide hne
    have hlb : ((l.length : Int) == (m.length : Int)) = false := by simp; omega
    clear hne
    go_enter Try.func38, Try.ntmps38
    go_wp2
    go_ret
    exact ⟨by simp [hN.out], Below.refl _ _⟩
end Go.Proofs.Ytgjhmpmjbedjoaa
namespace Go.Proofs.Ytgjhmpmjbedjoaa
open Go.RowKit Apo
def letM (c : Int) : Bool := decide (97 ≤ c) && decide (c ≤ 122)
def digM (c : Int) : Bool := decide (48 ≤ c) && decide (c ≤ 57)
set_option maxHeartbeats 1000000 in
theorem letter_any (c : Int) (w : World) : Calls Try.prog 71 #[.int .u8 c] w fun e w' => e = .returned (.bool (letM c)) ∧ w = w' := by
  unfold letM
  by_cases h1 : 97 ≤ c
  · go_enter Try.func71, Try.ntmps71
    go_wp2
    go_ret
    exact ⟨by simp; try omega, rfl⟩
  · go_enter Try.func71, Try.ntmps71
    go_wp2
    go_ret
    exact ⟨by simp; try omega, rfl⟩
set_option maxHeartbeats 1000000 in
theorem digit_any (c : Int) (w : World) : Calls Try.prog 72 #[.int .u8 c] w fun e w' => e = .returned (.bool (digM c)) ∧ w = w' := by
  unfold digM
  by_cases h1 : 48 ≤ c
  · go_enter Try.func72, Try.ntmps72
    go_wp2
    go_ret
    exact ⟨by simp; try omega, rfl⟩
  · go_enter Try.func72, Try.ntmps72
    go_wp2
    go_ret
    exact ⟨by simp; try omega, rfl⟩
theorem okAt_zero (c : Int) : okAt 0 c = letM c := by simp [okAt, letM]
theorem okAt_pos {k : Nat} (h : 0 < k) (c : Int) : okAt k c = (letM c || (digM c || (c == 45))) := by simp [okAt, letM, digM, h]
set_option maxHeartbeats 4000000 in
theorem pname_any (s : ByteArray) (w : World) (hs : s.size ≤ 9223372036854775807) :
    Calls Try.prog 53 #[.string s] w fun e w' => e = .returned (.bool (nameM s)) ∧ w = w' := by
  have hb := PlainAid.get_bt s
  by_cases h0 : s.size = 0
  · have he : s = ⟨#[]⟩ := ByteArray.ext (Array.eq_empty_of_size_eq_zero h0)
    subst he
    go_enter Try.func53, Try.ntmps53
    go_wp2
    go_ret
    exact ⟨rfl, rfl⟩
  have hne : (s.toList == []) = false := by
    rw [beq_eq_false_iff_ne]
    intro e
    have : s = ⟨#[]⟩ := bytes_of_list (by rw [e]; simp)
    rw [this] at h0
    exact h0 rfl
  by_cases h20 : 20 < s.size
  · have HN : Hid (nameM s = false) := hide (by unfold nameM; rw [show decide (s.size ≤ 20) = false by simp; omega, Bool.and_false, Bool.and_false])
    have d1 : decide ((20 : Int) < (s.size : Int)) = true := by simp; omega
    go_enter Try.func53, Try.ntmps53
    go_wp2
    go_ret
    exact ⟨by rw [HN.out]; rfl, rfl⟩
  have d1 : decide ((20 : Int) < (s.size : Int)) = false := by simp; omega
  have hlp : 0 < s.size := by omega
  go_enter Try.func53, Try.ntmps53
  go_wp2_with fail
  refine (letter_any _ _).mono ?_
  rintro e w1 ⟨rfl, rfl⟩
  cases hl : letM (PlainAid.bt s 0) with
  | false =>
    have HN := hide (nm_no hlp (by rw [okAt_zero, hl]))
    go_wp2
    go_ret
    exact ⟨by rw [HN.out]; rfl, rfl⟩
  | true =>
  have HL := hide hl
  clear hl
  go_wp2
  go_loop [19] (fun i => ∃ k : Nat, k ≤ s.size ∧ i = .int .i64 k ∧ Hid ((List.range k).all (fun k => okAt k (PlainAid.bt s k)) = true)) (fun i => s.size - (intOf i).toNat)
  case atStart => exact ⟨0, Nat.zero_le _, rfl, hide (by simp)⟩
  case round =>
    obtain ⟨k, hk, rfl, hf⟩ := hrel
    by_cases hlt : k < s.size
    · have hz0 := PlainAid.bt_nonneg s k
      have hz1 := PlainAid.bt_le s k
      have d2 : decide ((k : Int) < (s.size : Int)) = true := by simp; omega
      go_wp2_with fail
      refine (letter_any _ _).mono ?_
      rintro e w1 ⟨rfl, rfl⟩
      cases hl : letM (PlainAid.bt s k) with
      | true =>
        have HS : Hid ((List.range (k + 1)).all (fun k => okAt k (PlainAid.bt s k)) = true) := hide (nm_step hf.out (by
          by_cases q : k = 0
          · subst q; rw [okAt_zero, hl]
          · rw [okAt_pos (by omega), hl]; rfl))
        clear hl
        go_wp2
        go_round
        case rel => exact ⟨k + 1, hlt, rfl, HS⟩
        case measure => simp [intOf]; omega
      | false =>
        have hk0 : 0 < k := by
          rcases Nat.eq_zero_or_pos k with q | q
          · subst q
            rw [HL.out] at hl
            cases hl
          · exact q
        have HO : Hid (okAt k (PlainAid.bt s k) = (digM (PlainAid.bt s k) || (PlainAid.bt s k == 45))) := hide (by rw [okAt_pos hk0, hl]; rfl)
        clear hl
        go_wp2_with fail
        refine (digit_any _ _).mono ?_
        rintro e w1 ⟨rfl, rfl⟩
        cases hd : digM (PlainAid.bt s k) with
        | true =>
          have HS : Hid ((List.range (k + 1)).all (fun k => okAt k (PlainAid.bt s k)) = true) := hide (nm_step hf.out (by rw [HO.out, hd]; rfl))
          clear hd
          go_wp2
          go_round
          case rel => exact ⟨k + 1, hlt, rfl, HS⟩
          case measure => simp [intOf]; omega
        | false =>
          by_cases h5 : PlainAid.bt s k = 45
          · have h6 : (PlainAid.bt s k == 45) = true := by rw [beq_iff_eq]; exact h5
            have HS : Hid ((List.range (k + 1)).all (fun k => okAt k (PlainAid.bt s k)) = true) := hide (nm_step hf.out (by rw [HO.out, hd, h6]; rfl))
            clear hd h5
            go_wp2
            go_round
            case rel => exact ⟨k + 1, hlt, rfl, HS⟩
            case measure => simp [intOf]; omega
          · have h6 : (PlainAid.bt s k == 45) = false := by rw [beq_eq_false_iff_ne]; exact h5
            have HN := hide (nm_no hlt (by rw [HO.out, hd, h6]; rfl))
            clear hd h5
            go_wp2
            go_ret
            exact ⟨by rw [HN.out]; rfl, rfl⟩
    · have HY : Hid (nameM s = true) := hide (by
        have e : k = s.size := by omega
        unfold nameM
        have := hf.out
        rw [e] at this
        rw [this, Bool.true_and, Bool.and_eq_true, decide_eq_true_eq, decide_eq_true_eq]
        omega)
      have d2 : decide ((k : Int) < (s.size : Int)) = false := by simp; omega
      go_wp2
      go_ret
      exact ⟨by rw [HY.out]; rfl, rfl⟩
end Go.Proofs.Ytgjhmpmjbedjoaa
namespace Go.Proofs.Ytgjhmpmjbedjoaa
open Go.RowKit Apo Go.ChangeShapes Go.WideShapes Go.Deep
theorem choose_ltR {α : Type} [Inhabited α] {n : Nat} {P : Nat → α → Prop} (h : ∀ i, i < n → ∃ x, P i x) : ∃ F : Nat → α, ∀ i, i < n → P i (F i) := by
  classical
  exact ⟨fun i => if q : i < n then Classical.choose (h i q) else default, fun i hi => by simp only [dif_pos hi]; exact Classical.choose_spec (h i hi)⟩
/-- a deed of law 16 -/
structure Dr where
  kd : Int
  r : Rf
  old : Int
def cDr (x : Dr) : List Value := [.int .i64 x.kd, .string x.r.n, .bool x.r.t, .int .u64 x.r.i, .int .u64 x.old]
theorem cDr_len (x : Dr) : (cDr x).length = 5 := rfl
instance : Inhabited Rf := ⟨⟨ByteArray.empty, false, 0⟩⟩
instance : Inhabited Dr := ⟨⟨0, ⟨ByteArray.empty, false, 0⟩, 0⟩⟩
theorem rd_dr {w : World} {a : Option Addr} {l : List Dr} (h : RdG cDr 5 w a l) {i : Nat} {x : Dr} (hi : l[i]? = some x) : ∃ g o, a = some ⟨g, o, none⟩ ∧ w.cell? ⟨g, o + i * 5, none⟩ = some (.int .i64 x.kd) ∧ w.cell? ⟨g, o + i * 5 + 1, none⟩ = some (.string x.r.n) ∧ w.cell? ⟨g, o + i * 5 + 2, none⟩ = some (.bool x.r.t) ∧ w.cell? ⟨g, o + i * 5 + 3, none⟩ = some (.int .u64 x.r.i) ∧ w.cell? ⟨g, o + i * 5 + 4, none⟩ = some (.int .u64 x.old) := by
  obtain ⟨g, o, h1, h2⟩ := h i x hi
  exact ⟨g, o, h1, h2 0 _ rfl, h2 1 _ rfl, h2 2 _ rfl, h2 3 _ rfl, h2 4 _ rfl⟩
section
variable {H : Type} {enc : TypeId × Value → H} {w : World} {base : Nat} {spare : Nat → Bool} {held : Bool}
set_option maxRecDepth 100000 in
theorem open_ref {fuel : Nat} {cs : List Value} {x : DataW H × List MemPlace} (hc : cs.length = 3) (h : DataW.trod enc Try.prog w base spare held fuel 57 cs = some x) :
    ∃ s : Rf, cs = cRf s ∧ s.n.size ≤ maxLen := by
  obtain ⟨xs, k, hk, hxy, _, hxl, hf⟩ := DataW.trod_struct Try.underlying57 h
  match xs, hxl, cs, hc with
  | [y0, y1, y2], _, [v0, v1, v2], _ =>
    have c4 : Try.prog.cellsOf 4 = 1 := by kernel_rfl
    have c9 : Try.prog.cellsOf 9 = 1 := by kernel_rfl
    have c30 : Try.prog.cellsOf 22 = 1 := by kernel_rfl
    have g0 := hf 0 _ rfl
    have g1 := hf 1 _ rfl
    have g2 := hf 2 _ rfl
    simp [c4, c9, c30] at g0 g1 g2
    obtain ⟨a, e0, _, w0⟩ := DataW.trod_string Try.underlying9 g0
    obtain ⟨s, e1, _⟩ := DataW.trod_bool Try.underlying4 g1
    obtain ⟨i, e2, _, _⟩ := DataW.trod_int Try.underlying22 g2
    simp only [List.cons.injEq, and_true] at e0 e1 e2
    subst e0 e1 e2
    exact ⟨⟨a, s, i⟩, rfl, w0⟩
/-- a slice of structs that came in -/
theorem open_rows {α : Type} [Inhabited α] {c : α → List Value} {K : Nat} (hK : ∀ x, (c x).length = K) (hK0 : 0 < K) {ok : α → Prop} {t e : TypeId} (ht : Try.prog.underlying t = some (.slice e)) (ce : Try.prog.cellsOf e = K)
    (ho : ∀ {fuel : Nat} {cs : List Value} {x : DataW H × List MemPlace}, cs.length = K → DataW.trod enc Try.prog w base spare held fuel e cs = some x → ∃ s : α, cs = c s ∧ ok s)
    {fuel : Nat} {v : Value} {x : DataW H × List MemPlace} (h : DataW.trod enc Try.prog w base spare held fuel t [v] = some x) :
    ∃ (a : Option Addr) (cap : Nat) (fs : List α), v = .slice a fs.length cap ∧ RdG c K w a fs ∧ (∀ f ∈ fs, ok f) ∧ fs.length ≤ cap ∧ cap ≤ maxLen := by
  rcases open_slice ht h with ⟨hcs, _⟩ | ⟨ad, len, cap, m, n, D, Pl, hcs, hb, hl, hm, hmm, _, hx⟩
  · simp only [List.cons.injEq, and_true] at hcs
    exact ⟨none, 0, [], hcs, RdG.nil _ _, by simp, by simp, by omega⟩
  · simp only [List.cons.injEq, and_true] at hcs
    have hlm : len ≤ m := by rw [hmm]; split <;> omega
    have each : ∀ i, i < len → ∃ f : α, (∀ j u, (c f)[j]? = some u → w.cell? (ad.add (i * K + j)) = some u) ∧ ok f := by
      intro i hi
      obtain ⟨cs', h1, h2⟩ := hx i (by omega)
      rw [ce] at h1
      obtain ⟨_, hlen, hcell⟩ := World.cells?_some h1
      obtain ⟨s, hs, hr⟩ := ho hlen h2
      refine ⟨s, fun j u hu => ?_, hr⟩
      have hj : j < K := by have := (List.getElem?_eq_some_iff.1 hu).1; rw [hK] at this; exact this
      have := hcell j hj
      rw [add_add] at this
      rw [this]
      subst hs
      exact hu
    obtain ⟨F, hF⟩ := choose_ltR each
    refine ⟨some ad, cap, (List.range len).map F, by simpa using hcs, ?_, ?_, by simp; omega, by omega⟩
    · intro i f hi
      obtain ⟨hlt, hv⟩ := List.getElem?_eq_some_iff.1 hi
      have hil : i < len := by simpa using hlt
      have hfi : F i = f := by simpa using hv
      have hF1 := (hF i hil).1
      rw [hfi] at hF1
      have z0 := (hF 0 (by omega)).1 0 _ (List.getElem?_eq_getElem (by rw [hK]; exact hK0))
      obtain ⟨b, off, spot⟩ := ad
      have hspot : spot = none := by simpa [Addr.add] using World.cell?_spot z0
      subst hspot
      refine ⟨b, off, rfl, fun j u hu => ?_⟩
      have := hF1 j u hu
      rw [add_plain] at this
      simpa [Nat.add_assoc] using this
    · intro f hf
      obtain ⟨i, hi, rfl⟩ := List.mem_map.1 hf
      exact (hF i (by simpa using hi)).2
structure RfA where
  a : Option Addr
  c : Nat
  l : List Rf
structure OkRfA (w : World) (x : RfA) : Prop where
  rd : RdG cRf 3 w x.a x.l
  sz : ∀ f ∈ x.l, f.n.size ≤ maxLen
  len : x.l.length ≤ x.c
  big : x.c ≤ maxLen
theorem OkRfA.below {w w' : World} {x : RfA} (h : OkRfA w x) (b : Below w.heap.size w w') : OkRfA w' x := { h with rd := h.rd.below b }
structure DrA where
  a : Option Addr
  c : Nat
  l : List Dr
structure OkDrA (w : World) (x : DrA) : Prop where
  rd : RdG cDr 5 w x.a x.l
  sz : ∀ f ∈ x.l, f.r.n.size ≤ maxLen
  len : x.l.length ≤ x.c
  big : x.c ≤ maxLen
theorem OkDrA.below {w w' : World} {x : DrA} (h : OkDrA w x) (b : Below w.heap.size w w') : OkDrA w' x := { h with rd := h.rd.below b }
set_option maxRecDepth 100000 in
theorem refs_in {r : Reach} {b0 : Nat} {v : Value} {d : DataW H} {ps : List MemPlace} (hval : Value.okWide Try.prog w r b0 23 v) (h : DataW.Trod enc Try.prog w base spare held 23 v d ps) : ∃ t : RfA, v = .slice t.a t.l.length t.c ∧ OkRfA w t := by
  obtain ⟨a, l, c, rfl⟩ := okWide_slice Try.underlying23 hval
  obtain ⟨fuel, hf⟩ := h
  obtain ⟨a', c', fs, e, h1, h2, h3, h4⟩ := open_rows cRf_len (by decide) (ok := fun s : Rf => s.n.size ≤ maxLen) Try.underlying23 (by kernel_rfl) (fun hc h => open_ref hc h) hf
  exact ⟨⟨a', c', fs⟩, e, ⟨h1, h2, h3, h4⟩⟩
set_option maxRecDepth 100000 in
theorem ref_in {r : Reach} {b0 : Nat} {v : Value} {d : DataW H} {ps : List MemPlace} (hval : Value.okWide Try.prog w r b0 57 v) (h : DataW.Trod enc Try.prog w base spare held 57 v d ps) :
    ∃ s : Rf, v = .agg #[.string s.n, .bool s.t, .int .u64 s.i] ∧ s.n.size ≤ maxLen := by
  obtain ⟨cs, rfl, hc⟩ := okWide_struct Try.underlying57 hval
  obtain ⟨fuel, hf⟩ := h
  have c32 : Try.prog.cellsOf 57 = 3 := by kernel_rfl
  rw [c32] at hc
  obtain ⟨f, e, ok⟩ := open_ref (cs := cs.toList) (by simpa using hc) hf
  refine ⟨f, ?_, ok⟩
  cases cs
  simp only [cRf] at e
  rw [e]
end
end Go.Proofs.Ytgjhmpmjbedjoaa
