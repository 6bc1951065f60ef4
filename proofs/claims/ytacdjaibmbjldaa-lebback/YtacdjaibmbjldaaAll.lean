/- What leb.All answers, over the translation: the numbers that bytes are, or that they are none. -/
import Derived.Test.YtacdjaibmbjldaaAwake
import Derived.Deep.QuietTactic
import Derived.BigQuiet
namespace Go.Proofs.Ytacdjaibmbjldaa
open Go.RowKit Apo

theorem Try.info24 : (Try.prog.info? 24).map (fun i => (i.zero, i.size, i.bytes)) = some (some (.int .u64 0), 1, 8) := by kernel_rfl

theorem hide {p : Prop} (h : p) : Hid p := h

theorem rd_drop {k : IntKind} {w : World} {b off at' : Nat} {l : List Int} (h : Rd k w (some ⟨b, off, none⟩) l) : Rd k w (some ⟨b, off + at', none⟩) (l.drop at') := by
  intro i hi
  rw [List.length_drop] at hi
  obtain ⟨b', off', ha, hc⟩ := h (at' + i) (by omega)
  cases ha
  refine ⟨b, off + at', rfl, ?_⟩
  rw [Nat.add_assoc, hc]
  simp [List.getD]

theorem encs_split {ns : List Int} {k : Nat} {z : Int} (h : ns[k]? = some z) : (encs ns).drop (encs (ns.take k)).length = enc z.toNat ++ encs (ns.drop (k + 1)) := by
  have hk := (List.getElem?_eq_some_iff.1 h).1
  have e : ns = ns.take k ++ (z :: ns.drop (k + 1)) := by
    have h2 : ns.drop k = z :: ns.drop (k + 1) := by
      rw [List.drop_eq_getElem_cons hk]
      have := (List.getElem?_eq_some_iff.1 h).2
      rw [this]
    rw [← h2, List.take_append_drop]
  have e2 : encs ns = encs (ns.take k) ++ (enc z.toNat ++ encs (ns.drop (k + 1))) := by
    have := congrArg encs e
    rw [encs_append] at this
    exact this
  rw [e2, List.drop_left]

set_option maxHeartbeats 1000000 in
theorem all_yes (a : Option Addr) (cap : Nat) (l ns : List Int) (w : World) (hr : Rd .u8 w a l) (hcap : l.length ≤ cap) (hl : l.length ≤ 1099511627776) (hu : InU ns) (he : l = encs ns) :
    Calls Try.prog 15 #[.slice a l.length cap] w fun e w' => ∃ v, e = .returned (.tuple #[v, .int .i64 0]) ∧ w'.ownsRow w.heap.size 24 1 v ns.length (ns.map (Value.int .u64)) ∧ Below w.heap.size w w' := by
  obtain ⟨i0, hi, hz0, hz1, hz2⟩ := info_parts Try.info24
  have hnl := encs_len ns
  have hR : Hid (Rd .u8 w a l) := hr
  have HE : Hid (l = encs ns) := he
  have hll : l.length = (encs ns).length := by rw [he]
  have HL : Hid (l.length = (encs ns).length) := hll
  have hns : ns.length ≤ l.length := by omega
  clear hr he hll
  go_enter Try.func15, Try.ntmps15
  go_wp2
  go_loopw [4, 5] (fun v i wr => ∃ k : Nat, k ≤ ns.length ∧ ∃ p : Nat, p ≤ l.length ∧ i = .int .i64 p ∧ Hid (p = (encs (ns.take k)).length) ∧ wr.ownsRow w.heap.size 24 1 v k ((ns.take k).map (Value.int .u64)) ∧ Below w.heap.size w wr) (fun _ i _ => l.length - (intOf i).toNat)
  case atStart => exact ⟨0, Nat.zero_le _, 0, Nat.zero_le _, rfl, rfl, World.ownsRow_nil _ _ _ _, Below.refl _ _⟩
  case round =>
    obtain ⟨k, hk, p, hp, rfl, HP, hown, hbr⟩ := hrel
    by_cases hlt : k < ns.length
    · have hz : ns[k]? = some ns[k] := List.getElem?_eq_getElem hlt
      generalize ns[k] = z at hz
      have hzb := hu z (List.mem_of_getElem? hz)
      have hsp := encs_split hz
      have hte := encs_take hz
      have hels := enc_len z.toNat
      have hD : Hid (l.drop p = enc z.toNat ++ encs (ns.drop (k + 1))) := by show _ = _; rw [HE.out, HP.out]; exact hsp
      have hQ : Hid (p + (enc z.toNat).length = (encs (ns.take (k + 1))).length) := by show _ = _; rw [hte, List.length_append, ← HP.out]
      have hpl : p + (enc z.toNat).length ≤ l.length := by
        have h1 := congrArg List.length hD.out
        rw [List.length_drop, List.length_append] at h1
        omega
      have hT : Hid (ns.take (k + 1) = ns.take k ++ [z]) := take_snoc hz
      clear hz hsp hte
      obtain ⟨b, off, ha, _⟩ := hR.out p (by omega)
      have hrr := rd_drop (at' := p) (ha ▸ (hR.out.below hbr))
      have hof := of_yes (some ⟨b, off + p, none⟩) (cap - p) (l.drop p) z.toNat (encs (ns.drop (k + 1))) wr hrr (by unfold top; omega) hD.out
      rw [List.length_drop, Int.toNat_of_nonneg hzb.1] at hof
      have HF := hide hof
      subst ha
      clear hof hrr
      generalize (enc z.toNat).length = q at *
      have hsz := hbr.size
      go_wp2_with fail
      refine HF.out.mono ?_
      rintro e w2 ⟨rfl, rfl⟩
      clear HF hD
      go_wp2_with (at_builtin; refine wpList_append_own _ rfl _ _ 23 rfl w.heap.size 24 i0 (.int .u64 0) 1 8 Try.underlying23 hi hz0 hz1 hz2 rfl (by decide) _ k ((ns.take k).map (Value.int .u64)) rfl (hown.alloc _) ⟨wr.heap.size, 0, none⟩ 1 1 [.int .u64 z] rfl rfl (cell_one_new _ _ _) (ints_oneCell _ [z]) (by unfold maxLen; omega) (by omega) (by simp; omega) ?_)
      intro v3 w3 hown3 hgrow3 _
      have hb3 : Below w.heap.size w w3 := (hbr.alloc hsz _).grown hgrow3 (by simp; omega) (fun q hq => (hown.lt q hq).1)
      have HO : Hid (w3.ownsRow w.heap.size 24 1 v3 (k + 1) ((ns.take (k + 1)).map (Value.int .u64))) := by
        show World.ownsRow _ _ _ _ _ _ _
        rw [hT.out, List.map_append, List.map_take]
        exact hown3
      clear hown3 hgrow3 hown hbr hT HP
      go_wp2
      go_roundw
      case rel => exact ⟨k + 1, by omega, p + q, hpl, by go_num, hQ, HO, hb3⟩
      case measure => simp [intOf]; omega
    · have hkn : ns.take k = ns := List.take_of_length_le (by omega)
      have hpe : p = l.length := by rw [HP.out, hkn]; exact HL.out.symm
      have hkk : k = ns.length := by omega
      have HO := hide hown
      clear hown
      subst hpe
      go_wp2
      go_ret2
      rw [hkn, hkk] at HO
      exact ⟨_, rfl, HO, hbr⟩

/-- the bytes are no numbers -/
def NoNums (l : List Int) : Prop := ∀ ns, InU ns → l ≠ encs ns

set_option maxHeartbeats 1000000 in
theorem all_no (a : Option Addr) (cap : Nat) (l : List Int) (w : World) (hr : Rd .u8 w a l) (hcap : l.length ≤ cap) (hl : l.length ≤ 1099511627776) (hb : InB l) (hno : NoNums l) :
    Calls Try.prog 15 #[.slice a l.length cap] w fun e w' => e = .returned (.tuple #[.slice none 0 0, .int .i64 20]) ∧ Below w.heap.size w w' := by
  obtain ⟨i0, hi, hz0, hz1, hz2⟩ := info_parts Try.info24
  have hR : Hid (Rd .u8 w a l) := hr
  have hB : Hid (InB l) := hb
  have hN : Hid (NoNums l) := hno
  clear hr hb hno
  go_enter Try.func15, Try.ntmps15
  go_wp2
  go_loopw [4, 5] (fun v i wr => ∃ ns : List Int, InU ns ∧ ∃ p : Nat, p ≤ l.length ∧ ns.length ≤ p ∧ i = .int .i64 p ∧ Hid (p = (encs ns).length ∧ l = encs ns ++ l.drop p) ∧ wr.ownsRow w.heap.size 24 1 v ns.length (ns.map (Value.int .u64)) ∧ Below w.heap.size w wr) (fun _ i _ => l.length - (intOf i).toNat)
  case atStart => exact ⟨[], by intro z hz; simp at hz, 0, Nat.zero_le _, Nat.le_refl _, rfl, ⟨rfl, by simp [encs]⟩, World.ownsRow_nil _ _ _ _, Below.refl _ _⟩
  case round =>
    obtain ⟨ns, hu, p, hp, hnp, rfl, HP, hown, hbr⟩ := hrel
    have hlt : p < l.length := by
      rcases Nat.lt_or_ge p l.length with h | h
      · exact h
      · have e := HP.out.2
        rw [List.drop_of_length_le h, List.append_nil] at e
        exact absurd e (hN.out ns hu)
    have hsz := hbr.size
    obtain ⟨b, off, ha, _⟩ := hR.out p hlt
    have hrr := rd_drop (at' := p) (ha ▸ (hR.out.below hbr))
    by_cases hyes : ∃ n r, n < top ∧ l.drop p = enc n ++ r
    · obtain ⟨n, r, hn, hD⟩ := hyes
      have hels := enc_len n
      have hof := of_yes (some ⟨b, off + p, none⟩) (cap - p) (l.drop p) n r wr hrr hn hD
      rw [List.length_drop] at hof
      have HF := hide hof
      have hpl : p + (enc n).length ≤ l.length := by
        have h1 := congrArg List.length hD
        rw [List.length_drop, List.length_append] at h1
        omega
      have hU2 : InU (ns ++ [(n : Int)]) := by
        intro z hz
        rw [List.mem_append, List.mem_singleton] at hz
        rcases hz with hz | hz
        · exact hu z hz
        · unfold top at hn; omega
      have HP2 : Hid (p + (enc n).length = (encs (ns ++ [(n : Int)])).length ∧ l = encs (ns ++ [(n : Int)]) ++ l.drop (p + (enc n).length)) := by
        have h1 := HP.out
        refine ⟨?_, ?_⟩
        · rw [encs_snoc, Int.toNat_natCast, List.length_append]; omega
        · rw [encs_snoc, Int.toNat_natCast, ← List.drop_drop, hD, List.drop_left, List.append_assoc, ← hD]
          exact h1.2
      have hn2 : (n : Int) ≤ 18446744073709551615 := by unfold top at hn; omega
      have HU := hide hU2
      subst ha
      clear hof hrr hD hU2 hu hn
      generalize (enc n).length = q at *
      go_wp2_with fail
      refine HF.out.mono ?_
      rintro e w2 ⟨rfl, rfl⟩
      clear HF
      go_wp2_with (at_builtin; refine wpList_append_own _ rfl _ _ 23 rfl w.heap.size 24 i0 (.int .u64 0) 1 8 Try.underlying23 hi hz0 hz1 hz2 rfl (by decide) _ ns.length (ns.map (Value.int .u64)) rfl (hown.alloc _) ⟨wr.heap.size, 0, none⟩ 1 1 [.int .u64 n] rfl rfl (cell_one_new _ _ _) (ints_oneCell _ [(n : Int)]) (by unfold maxLen; omega) (by omega) (by simp; omega) ?_)
      intro v3 w3 hown3 hgrow3 _
      have hb3 : Below w.heap.size w w3 := (hbr.alloc hsz _).grown hgrow3 (by simp; omega) (fun q hq => (hown.lt q hq).1)
      have HO : Hid (w3.ownsRow w.heap.size 24 1 v3 (ns ++ [(n : Int)]).length ((ns ++ [(n : Int)]).map (Value.int .u64))) := by
        show World.ownsRow _ _ _ _ _ _ _
        rw [List.map_append, List.length_append]
        exact hown3
      clear hown3 hgrow3 hown hbr HP
      go_wp2
      go_roundw
      case rel => exact ⟨ns ++ [(n : Int)], HU, p + q, hpl, by rw [List.length_append]; simp; omega, by go_num, HP2, HO, hb3⟩
      case measure => simp [intOf]; omega
    · have hnn : NoNum (l.drop p) := fun n r hn e => hyes ⟨n, r, hn, e⟩
      have hof := of_no (some ⟨b, off + p, none⟩) (cap - p) (l.drop p) wr hrr (by rw [List.length_drop]; omega) (fun z hz => hB.out z (List.mem_of_mem_drop hz)) hnn
      rw [List.length_drop] at hof
      have HF := hide hof
      subst ha
      clear hof hrr hyes hnn
      go_wp2_with fail
      refine HF.out.mono ?_
      rintro e w2 ⟨rfl, rfl⟩
      clear HF
      go_wp2
      go_ret2
      exact ⟨rfl, hbr⟩

set_option maxHeartbeats 1000000 in
theorem same_yes (a a' : Option Addr) (cap cap' : Nat) (l : List Int) (w : World) (hr : Rd .u64 w a l) (hr' : Rd .u64 w a' l) (hl : l.length ≤ 1099511627776) :
    Calls Try.prog 17 #[.slice a l.length cap, .slice a' l.length cap'] w fun e w' => e = .returned (.bool true) ∧ Below w.heap.size w w' := by
  have hR := hide hr
  have hR' := hide hr'
  clear hr hr'
  go_enter Try.func17, Try.ntmps17
  go_wp2
  go_loopw [13] (fun i wr => ∃ k : Nat, k ≤ l.length ∧ i = .int .i64 k ∧ Below w.heap.size w wr) (fun i _ => l.length - (intOf i).toNat)
  case atStart => exact ⟨0, Nat.zero_le _, rfl, Below.refl _ _⟩
  case round =>
    obtain ⟨k, hk, rfl, hbr⟩ := hrel
    by_cases hlt : k < l.length
    · obtain ⟨b, off, z, ha, hc, hz, _⟩ := (hR.out.below hbr).at hlt
      obtain ⟨b', off', z', ha', hc', hz', _⟩ := (hR'.out.below hbr).at hlt
      have hzz : z' = z := by
        have h1 := hz.out
        have h2 := hz'.out
        rw [h1] at h2
        cases h2
        rfl
      subst hzz ha ha'
      clear hz hz'
      go_wp2
      go_quiet (fail)
      go_wp2
      go_roundw
      case rel => exact ⟨k + 1, by omega, by go_num, below_drewN hbr _⟩
      case measure => simp [intOf]; omega
    · go_wp2
      go_ret
      exact ⟨rfl, hbr⟩
end Go.Proofs.Ytacdjaibmbjldaa
