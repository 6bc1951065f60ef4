/- What the document's own Lebs answers, over the translation. -/
import Derived.Test.YtacdjaibmbjldaaLeb
namespace Go.Proofs.Ytacdjaibmbjldaa
open Go.RowKit Apo

def lenOf : Value → Nat | .slice _ n _ => n | _ => 0

set_option maxHeartbeats 1000000 in
theorem lebs_yes (a : Option Addr) (cap : Nat) (l ns : List Int) (w : World) (hr : Rd .u8 w a l) (hcap : l.length ≤ cap) (hl : l.length ≤ 1099511627776) (hcm : cap ≤ 9223372036854775807) (hu : InU ns) (he : l = encs ns) :
    Calls Try.prog 16 #[.slice a l.length cap] w fun e w' => ∃ v, e = .returned (.tuple #[v, .int .i64 0]) ∧ w'.ownsRow w.heap.size 24 1 v ns.length (ns.map (Value.int .u64)) ∧ Below w.heap.size w w' := by
  obtain ⟨i0, hi, hz0, hz1, hz2⟩ := info_parts Try.info24
  have hnl := encs_len ns
  have HR := hide hr
  have HE : Hid (l = encs ns) := he
  have hll : l.length = (encs ns).length := by rw [he]
  have HL : Hid (l.length = (encs ns).length) := hll
  have hns : ns.length ≤ l.length := by omega
  clear hr he hll
  go_enter Try.func16, Try.ntmps16
  go_wp2
  go_loopw [0, 4] (fun s v wr => ∃ k : Nat, k ≤ ns.length ∧ ∃ p : Nat, p ≤ l.length ∧ (∃ a' c', s = .slice a' (l.length - p) c' ∧ l.length - p ≤ c' ∧ c' ≤ 9223372036854775807 ∧ Hid (Rd .u8 w a' (l.drop p))) ∧ Hid (p = (encs (ns.take k)).length) ∧ wr.ownsRow w.heap.size 24 1 v k ((ns.take k).map (Value.int .u64)) ∧ Below w.heap.size w wr) (fun s _ _ => lenOf s)
  case atStart => exact ⟨0, Nat.zero_le _, 0, Nat.zero_le _, ⟨a, cap, rfl, hcap, hcm, HR⟩, rfl, World.ownsRow_nil _ _ _ _, Below.refl _ _⟩
  case round =>
    obtain ⟨k, hk, p, hp, ⟨a', c', rfl, hc', hcm', HR'⟩, HP, hown, hbr⟩ := hrel
    by_cases hlt : k < ns.length
    · have hz : ns[k]? = some ns[k] := List.getElem?_eq_getElem hlt
      generalize ns[k] = z at hz
      have hzb := hu z (List.mem_of_getElem? hz)
      have hsp := encs_split hz
      have hte := encs_take hz
      have hels := enc_len z.toNat
      have hD : Hid (l.drop p = enc z.toNat ++ encs (ns.drop (k + 1))) := by show _ = _; rw [HE.out, HP.out]; exact hsp
      have hQ : Hid (p + (enc z.toNat).length = (encs (ns.take (k + 1))).length) := by show _ = _; rw [hte, List.length_append, ← HP.out]
      have hpl : p + (enc z.toNat).length ≤ l.length := by
        have h1 := congrArg List.length hD.out
        rw [List.length_drop, List.length_append] at h1
        omega
      have hT : Hid (ns.take (k + 1) = ns.take k ++ [z]) := take_snoc hz
      clear hz hsp hte
      obtain ⟨b, off, ha, _⟩ := HR'.out 0 (by rw [List.length_drop]; omega)
      subst ha
      have hlb := leb_yes (some ⟨b, off, none⟩) c' (l.drop p) z.toNat (encs (ns.drop (k + 1))) wr (HR'.out.below hbr) (by rw [List.length_drop]; omega) (by unfold top; omega) hD.out
      rw [List.length_drop, Int.toNat_of_nonneg hzb.1] at hlb
      have HF := hide hlb
      have HR2 : Hid (c' ≠ (enc z.toNat).length → Rd .u8 w (some ⟨b, off + (enc z.toNat).length, none⟩) (l.drop (p + (enc z.toNat).length))) := by
        intro _
        have := rd_drop (at' := (enc z.toNat).length) HR'.out
        rw [List.drop_drop] at this
        exact this
      clear hlb
      generalize (enc z.toNat).length = q at *
      have hsz := hbr.size
      have hsub : l.length - p - q = l.length - (p + q) := by omega
      by_cases hcq : c' = q
      · have HR3 : Hid (Rd .u8 w (some ⟨b, off, none⟩) (l.drop (p + q))) := by
          show Rd _ _ _ _
          rw [List.drop_of_length_le (by omega)]
          exact Rd.nil _ _ _
        subst hcq
        clear HR2 HR' hD
        go_wp2_with fail
        refine HF.out.mono ?_
        rintro e w2 ⟨rfl, hb2⟩
        have hbr2 := hbr.trans (hb2.mono hsz)
        have hown2 : w2.ownsRow w.heap.size 24 1 _ k ((ns.take k).map (Value.int .u64)) := hown.kept (row := none) ⟨hb2.os, hb2.tape, hb2.output, hb2.size, fun j hj _ => hb2.block j hj⟩ (by cases u4.ownBlock <;> simp)
        have hsz2 := hbr2.size
        clear HF hown hbr hb2
        go_wp2_with (at_builtin; refine wpList_append_own _ rfl _ _ 23 rfl w.heap.size 24 i0 (.int .u64 0) 1 8 Try.underlying23 hi hz0 hz1 hz2 rfl (by decide) _ k ((ns.take k).map (Value.int .u64)) rfl (hown2.alloc _) ⟨w2.heap.size, 0, none⟩ 1 1 [.int .u64 z] rfl rfl (cell_one_new _ _ _) (ints_oneCell _ [z]) (by unfold maxLen; omega) (by omega) (by simp; omega) ?_)
        intro v3 w3 hown3 hgrow3 _
        have hb3 : Below w.heap.size w w3 := (hbr2.alloc hsz2 _).grown hgrow3 (by simp; omega) (fun q hq => (hown2.lt q hq).1)
        have HO : Hid (w3.ownsRow w.heap.size 24 1 v3 (k + 1) ((ns.take (k + 1)).map (Value.int .u64))) := by
          show World.ownsRow _ _ _ _ _ _ _
          rw [hT.out, List.map_append, List.map_take]
          exact hown3
        clear hown3 hgrow3 hown2 hbr2 hT HP
        go_wp2
        go_roundw
        case rel => exact ⟨k + 1, by omega, p + c', hpl, ⟨_, _, rfl, by omega, by omega, HR3⟩, hQ, HO, hb3⟩
        case measure => simp [lenOf]; omega
      · have HR3 : Hid (Rd .u8 w (some ⟨b, off + q, none⟩) (l.drop (p + q))) := HR2.out hcq
        clear HR2 HR' hD
        go_wp2_with fail
        refine HF.out.mono ?_
        rintro e w2 ⟨rfl, hb2⟩
        have hbr2 := hbr.trans (hb2.mono hsz)
        have hown2 : w2.ownsRow w.heap.size 24 1 _ k ((ns.take k).map (Value.int .u64)) := hown.kept (row := none) ⟨hb2.os, hb2.tape, hb2.output, hb2.size, fun j hj _ => hb2.block j hj⟩ (by cases u4.ownBlock <;> simp)
        have hsz2 := hbr2.size
        clear HF hown hbr hb2
        go_wp2_with (at_builtin; refine wpList_append_own _ rfl _ _ 23 rfl w.heap.size 24 i0 (.int .u64 0) 1 8 Try.underlying23 hi hz0 hz1 hz2 rfl (by decide) _ k ((ns.take k).map (Value.int .u64)) rfl (hown2.alloc _) ⟨w2.heap.size, 0, none⟩ 1 1 [.int .u64 z] rfl rfl (cell_one_new _ _ _) (ints_oneCell _ [z]) (by unfold maxLen; omega) (by omega) (by simp; omega) ?_)
        intro v3 w3 hown3 hgrow3 _
        have hb3 : Below w.heap.size w w3 := (hbr2.alloc hsz2 _).grown hgrow3 (by simp; omega) (fun q hq => (hown2.lt q hq).1)
        have HO : Hid (w3.ownsRow w.heap.size 24 1 v3 (k + 1) ((ns.take (k + 1)).map (Value.int .u64))) := by
          show World.ownsRow _ _ _ _ _ _ _
          rw [hT.out, List.map_append, List.map_take]
          exact hown3
        clear hown3 hgrow3 hown2 hbr2 hT HP
        go_wp2
        go_roundw
        case rel => exact ⟨k + 1, by omega, p + q, hpl, ⟨_, _, rfl, by omega, by omega, HR3⟩, hQ, HO, hb3⟩
        case measure => simp [lenOf]; omega
    · have hkn : ns.take k = ns := List.take_of_length_le (by omega)
      have hpe : p = l.length := by rw [HP.out, hkn]; exact HL.out.symm
      have hkk : k = ns.length := by omega
      have HO := hide hown
      have hz : l.length - p = 0 := by omega
      clear hown
      rw [hz] at hc' ⊢
      go_wp2
      go_ret2
      rw [hkn, hkk] at HO
      exact ⟨_, rfl, HO, hbr⟩

set_option maxHeartbeats 1000000 in
theorem lebs_no (a : Option Addr) (cap : Nat) (l : List Int) (w : World) (hr : Rd .u8 w a l) (hcap : l.length ≤ cap) (hl : l.length ≤ 1099511627776) (hcm : cap ≤ 9223372036854775807) (hb : InB l) (hno : NoNums l) :
    Calls Try.prog 16 #[.slice a l.length cap] w fun e w' => e = .returned (.tuple #[.slice none 0 0, .int .i64 20]) ∧ Below w.heap.size w w' := by
  obtain ⟨i0, hi, hz0, hz1, hz2⟩ := info_parts Try.info24
  have HR := hide hr
  have hB := hide hb
  have hN := hide hno
  clear hr hb hno
  go_enter Try.func16, Try.ntmps16
  go_wp2
  go_loopw [0, 4] (fun s v wr => ∃ ns : List Int, InU ns ∧ ∃ p : Nat, p ≤ l.length ∧ ns.length ≤ p ∧ (∃ a' c', s = .slice a' (l.length - p) c' ∧ l.length - p ≤ c' ∧ c' ≤ 9223372036854775807 ∧ Hid (Rd .u8 w a' (l.drop p))) ∧ Hid (p = (encs ns).length ∧ l = encs ns ++ l.drop p) ∧ wr.ownsRow w.heap.size 24 1 v ns.length (ns.map (Value.int .u64)) ∧ Below w.heap.size w wr) (fun s _ _ => lenOf s)
  case atStart => exact ⟨[], by intro z hz; simp at hz, 0, Nat.zero_le _, Nat.le_refl _, ⟨a, cap, rfl, hcap, hcm, HR⟩, ⟨rfl, by simp [encs]⟩, World.ownsRow_nil _ _ _ _, Below.refl _ _⟩
  case round =>
    obtain ⟨ns, hu, p, hp, hnp, ⟨a', c', rfl, hc', hcm', HR'⟩, HP, hown, hbr⟩ := hrel
    have hlt : p < l.length := by
      rcases Nat.lt_or_ge p l.length with h | h
      · exact h
      · have e := HP.out.2
        rw [List.drop_of_length_le h, List.append_nil] at e
        exact absurd e (hN.out ns hu)
    have hsz := hbr.size
    obtain ⟨b, off, ha, _⟩ := HR'.out 0 (by rw [List.length_drop]; omega)
    subst ha
    by_cases hyes : ∃ n r, n < top ∧ l.drop p = enc n ++ r
    · obtain ⟨n, r, hn, hD⟩ := hyes
      have hels := enc_len n
      have hlb := leb_yes (some ⟨b, off, none⟩) c' (l.drop p) n r wr (HR'.out.below hbr) (by rw [List.length_drop]; omega) hn hD
      rw [List.length_drop] at hlb
      have HF := hide hlb
      have hpl : p + (enc n).length ≤ l.length := by
        have h1 := congrArg List.length hD
        rw [List.length_drop, List.length_append] at h1
        omega
      have hU2 : InU (ns ++ [(n : Int)]) := by
        intro z hz
        rw [List.mem_append, List.mem_singleton] at hz
        rcases hz with hz | hz
        · exact hu z hz
        · unfold top at hn; omega
      have HP2 : Hid (p + (enc n).length = (encs (ns ++ [(n : Int)])).length ∧ l = encs (ns ++ [(n : Int)]) ++ l.drop (p + (enc n).length)) := by
        have h1 := HP.out
        refine ⟨?_, ?_⟩
        · rw [encs_snoc, Int.toNat_natCast, List.length_append]; omega
        · rw [encs_snoc, Int.toNat_natCast, ← List.drop_drop, hD, List.drop_left, List.append_assoc, ← hD]
          exact h1.2
      have HR2 : Hid (c' ≠ (enc n).length → Rd .u8 w (some ⟨b, off + (enc n).length, none⟩) (l.drop (p + (enc n).length))) := by
        intro _
        have := rd_drop (at' := (enc n).length) HR'.out
        rw [List.drop_drop] at this
        exact this
      have hn2 : (n : Int) ≤ 18446744073709551615 := by unfold top at hn; omega
      have HU := hide hU2
      clear hlb hD hU2 hu hn
      generalize (enc n).length = q at *
      have hsub : l.length - p - q = l.length - (p + q) := by omega
      by_cases hcq : c' = q
      ·
        have HR3 : Hid (Rd .u8 w (some ⟨b, off, none⟩) (l.drop (p + q))) := by
          show Rd _ _ _ _
          rw [List.drop_of_length_le (by omega)]
          exact Rd.nil _ _ _
        subst hcq
        clear HR2 HR'
        go_wp2_with fail
        refine HF.out.mono ?_
        rintro e w2 ⟨rfl, hb2⟩
        have hbr2 := hbr.trans (hb2.mono hsz)
        have hown2 : w2.ownsRow w.heap.size 24 1 _ ns.length (ns.map (Value.int .u64)) := hown.kept (row := none) ⟨hb2.os, hb2.tape, hb2.output, hb2.size, fun j hj _ => hb2.block j hj⟩ (by cases u4.ownBlock <;> simp)
        have hsz2 := hbr2.size
        clear HF hown hbr hb2
        go_wp2_with (at_builtin; refine wpList_append_own _ rfl _ _ 23 rfl w.heap.size 24 i0 (.int .u64 0) 1 8 Try.underlying23 hi hz0 hz1 hz2 rfl (by decide) _ ns.length (ns.map (Value.int .u64)) rfl (hown2.alloc _) ⟨w2.heap.size, 0, none⟩ 1 1 [.int .u64 n] rfl rfl (cell_one_new _ _ _) (ints_oneCell _ [(n : Int)]) (by unfold maxLen; omega) (by omega) (by simp; omega) ?_)
        intro v3 w3 hown3 hgrow3 _
        have hb3 : Below w.heap.size w w3 := (hbr2.alloc hsz2 _).grown hgrow3 (by simp; omega) (fun q hq => (hown2.lt q hq).1)
        have HO : Hid (w3.ownsRow w.heap.size 24 1 v3 (ns ++ [(n : Int)]).length ((ns ++ [(n : Int)]).map (Value.int .u64))) := by
          show World.ownsRow _ _ _ _ _ _ _
          rw [List.map_append, List.length_append]
          exact hown3
        clear hown3 hgrow3 hown2 hbr2 HP
        go_wp2
        go_roundw
        case rel => exact ⟨ns ++ [(n : Int)], HU, p + c', hpl, by rw [List.length_append]; simp; omega, ⟨_, _, rfl, by omega, by omega, HR3⟩, HP2, HO, hb3⟩
        case measure => simp [lenOf]; omega
      ·
        have HR3 : Hid (Rd .u8 w (some ⟨b, off + q, none⟩) (l.drop (p + q))) := HR2.out hcq
        clear HR2 HR'
        go_wp2_with fail
        refine HF.out.mono ?_
        rintro e w2 ⟨rfl, hb2⟩
        have hbr2 := hbr.trans (hb2.mono hsz)
        have hown2 : w2.ownsRow w.heap.size 24 1 _ ns.length (ns.map (Value.int .u64)) := hown.kept (row := none) ⟨hb2.os, hb2.tape, hb2.output, hb2.size, fun j hj _ => hb2.block j hj⟩ (by cases u4.ownBlock <;> simp)
        have hsz2 := hbr2.size
        clear HF hown hbr hb2
        go_wp2_with (at_builtin; refine wpList_append_own _ rfl _ _ 23 rfl w.heap.size 24 i0 (.int .u64 0) 1 8 Try.underlying23 hi hz0 hz1 hz2 rfl (by decide) _ ns.length (ns.map (Value.int .u64)) rfl (hown2.alloc _) ⟨w2.heap.size, 0, none⟩ 1 1 [.int .u64 n] rfl rfl (cell_one_new _ _ _) (ints_oneCell _ [(n : Int)]) (by unfold maxLen; omega) (by omega) (by simp; omega) ?_)
        intro v3 w3 hown3 hgrow3 _
        have hb3 : Below w.heap.size w w3 := (hbr2.alloc hsz2 _).grown hgrow3 (by simp; omega) (fun q hq => (hown2.lt q hq).1)
        have HO : Hid (w3.ownsRow w.heap.size 24 1 v3 (ns ++ [(n : Int)]).length ((ns ++ [(n : Int)]).map (Value.int .u64))) := by
          show World.ownsRow _ _ _ _ _ _ _
          rw [List.map_append, List.length_append]
          exact hown3
        clear hown3 hgrow3 hown2 hbr2 HP
        go_wp2
        go_roundw
        case rel => exact ⟨ns ++ [(n : Int)], HU, p + q, hpl, by rw [List.length_append]; simp; omega, ⟨_, _, rfl, by omega, by omega, HR3⟩, HP2, HO, hb3⟩
        case measure => simp [lenOf]; omega
    · have hnn : NoNum (l.drop p) := fun n r hn e => hyes ⟨n, r, hn, e⟩
      have hlb := leb_no (some ⟨b, off, none⟩) c' (l.drop p) wr (HR'.out.below hbr) (by rw [List.length_drop]; omega) (by rw [List.length_drop]; omega) (fun z hz => hB.out z (List.mem_of_mem_drop hz)) hnn
      rw [List.length_drop] at hlb
      have HF := hide hlb
      clear hlb hyes hnn
      go_wp2_with fail
      refine HF.out.mono ?_
      rintro e w2 ⟨rfl, hb2⟩
      have hbr2 := hbr.trans (hb2.mono hsz)
      clear HF
      go_wp2
      go_ret2
      exact ⟨rfl, hbr2⟩
end Go.Proofs.Ytacdjaibmbjldaa
