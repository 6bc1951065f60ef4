/- merge.keys, over the translation. -/
import Derived.Test.YtoneedobhopkkaaMSo
import Derived.Test.YtoneedobhopkkaaMAp
import Derived.Test.YtoneedobhopkkaaMVa
namespace Go.Proofs.Ytoneedobhopkkaa
open Go.RowKit Go.Shelf Apo
/-- maps of the language, one behind the other -/
def RdB (w : World) (a : Option Addr) (ms : List (Nat × List En)) : Prop :=
  ∀ i m, ms[i]? = some m → (∃ g o, a = some ⟨g, o, none⟩ ∧ w.cell? ⟨g, o + i, none⟩ = some (.map (some m.1))) ∧ Ms Try.prog 9 w m.1 m.2.length (vM m.2)
theorem RdB.below {w w' : World} {a : Option Addr} {ms : List (Nat × List En)} (h : RdB w a ms) (b : Below w.heap.size w w') : RdB w' a ms := fun i m hm => by
  obtain ⟨⟨g, o, h1, h2⟩, h3⟩ := h i m hm
  exact ⟨⟨g, o, h1, (b.cell (p := ⟨g, o + i, none⟩) (World.block_lt_of_cell? _ _ h2)).trans h2⟩, h3.below b⟩
def keysL (ms : List (Nat × List En)) : List ByteArray := ms.flatMap (fun m => m.2.map En.k)
/-- keys gathered: those of the maps, and not too many -/
structure GaK (ms : List (Nat × List En)) (l : List ByteArray) : Prop where
  mem : ∀ k, k ∈ l ↔ k ∈ keysL ms
  len : l.length ≤ (keysL ms).length
theorem GaK.nil : GaK [] [] := ⟨fun _ => Iff.rfl, Nat.le_refl _⟩
theorem GaK.put {ms : List (Nat × List En)} {m : Nat × List En} {l xs : List ByteArray} (h : GaK ms l) (hs : ∀ e ∈ m.2, e.k.size ≤ maxLen) (hx : KeysS (vM m.2) m.2.length xs) : GaK (ms ++ [m]) (l ++ xs) := by
  have he : keysL (ms ++ [m]) = keysL ms ++ m.2.map En.k := by simp [keysL]
  refine ⟨fun k => ?_, ?_⟩
  · rw [he, List.mem_append, List.mem_append, h.mem]
    refine or_congr_right ?_
    obtain ⟨_, h1, h2, _⟩ := hx
    constructor
    · intro hk
      exact (vM_has _ _).1 ((h2 k (h1 k hk)).1 hk)
    · intro hk
      obtain ⟨e, he, rfl⟩ := List.mem_map.1 hk
      exact (h2 _ (hs e he)).2 ((vM_has _ _).2 hk)
  · rw [he, List.length_append, List.length_append, List.length_map]
    have := h.len
    have := hx.2.2.2
    omega
set_option maxRecDepth 100000 in
set_option maxHeartbeats 4000000 in
theorem keys_any (w : World) (a : Option Addr) (c : Nat) (ms : List (Nat × List En)) (h : RdB w a ms) (hl : ms.length ≤ 1000) (hn : (keysL ms).length ≤ 1000000) (hs : ∀ m ∈ ms, ∀ e ∈ m.2, e.k.size ≤ maxLen) :
    Calls Try.prog 22 #[.slice a ms.length c] w (DKeP (fun ks => KsS ks (keysL ms)) w) := by
  obtain ⟨n, hnn⟩ : ∃ n, n = ms.length := ⟨_, rfl⟩
  have HN := hide hnn
  have HR := hide h
  have HT := hide hn
  have HS := hide hs
  rw [← hnn] at hl ⊢
  clear h hnn hn hs
  go_enter Try.func22, Try.ntmps22
  go_wp2
  go_loopw [3, 8] (fun v i wr => ∃ (j : Nat) (l : List ByteArray) (va : Option Addr) (vc nk : Nat), j ≤ n ∧ i = .int .i64 j ∧ v = .slice va nk vc ∧ Hid (nk = l.length) ∧ Hid (GaK (ms.take j) l) ∧ Hid (Row (fun g => w.heap.size ≤ g) wr 9 1 (.slice va l.length vc) l.length (gcells cTx l)) ∧ Hid (Below w.heap.size w wr)) (fun _ i _ => n - (intOf i).toNat)
  case atStart => exact ⟨0, [], none, 0, 0, Nat.zero_le _, rfl, rfl, hide rfl, hide GaK.nil, hide (Row.nil _ _ _ _), hide (Below.refl _ _)⟩
  case round =>
    obtain ⟨j, l, va, vc, nk, hj, rfl, rfl, HNK, HG, HRW, HB⟩ := hrel
    have hlen : l.length ≤ 1000000 := by
      have h1 := HG.out.len
      have h2 : (keysL (ms.take j)).length ≤ (keysL ms).length := by
        have := congrArg (fun x => (keysL x).length) (List.take_append_drop j ms)
        simp only [keysL, List.flatMap_append, List.length_append] at this
        unfold keysL
        omega
      have h3 := HT.out
      omega
    by_cases hjn : j < n
    · obtain ⟨⟨mb, es⟩, hm⟩ : ∃ m, ms[j]? = some m := ⟨ms[j]'(by have := HN.out; omega), List.getElem?_eq_getElem _⟩
      obtain ⟨⟨g, o, rfl, q1⟩, q2⟩ := (HR.out.below HB.out) j _ hm
      simp only at q1 q2
      have htk : ms.take (j + 1) = ms.take j ++ [⟨mb, es⟩] := by rw [List.take_add_one, hm]; rfl
      have hes : es.length ≤ 1000000 := by
        have h1 : ((ms.take (j + 1)).flatMap (fun m => m.2.map En.k)).length ≤ (keysL ms).length := by
          have := congrArg (fun x => (keysL x).length) (List.take_append_drop (j + 1) ms)
          simp only [keysL, List.flatMap_append, List.length_append] at this
          unfold keysL
          omega
        rw [htk] at h1
        simp at h1
        have := HT.out
        omega
      have hb1 : Below wr.heap.size wr (wr.alloc (.cells #[.map (some mb)] 42)) := (Below.refl _ wr).alloc (Nat.le_refl _) _
      have hst := mkeys_stops 1 (Nat.le_refl _) wr.heap.size mb es.length (vM es) (wr.alloc (.cells #[.map (some mb)] 42)) (by simp) (by simp) (q2.below hb1)
      have hB1 := HB.out.trans (hb1.mono HB.out.size)
      have CA := callsIn_wide.1 (sappend_in 2 (Nat.le_refl _) 31 _ (enters_of Try.func31 (by kernel_rfl) rfl) (KeysS (vM es) es.length) es.length hes _ w.heap.size hB1.size va vc l hlen (HRW.out.onl (F := fun _ => False) (Onl.ofBelow hb1) (fun _ _ q => q)) hst)
      rw [← HNK.out] at CA
      have HCA := hide CA
      have HSE := hide (HS.out _ (List.mem_of_getElem? hm))
      have HTK := hide htk
      have HB1 := hide hB1
      have CK := mkeys_any (some mb) wr
      clear hm q2 htk hes hb1 hst hB1 CA
      go_wp2_with fail
      refine CK.mono ?_
      rintro e w1 ⟨rfl, rfl⟩
      go_wp2_with fail
      refine HCA.out.mono ?_
      rintro e w2 ⟨a2, c2, xs, rfl, hx, hrow, hb2⟩
      have HG2 := hide (HG.out.put (m := ⟨mb, es⟩) HSE.out hx)
      rw [← HTK.out] at HG2
      have HRW2 := hide hrow
      have HB2 := hide (HB1.out.trans hb2)
      obtain ⟨n2, hn2⟩ : ∃ n2, n2 = (l ++ xs).length := ⟨_, rfl⟩
      rw [← hn2]
      have HN2 := hide hn2
      clear hx hrow hb2 hn2 HCA CK
      go_wp2
      go_roundw
      case rel => exact ⟨j + 1, l ++ xs, a2, c2, n2, by omega, by simp, rfl, HN2, HG2, HRW2, HB2⟩
      case measure => simp [intOf]; omega
    · have CS := ssort_any wr w.heap.size HB.out.size va vc l (by omega) HRW.out
      rw [← HNK.out] at CS
      have hG := HG.out
      rw [List.take_of_length_le (by have := HN.out; omega)] at hG
      have HG2 := hide hG
      clear hG HG HRW
      go_wp2_with fail
      refine CS.mono ?_
      rintro e w1 ⟨rfl, hrow, hb1⟩
      have hz : ((l.map toL).mergeSort fun x y => decide (x ≤ y)).length = l.length := by rw [List.length_mergeSort, List.length_map]
      have CC := scompact_any w1 w.heap.size (Nat.le_trans HB.out.size hb1.size) va vc l _ hz (by omega) hrow
      rw [← HNK.out] at CC
      have HB1 := hide (HB.out.trans hb1)
      clear hrow hb1 hz CS
      go_wp2_with fail
      refine CC.mono ?_
      rintro e w2 ⟨rfl, hrow, hb2⟩
      have hu : (Lib.compact ((l.map toL).mergeSort fun x y => decide (x ≤ y))).length = (uniqB l).length := by unfold uniqB; rw [List.length_map]
      have HF : Hid (DKeP (fun ks => KsS ks (keysL ms)) w (.returned (.slice va (Lib.compact ((l.map toL).mergeSort fun x y => decide (x ≤ y))).length vc)) w2) := by
        have h1 := uniqB_ok l
        refine hide ⟨uniqB l, va, vc, by rw [hu], ⟨h1.rise, fun k => (h1.mem k).trans (HG2.out.mem k), Nat.le_trans h1.len HG2.out.len⟩, ?_, HB1.out.trans hb2⟩
        rw [hu] at hrow
        exact hrow
      clear hu hrow hb2 CC
      generalize (Lib.compact ((l.map toL).mergeSort fun x y => decide (x ≤ y))).length = m at *
      go_wp2
      go_ret
      exact HF.out
end Go.Proofs.Ytoneedobhopkkaa
