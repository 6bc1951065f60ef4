/- The program's All: the refs, as they are when it is called. Over the translation. -/
import Derived.Test.YticofadpbpcejaaRSk
namespace Go.Proofs.Yticofadpbpcejaa
open Go.RowKit Go.Shelf Apo
/-- a table by its pointer, nil too -/
structure Tv (w : World) (v : Value) (m : Option Nat) (L : List Rf) : Prop where
  refs : ∀ W, Below w.heap.size w W → Calls Try.prog 24 #[v] W fun e w' => e = .returned (.map m) ∧ W = w'
  ms : MsO w m L
  ok : Nok L
theorem Tp.v {w : World} {p b : Nat} {L : List Rf} (h : Tp w p b L) : Tv w (.pointer (some ⟨p, 0, none⟩)) (some b) L := ⟨fun _ b => refs_any (h.old b), h.ms, h.ok⟩
theorem tv_nil (w : World) : Tv w (.pointer none) none [] := ⟨fun W _ => refs_nil W, rfl, Nok.nil⟩
/-- what All hands out -/
def AlP (L : List Rf) (w : World) (e : Ending) (w' : World) : Prop :=
  ∃ (a : Option Addr) (n c Bs : Nat), e = .returned (.func (.func 35) #[] #[.pointer (some ⟨Bs, 0, none⟩)]) ∧ n = L.length ∧ w.heap.size ≤ Bs ∧ Ob w' Bs 22 [.slice a n c] ∧ Row (fun g => w.heap.size ≤ g) w' 32 3 (.slice a n c) L.length (gcells cRf L) ∧ Below w.heap.size w w'
set_option maxHeartbeats 1000000 in
theorem values_any (a : Option Addr) (n c : Nat) (w : World) : Calls Try.prog 31 #[.slice a n c] w fun e w' => e = .returned (.func (.func 35) #[] #[.pointer (some ⟨w.heap.size, 0, none⟩)]) ∧ w' = w.alloc (.cells #[.slice a n c] 22) := by
  go_enter Try.func31, Try.ntmps31
  go_wp2
  go_ret
  exact ⟨rfl, rfl⟩
/-- one ref more, out of the map -/
theorem all_more {w wr : World} {L : List Rf} {k : Nat} {x : Rf} {va : Option Addr} {n vc : Nat} (hx : L[k]? = some x) (hl : L.length ≤ 40) (hr : Row (fun g => w.heap.size ≤ g) wr 32 3 (.slice va n vc) (L.take k).length (gcells cRf (L.take k))) (hB : Below w.heap.size w wr) :
    ∃ a2 n2 c2 w2, (Builtin.append_ #[22, 22] 22 #[.slice va n vc, .slice (some ⟨wr.heap.size, 0, none⟩) 1 1]).run Try.prog (wr.alloc (.cells #[.string x.n, .bool x.t, .int .u64 x.i] 32)) = .ok (.slice a2 n2 c2) w2 ∧ n2 = (L.take (k + 1)).length ∧
      Row (fun g => w.heap.size ≤ g) w2 32 3 (.slice a2 n2 c2) (L.take (k + 1)).length (gcells cRf (L.take (k + 1))) ∧ Below w.heap.size w w2 ∧ Onl (fun g => w.heap.size ≤ g) wr w2 := by
  have htk : L.take (k + 1) = L.take k ++ [x] := by rw [List.take_add_one, hx]; rfl
  have bA : Below wr.heap.size wr (wr.alloc (.cells #[.string x.n, .bool x.t, .int .u64 x.i] 32)) := (Below.refl _ _).alloc (Nat.le_refl _) _
  have hrA := hr.onl (F := fun _ => False) (Onl.ofBelow bA) (fun _ _ q => q)
  obtain ⟨v2, w2, R, r2, o2, _⟩ := app_rf (cp := 1) (xs := [x]) hrA (by simp; omega) (rd_lit (c := cRf) (k := 3) 32 wr x)
  rw [← htk] at r2
  obtain ⟨a2, c2, rfl, _⟩ := r2.form
  refine ⟨a2, _, c2, w2, R, rfl, r2.mono (fun g hg => ?_), ?_, ?_⟩
  · rcases hg with q | q
    · exact q
    · rw [q]; exact Nat.le_trans hB.size bA.size
  · exact Below.onl (hB.trans (bA.mono hB.size)) o2 (fun i q => hr.2 i q) (Nat.le_refl _)
  · exact (Onl.ofBelow bA).trans (o2.mono (fun i q => hr.2 i q))
theorem mso_look {w : World} {m : Option Nat} {L : List Rf} (h : MsO w m L) (hL : Nok L) {k : Nat} {x : Rf} (hx : L[k]? = some x) :
    (Instr.lookup 54 (.map m) (.string x.n) false).run Try.prog w = .ok (.agg #[.string x.n, .bool x.t, .int .u64 x.i]) w := by
  have hm := List.mem_of_getElem? hx
  cases m with
  | none =>
    have : L = [] := h
    rw [this] at hm
    cases hm
  | some b =>
    have hs := nameM_size (hL.nm x hm)
    have := mr_look (L := L) h (s := x.n) (by unfold maxLen; omega)
    rw [(getR_mem hL.ok).2 ⟨hm, rfl⟩] at this
    exact this
attribute [local go_sem ↓] Apo.app_exec
set_option maxRecDepth 100000 in
set_option maxHeartbeats 4000000 in
theorem all_any {w : World} {v : Value} {m : Option Nat} {L : List Rf} (h : Tv w v m L) :
    Calls Try.prog 26 #[v] w (AlP L w) := by
  have HC := hide (h.refs w (Below.refl _ _))
  have hl := h.ok.ok.len
  have bK : Below w.heap.size w (w.alloc (.cells #[.map m] 54)) := (Below.refl _ w).alloc (Nat.le_refl _) _
  have HS := hide (sorted_any h.ok (h.ms.old bK) w.heap.size (by simp) (by simp))
  have HBK := hide bK
  have HM := hide h.ms
  have HOK := hide h.ok
  have HCK := hide (mkeys_any m w)
  clear h bK
  go_enter Try.func26, Try.ntmps26
  go_wp2_with fail
  refine HC.out.mono ?_
  rintro e w1 ⟨rfl, rfl⟩
  go_wp2_with fail
  refine HCK.out.mono ?_
  rintro e w1 ⟨rfl, rfl⟩
  go_wp2_with fail
  refine HS.out.mono ?_
  rintro e w1 ⟨na, nn, nc, xs, rfl, hn, rfl, nr, nb⟩
  rw [List.length_map] at hn
  obtain ⟨na', nc', hv, hrd, _⟩ := rd_gcells (c := cTx) (k := 1) (by simp [cTx]) nr
  injection hv with e1 e2 e3
  subst e1
  have HRD := hide hrd
  have HB1 := hide (HBK.out.trans (nb.mono HBK.out.size))
  have HM1 := hide (HM.out.old HB1.out)
  have hnn : nn ≤ 40 := by omega
  have HN := hide hn
  clear nr hn nb HS HC HCK HBK HM hrd e2 e3
  go_wp2
  go_loopw [4, 13] (fun v i wr => ∃ (k n c : Nat) (a : Option Addr), k ≤ nn ∧ i = .int .i64 k ∧ v = .slice a n c ∧ Hid (n = (L.take k).length) ∧ Hid (Row (fun g => w1.heap.size ≤ g) wr 32 3 (.slice a n c) (L.take k).length (gcells cRf (L.take k))) ∧ Hid (Below w1.heap.size w1 wr)) (fun _ i _ => nn - (intOf i).toNat)
  case atStart => exact ⟨0, 0, 0, none, Nat.zero_le _, rfl, rfl, hide (by simp), hide (Row.nil _ _ _ _), hide (Below.refl _ _)⟩
  case round =>
    obtain ⟨k, n, c, a, hk, rfl, rfl, HNN, HR, HB⟩ := hrel
    by_cases hlt : k < nn
    · obtain ⟨x, hx⟩ : ∃ x, L[k]? = some x := ⟨L[k]'(by have := HN.out; omega), List.getElem?_eq_getElem _⟩
      obtain ⟨g, o, rfl, q0⟩ := (HRD.out.below HB.out).tx (i := k) (x := x.n) (by rw [List.getElem?_map, hx]; rfl)
      have hlk := mso_look (HM1.out.old HB.out) HOK.out hx
      obtain ⟨a2, n2, c2, w2, R2, hn2, r2, b2, _⟩ := all_more hx hl HR.out HB.out
      obtain ⟨z1, z2, z3⟩ := app_runs R2
      have HN2 := hide hn2
      have HR2 := hide r2
      have HB2 := hide b2
      clear hx R2 hn2 r2 b2
      go_wp2
      go_roundw
      case rel => exact ⟨k + 1, n2, c2, a2, by omega, by simp, rfl, HN2, HR2, HB2⟩
      case measure => simp [intOf]; omega
    · have hkn : k = L.length := by have := HN.out; omega
      have htk : L.take k = L := List.take_of_length_le (by omega)
      have hr := HR.out
      have hn := HNN.out
      rw [htk] at hr hn
      have HF : Hid (AlP L w (.returned (.func (.func 35) #[] #[.pointer (some ⟨wr.heap.size, 0, none⟩)])) (wr.alloc (.cells #[.slice a n c] 22))) := by
        have hw := HB.out.size
        have hw1 := HB1.out.size
        have bB : Below wr.heap.size wr (wr.alloc (.cells #[.slice a n c] 22)) := (Below.refl _ _).alloc (Nat.le_refl _) _
        exact hide ⟨a, n, c, wr.heap.size, rfl, hn, by omega, Ob.new wr [.slice a n c] 22, (hr.mono (fun g hg => Nat.le_trans hw1 hg)).onl (F := fun _ => False) (Onl.ofBelow bB) (fun _ _ q => q), (HB1.out.trans (HB.out.mono hw1)).trans (bB.mono (by omega))⟩
      clear htk hr hn hkn
      go_wp2_with fail
      refine (values_any _ _ _ _).mono ?_
      rintro e w2 ⟨rfl, rfl⟩
      go_wp2
      go_ret
      exact HF.out
end Go.Proofs.Yticofadpbpcejaa
