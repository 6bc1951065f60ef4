/- A table's names, sorted: slices.Sorted of maps.Keys. Over the translation. -/
import Derived.Test.YticofadpbpcejaaRSo
import Derived.Test.YticofadpbpcejaaRFd
import Derived.Laws.IdiomRangeMap
namespace Go.Proofs.Yticofadpbpcejaa
open Go.RowKit Go.Maps Go.Shelf Apo
/-- a map of the refs L, or nil -/
def MsO (w : World) (m : Option Nat) (L : List Rf) : Prop := match m with
  | none => L = []
  | some b => Ms Try.prog 9 w b L.length (mR L)
theorem MsO.old {w w' : World} {m : Option Nat} {L : List Rf} (h : MsO w m L) (o : Below w.heap.size w w') : MsO w' m L := by
  cases m with
  | none => exact h
  | some b => exact Ms.below h o
set_option maxRecDepth 100000 in
set_option maxHeartbeats 1000000 in
/-- maps.Keys' iterator over nil -/
theorem mkeys_nil (n : Nat) (Bm : Nat) (w : World) (hBm : Bm < w.heap.size) (hm : w.cell? ⟨Bm, 0, none⟩ = some (.map none)) :
    SeqStopsK Fence.wide n Try.prog 34 #[.pointer (some ⟨Bm, 0, none⟩)] (fun i => #[encS i]) KeepsWalks (KeysS (mR []) 0) (fun _ => True) 0 w := by
  intro l J Jx W hW hJ _ _ h0
  have hm2 : W.cell? ⟨Bm, 0, none⟩ = some (.map none) := (hW.cell (p := ⟨Bm, 0, none⟩) hBm).trans hm
  have hrg := run_range_nilMap (P := Try.prog) W 54 _ _ Try.underlying54
  have hnx : ∀ ty, (Instr.next (.pointer (some ⟨W.heap.size, 0, none⟩)) false ty).run Try.prog (W.alloc (.mapIter none 0 #[] 0)) = _ := fun ty => run_next_nilMap (P := Try.prog) W ty 0 0 #[]
  have HJ : Hid (J [] (W.alloc (.mapIter none 0 #[] 0))) := hJ [] W _ none h0 (grew_below none ((Below.refl _ W).alloc (Nat.le_refl _) _)) (fun r e => by cases e)
  have HK : Hid (KeysS (mR []) 0 []) := hide ⟨List.nodup_nil, by simp, fun s _ => by simp [mR, getR], by simp⟩
  clear hJ h0 hm hBm
  refine callsIn_of_wp Try.func34 rfl trivial ?_ rfl
  simp only [Try.ntmps34, List.size_toArray, List.length_cons, List.length_nil, Nat.reduceAdd, Nat.reduceSub, Array.replicate_succ, Array.replicate_zero, List.push_toArray, List.append_toArray, List.nil_append, List.cons_append]
  gi_wp2
  gi_loopw [3] (fun v wr => v = undef ∧ W.alloc (.mapIter none 0 #[] 0) = wr) (fun _ _ => 0)
  case atStart => exact ⟨rfl, rfl⟩
  case round =>
    obtain ⟨rfl, rfl⟩ := hrel
    gi_wp2
    go_end0
    exact ⟨⟨_, rfl⟩, .inl ⟨_, HK.out, HJ.out⟩⟩
theorem mkeysO {w : World} {m : Option Nat} {L : List Rf} (h : MsO w m L) (Bm : Nat) (hBm : Bm < w.heap.size) (hm : w.cell? ⟨Bm, 0, none⟩ = some (.map m)) :
    SeqStopsK Fence.wide 1 Try.prog 34 #[.pointer (some ⟨Bm, 0, none⟩)] (fun i => #[encS i]) KeepsWalks (KeysS (mR L) L.length) (fun _ => True) L.length w := by
  cases m with
  | some b => exact mkeys_stops 1 (Nat.le_refl _) Bm b L.length (mR L) w hBm hm h
  | none =>
    have hL : L = [] := h
    subst hL
    exact mkeys_nil 1 Bm w hBm hm
/-- a row of texts of the call's own -/
def TxP (S : List ByteArray → Prop) (w : World) (e : Ending) (w' : World) : Prop :=
  ∃ (a : Option Addr) (n c : Nat) (xs : List ByteArray), e = .returned (.slice a n c) ∧ n = xs.length ∧ S xs ∧ Row (fun g => w.heap.size ≤ g) w' 9 1 (.slice a n c) xs.length (gcells cTx xs) ∧ Below w.heap.size w w'
set_option maxHeartbeats 1000000 in
theorem collect_any {w : World} {gf : Nat} {lb : Array Value} (eg : ∀ args w, (callFunc gf args).run Try.prog w = .ok (.enter gf args) w) {S : List ByteArray → Prop} {N : Nat} (hN : N ≤ 1000000)
    (hseq : SeqStopsK Fence.wide 1 Try.prog gf lb (fun i => #[encS i]) KeepsWalks S (fun _ => True) N w) :
    Calls Try.prog 32 #[.func (.func gf) #[] lb] w (TxP S w) := by
  have CA := callsIn_wide.1 (sappend_in 2 (Nat.le_refl _) gf lb eg S N hN w w.heap.size (Nat.le_refl _) none 0 [] (by simp) (Row.nil _ _ _ _) hseq)
  have HCA := hide CA
  clear CA
  go_enter Try.func32, Try.ntmps32
  go_wp2_with fail
  refine HCA.out.mono ?_
  rintro e w' ⟨a, c, xs, rfl, h1, h2, h3⟩
  rw [List.nil_append] at h2
  obtain ⟨n, hn⟩ : ∃ n, n = xs.length := ⟨_, rfl⟩
  have HF : Hid (TxP S w (.returned (.slice a n c)) w') := hide ⟨a, n, c, xs, rfl, hn, h1, by rw [hn]; exact h2, h3⟩
  rw [List.nil_append, ← hn]
  clear h1 h2 h3 hn HCA
  go_wp2
  go_ret
  exact HF.out
set_option maxHeartbeats 1000000 in
/-- the names, rising -/
theorem sorted_any {w : World} {m : Option Nat} {L : List Rf} (hL : Nok L) (h : MsO w m L) (Bm : Nat) (hBm : Bm < w.heap.size) (hm : w.cell? ⟨Bm, 0, none⟩ = some (.map m)) :
    Calls Try.prog 29 #[.func (.func 34) #[] #[.pointer (some ⟨Bm, 0, none⟩)]] w (TxP (fun xs => xs = L.map Rf.n) w) := by
  have hlen := hL.ok.len
  have HC := hide (collect_any (enters_of Try.func34 (by kernel_rfl) rfl) (by omega) (mkeysO h Bm hBm hm))
  have HL := hide hL
  clear h hm hL
  go_enter Try.func29, Try.ntmps29
  go_wp2_with fail
  refine HC.out.mono ?_
  rintro e w1 ⟨a, n, c, xs, rfl, rfl, h1, h2, h3⟩
  have hxl : xs.length ≤ L.length := h1.2.2.2
  have HS := hide (ssort_any w1 w.heap.size h3.size a c xs (by omega) h2)
  have HK := hide (keys_names HL.out h1)
  have HB := hide h3
  obtain ⟨n, hn⟩ : ∃ n, n = xs.length := ⟨_, rfl⟩
  have HN := hide hn
  rw [← hn] at HS ⊢
  clear h1 h2 h3 HC hxl hn
  go_wp2_with fail
  refine HS.out.mono ?_
  rintro e w2 ⟨rfl, r2, b2⟩
  rw [HK.out] at r2
  have hnl : n = (L.map Rf.n).length := by
    rw [← HK.out, HN.out]
    simp
  have HF : Hid (TxP (fun xs => xs = L.map Rf.n) w (.returned (.slice a n c)) w2) := hide ⟨a, n, c, L.map Rf.n, rfl, hnl, rfl, by rw [← hnl, HN.out]; exact r2, HB.out.trans b2⟩
  clear r2 b2 HS hnl
  go_wp2
  go_ret
  exact HF.out
end Go.Proofs.Yticofadpbpcejaa
