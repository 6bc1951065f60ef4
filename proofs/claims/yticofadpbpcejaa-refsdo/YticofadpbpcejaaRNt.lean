/- The document's NewTable. Over the translation. -/
import Derived.Test.YticofadpbpcejaaRPu
namespace Go.Proofs.Yticofadpbpcejaa
open Go.RowKit Apo
def newL (l : List Rf) : List Rf := l.foldl makeL []
theorem newL_step {l : List Rf} {k : Nat} {x : Rf} (h : l[k]? = some x) : newL (l.take (k + 1)) = makeL (newL (l.take k)) x := by
  unfold newL
  rw [List.take_add_one, h, List.foldl_append]
  rfl
theorem Rok.foldl (l : List Rf) : ∀ {M : List Rf}, Rok M → Rok (l.foldl makeL M) := by
  induction l with
  | nil => exact fun h => h
  | cons x l ih => exact fun h => ih (h.make x)
theorem Rok.new (l : List Rf) : Rok (newL l) := Rok.nil.foldl l
theorem TbR.mono {O O' : Nat → Prop} {w : World} {p : Nat} {L : List Rf} (h : TbR O w p L) (hO : ∀ g, O g → O' g) (hl : ∀ k, O' k → k < w.heap.size) : TbR O' w p L := by
  obtain ⟨a, n, cap, h1, h2⟩ := h.mem
  exact ⟨hO p h.op, hl, ⟨a, n, cap, h1, h2.mono (fun g hg _ => ⟨hO g hg.1, hg.2⟩)⟩, h.len⟩
/-- the blocks from B on -/
def Frm (B : Nat) (w : World) (g : Nat) : Prop := B ≤ g ∧ g < w.heap.size
theorem new_tab (w : World) : TbR (Frm w.heap.size (w.alloc (.cells #[.slice none 0 0] 46))) (w.alloc (.cells #[.slice none 0 0] 46)) w.heap.size [] := by
  refine ⟨⟨Nat.le_refl _, by simp⟩, fun k hk => hk.2, ⟨none, 0, 0, Ob.new w [.slice none 0 0] _, ⟨rfl, Nat.le_refl _, by unfold maxLen; omega, fun _ => rfl, fun ad e => by cases e⟩⟩, by decide⟩
theorem new_more {B p : Nat} {w w1 w2 : World} {L : List Rf} {x : Rf} {e : Ending} (b : Below B w w1) (hB : B ≤ w.heap.size) (h : MkR (Frm B w1) w1 p L x e w2) : TbR (Frm B w2) w2 p (makeL L x) ∧ Below B w w2 := by
  obtain ⟨_, h2, h3⟩ := h
  have hs := h3.size
  refine ⟨h2.mono (fun g hg => ?_) (fun k hk => hk.2), Below.onl b h3 (fun i q => q.1) hB⟩
  rcases hg with q | q
  · exact ⟨q.1, by have := q.2; omega⟩
  · exact ⟨by have := b.size; omega, q.2⟩
set_option maxRecDepth 100000 in
set_option maxHeartbeats 4000000 in
theorem rnew_tab {w : World} {a : Option Addr} {cap : Nat} {l : List Rf} (rd : RdG cRf 3 w a l) (hl : l.length ≤ 1000000) (hn : ∀ x ∈ l, x.n.size ≤ 9223372036854775807) :
    Calls Try.prog 9 #[.slice a l.length cap] w fun e w' => e = .returned (.pointer (some ⟨w.heap.size, 0, none⟩)) ∧ TbR (Frm w.heap.size w') w' w.heap.size (newL l) ∧ Below w.heap.size w w' := by
  have HR := hide rd
  have HN := hide hn
  have b0 := (Below.refl w.heap.size w).alloc (Nat.le_refl _) (.cells #[.slice none 0 0] 46)
  have HB0 := hide b0
  have HT := hide (new_tab w)
  clear rd hn b0
  go_enter Try.func9, Try.ntmps9
  go_wp2
  go_loopw [10] (fun i wr => ∃ k : Nat, k ≤ l.length ∧ i = .int .i64 k ∧ Hid (TbR (Frm w.heap.size wr) wr w.heap.size (newL (l.take k))) ∧ Hid (Below w.heap.size w wr)) (fun i _ => l.length - (intOf i).toNat)
  case atStart => exact ⟨0, Nat.zero_le _, rfl, HT, HB0⟩
  case round =>
    obtain ⟨k, hk, rfl, HG, HB⟩ := hrel
    by_cases hlt : k < l.length
    · obtain ⟨x, hx⟩ : ∃ x, l[k]? = some x := ⟨l[k], List.getElem?_eq_getElem _⟩
      obtain ⟨g, o, rfl, q0, q1, q2⟩ := rd_rf (HR.out.below HB.out) hx
      have HX := hide hx
      have bA := (Below.refl wr.heap.size wr).alloc (Nat.le_refl _) (.cells #[.string x.n, .bool x.t, .int .u64 x.i] 32)
      have HBA := hide (HB.out.trans (bA.mono HB.out.size))
      have hxn := HN.out x (List.mem_of_getElem? hx)
      have hT1 : TbR (Frm w.heap.size (wr.alloc (.cells #[.string x.n, .bool x.t, .int .u64 x.i] 32))) (wr.alloc (.cells #[.string x.n, .bool x.t, .int .u64 x.i] 32)) w.heap.size (newL (l.take k)) :=
        (HG.out.old bA).mono (fun g hg => ⟨hg.1, Nat.lt_of_lt_of_le hg.2 bA.size⟩) (fun k hk => hk.2)
      have HC := hide (rmake_any hT1 x hxn)
      clear hx bA hxn hT1
      go_wp2_with fail
      refine HC.out.mono ?_
      rintro e w2 hm
      obtain ⟨h1, h2⟩ := new_more HBA.out (Nat.le_refl _) hm
      rw [← newL_step HX.out] at h1
      have H1 := hide h1
      have H2 := hide h2
      obtain ⟨rfl, _⟩ := hm
      clear h1 h2
      go_wp2
      go_roundw
      case rel => exact ⟨k + 1, by omega, by go_num, H1, H2⟩
      case measure => simp [intOf]; omega
    · have hE : Hid (l.take k = l) := hide (List.take_of_length_le (by omega))
      have HF : Hid (TbR (Frm w.heap.size wr) wr w.heap.size (newL l)) := by
        have := HG.out
        rw [hE.out] at this
        exact this
      go_wp2
      go_ret
      exact ⟨rfl, HF.out, HB.out⟩
end Go.Proofs.Yticofadpbpcejaa
