/- Saves of a super as a walk meets them, and how many writes are cached behind them. -/
import Derived.Test.YtdpbkmbegjcgjaaCSa
namespace Go.Proofs.Ytdpbkmbegjcgjaa
open Go.RowKit Apo Go.Maps

theorem flushed_C (st : Sd) : st.flushed.2.C.length ≤ st.C.length := by
  unfold Sd.flushed
  split
  · simp
  · rw [acted_C]; simp
theorem wrote_C (st : Sd) (a : Int) (b : List Int) : (st.wrote a b).2.C.length ≤ st.C.length + 1 := by
  unfold Sd.wrote
  split
  · simp
  · split
    · split
      · simp
      · rw [acted_C]; simp
    · simp
theorem save_C (st : Sd) (s : Sup) : (st.save s).2.C.length ≤ st.C.length + 1 := by
  have h1 := flushed_C st
  have h2 := wrote_C st.flushed.2 ((s.e : Int) % 2) (superB s)
  have h3 := flushed_C (st.flushed.2.wrote ((s.e : Int) % 2) (superB s)).2
  unfold Sd.save
  split
  · split <;> omega
  · omega

theorem csave_agg {O : Nat → Prop} {w : World} {p : Nat} {st : Sd} (h : CDev O w p st) (hlt : ∀ i, O i → i < w.heap.size) (hc : st.C.length < 1099511627776) (s : Sup) (hs : s.Ok) :
    Calls Try.prog 16 #[.pointer (some ⟨p, 0, none⟩), .agg #[.int .u64 s.e, .int .u32 s.st, .int .u32 s.pg, .int .u32 s.sz]] w fun e w' => e = .returned (.int .i64 (st.save s).1) ∧ CDev (Gro O w w') w' p (st.save s).2 ∧ Onl O w w' := csave_any h hlt hc s hs
theorem rsave_agg {O : Nat → Prop} {w : World} {p : Nat} {st : Sd} (h : RDev O w p st) (hlt : ∀ i, O i → i < w.heap.size) (hc : st.C.length < 1099511627776) (s : Sup) (hs : s.Ok) :
    Calls Try.prog 17 #[.pointer (some ⟨p, 0, none⟩), .agg #[.int .u64 s.e, .int .u32 s.st, .int .u32 s.pg, .int .u32 s.sz]] w fun e w' => e = .returned (.int .i64 (st.save s).1) ∧ RDev (Gro O w w') w' p (st.save s).2 ∧ Onl O w w' := rsave_any h hlt hc s hs
theorem csave_z {O : Nat → Prop} {w : World} {p : Nat} {st : Sd} (h : CDev O w p st) (hlt : ∀ i, O i → i < w.heap.size) (hc : st.C.length < 1099511627776) (s : Sup) (hs : s.Ok) (z : Int) (hz : z = s.e) :
    Calls Try.prog 16 #[.pointer (some ⟨p, 0, none⟩), .agg #[.int .u64 z, .int .u32 s.st, .int .u32 s.pg, .int .u32 s.sz]] w fun e w' => e = .returned (.int .i64 (st.save s).1) ∧ CDev (Gro O w w') w' p (st.save s).2 ∧ Onl O w w' := by
  subst hz
  exact csave_agg h hlt hc s hs
end Go.Proofs.Ytdpbkmbegjcgjaa
