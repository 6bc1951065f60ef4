/- Reading a state, pure; text to bytes. Over the translation. -/
import Derived.Laws.IdiomStrings
import Derived.Test.YtgjhmpmjbedjoaaQSPu
import Derived.Test.YtgjhmpmjbedjoaaQCXo
namespace Go.Proofs.Ytgjhmpmjbedjoaa
open Go.RowKit Apo
abbrev fullS : Int := 18446744073709551615
noncomputable def rfS (st : St) : Rf × St := (⟨strOfNums (rtext st 20).1, (rflag (rtext st 20).2).1, (rnum (rflag (rtext st 20).2).2 fullS).1⟩, (rnum (rflag (rtext st 20).2).2 fullS).2)
noncomputable def mdS (st : St) : Mk × St := (⟨(rnum st fullS).1, (rnum (rnum st fullS).2 fullS).1⟩, (rnum (rnum st fullS).2 fullS).2)
def zeroSv : Sv := ⟨⟨#[]⟩, 0, 0, 0, [], [], []⟩
/-- what StateOf makes of what was read -/
noncomputable def finS (s : Sv) (ce : Int) (st : St) : Sv × Int := if ce = 0 ∧ st = some [] ∧ stateE s = 0 then (s, 0) else (zeroSv, 20)
noncomputable def ofS (b : List Int) : Sv × Int :=
  let a1 := rtext (some b) 20
  let a2 := rnum a1.2 fullS
  let a3 := rnum a2.2 fullS
  let a4 := rnum a3.2 fullS
  let a5 := rnum a4.2 40
  let a6 := eachK rfS a5.2 a5.1.toNat
  let a7 := rnum a6.2 200
  let a8 := eachK mdS a7.2 a7.1.toNat
  let a9 := rtext a8.2 1048576
  let cl := ofC (nums (strOfNums a9.1))
  finS ⟨strOfNums a1.1, a2.1, a3.1, a4.1, a6.1, a8.1, cl.1⟩ cl.2 a9.2
theorem finS_bad {s : Sv} {ce : Int} {st : St} (h : ¬ (ce = 0 ∧ st = some [] ∧ stateE s = 0)) : finS s ce st = (zeroSv, 20) := by unfold finS; rw [if_neg h]
theorem finS_ok {s : Sv} {ce : Int} {st : St} (h1 : ce = 0) (h2 : st = some []) (h3 : stateE s = 0) : finS s ce st = (s, 0) := by unfold finS; rw [if_pos ⟨h1, h2, h3⟩]
theorem rnum_bdS (st : St) {most : Int} (h : 0 ≤ most) : 0 ≤ (rnum st most).1 ∧ (rnum st most).1 ≤ most := by
  cases q : rnum st most with
  | mk n r =>
    cases r with
    | some r => exact rnum_le q
    | none =>
      have : n = 0 := by
        unfold rnum at q
        split at q
        · cases q; rfl
        · split at q
          · split at q
            · cases q
            · cases q; rfl
          · cases q; rfl
      subst this
      exact ⟨Int.le_refl _, h⟩
theorem rfS_size (st : St) : (rfS st).1.n.size ≤ 20 ∧ u64B (rfS st).1.i := by
  have h1 := rtext_le st 20 (by omega)
  have h2 := rnum_bdS (rflag (rtext st 20).2).2 (most := fullS) (by decide)
  unfold rfS u64B
  simp only
  rw [strOfNums_size]
  exact ⟨by omega, h2.1, h2.2⟩
theorem mdS_size (st : St) : u64B (mdS st).1.id ∧ u64B (mdS st).1.ch := by
  have h1 := rnum_bdS st (most := fullS) (by decide)
  have h2 := rnum_bdS (rnum st fullS).2 (most := fullS) (by decide)
  exact ⟨⟨h1.1, h1.2⟩, ⟨h2.1, h2.2⟩⟩
theorem eachK_all {α : Type} {f : St → α × St} {P : α → Prop} (h : ∀ st, P (f st).1) (st : St) : ∀ k, ∀ x ∈ (eachK f st k).1, P x
  | 0, x, hx => by simp [eachK] at hx
  | k + 1, x, hx => by
    simp only [eachK, List.mem_append, List.mem_singleton] at hx
    rcases hx with hx | hx
    · exact eachK_all h st k x hx
    · rw [hx]; exact h _
theorem ofC_sz (b : List Int) : ClsSz (ofC b).1 ∧ (ofC b).1.length ≤ 1000 := by
  unfold ofC
  split
  · exact ⟨rawC_sz b, rawC_len b⟩
  · exact ⟨fun f hf => by simp at hf, by simp⟩
theorem grown_onl {w w' : World} {p : Nat} (g : w.grownBy w' (some p)) : Onl (fun i => i = p) w w' := (Onl.refl _ _).grown g (fun j hj => .inl (by cases hj; rfl))
/-- a text as bytes of its own -/
theorem conv_bytes (s : ByteArray) (w : World) : ∃ cap w', (convert 9 30 (.string s)).run Try.prog w = .ok (.slice (some ⟨w.heap.size, 0, none⟩) s.size cap) w' ∧ Rd .u8 w' (some ⟨w.heap.size, 0, none⟩) (nums s) ∧ s.size ≤ cap ∧ Below w.heap.size w w' := by
  refine ⟨_, _, run_bytes_of_string (P := Try.prog) w 9 30 5 s Try.underlying9 Try.underlying30 Try.underlying5, ?_, grownCap_ge _ _ _ _, (Below.refl w.heap.size w).drew.alloc (Nat.le_refl _) _⟩
  intro i hi
  have hi2 : i < s.data.size := by rw [nums_length] at hi; exact hi
  refine ⟨w.heap.size, 0, rfl, ?_⟩
  have := bytesRow_at s (grownCap w s.size 0 5) i hi2
  have hh : ∀ (C : Array Value) (e : TypeId) (f : Nat × Nat), (w.drew.alloc (.cells C e f)).cell? ⟨w.heap.size, 0 + i, none⟩ = C[i]? := fun C e f => by
    have h1 : (w.drew.alloc (.cells C e f)).heap[w.heap.size]? = some (.cells C e f) := by
      show (w.heap.push (.cells C e f))[w.heap.size]? = _
      simp
    unfold World.cell?
    rw [h1]
    simp
  rw [hh, this]
  simp [nums, Array.getElem?_eq_getElem hi2]
end Go.Proofs.Ytgjhmpmjbedjoaa
