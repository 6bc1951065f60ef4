/- What law 14's walks hold: the commits that came in, and where they are read. -/
import Derived.Test.YtapomhpahdmekaaOLw
import Derived.Test.YtapomhpahdmekaaOIn
import Derived.Test.YtapomhpahdmekaaOSm
namespace Go.Proofs.Ytapomhpahdmekaa
open Go.RowKit Apo
/-- one commit that came in, its box at q -/
structure Am (w W : World) (q : Nat) (c : Cm) (a : Option Addr) (cap : Nat) : Prop where
  b : Below w.heap.size w W
  k : Ob W q 25 [.int .u64 c.id, .slice a c.ps.length cap, .int .u64 c.gen, .int .u64 c.root, .string c.tx]
  r : CmR w c a cap
theorem Am.old {w W W' : World} {q : Nat} {c : Cm} {a : Option Addr} {cap : Nat} (h : Am w W q c a cap) (b : Below W.heap.size W W') : Am w W' q c a cap := ⟨h.b.trans (b.mono h.b.size), h.k.old b, h.r⟩
theorem Am.cm {w W : World} {q : Nat} {c : Cm} {a : Option Addr} {cap : Nat} (h : Am w W q c a cap) : CmR W c a cap := h.r.below h.b
theorem Am.cells {w W : World} {q : Nat} {c : Cm} {a : Option Addr} {cap : Nat} (h : Am w W q c a cap) : W.cell? ⟨q, 0, none⟩ = some (.int .u64 c.id) ∧ W.cell? ⟨q, 1, none⟩ = some (.slice a c.ps.length cap) ∧ W.cell? ⟨q, 2, none⟩ = some (.int .u64 c.gen) ∧ W.cell? ⟨q, 3, none⟩ = some (.int .u64 c.root) ∧ W.cell? ⟨q, 4, none⟩ = some (.string c.tx) := ⟨h.k.cell 0, h.k.cell 1, h.k.cell 2, h.k.cell 3, h.k.cell 4⟩
/-- bytes that stand in a row -/
def Bt (W : World) (v : Value) (l : List Int) : Prop := ∃ a n c, v = .slice a n c ∧ n = l.length ∧ Rd .u8 W a l ∧ (a = none → c = 0) ∧ l.length ≤ c
theorem Bt.old {W W' : World} {v : Value} {l : List Int} (h : Bt W v l) (b : Below W.heap.size W W') : Bt W' v l := by
  obtain ⟨a, n, c, h1, h2, h3, h4, h5⟩ := h
  exact ⟨a, n, c, h1, h2, h3.below b, h4, h5⟩
theorem Bt.own {W : World} {B : Nat} {v : Value} {l : List Int} (h : W.ownsRow B 5 1 v l.length (l.map (Value.int .u8))) : Bt W v l := by
  obtain ⟨a, c, hv, h1, h2⟩ := own_form h
  subst hv
  exact ⟨a, _, c, rfl, rfl, (Rd.own h).1, h2, h1⟩
theorem cmB_inB {c : Cm} (h : c.Sz) (he : cmE c = 0) : InB (cmB c) := by
  obtain ⟨_, h2, h3⟩ := cmE_ok he
  have h4 := txtOk_size h3
  obtain ⟨⟨a0, a1⟩, ap, ⟨g0, g1⟩, ⟨r0, r1⟩⟩ := h
  unfold cmB
  intro z hz
  simp only [List.mem_append] at hz
  rcases hz with hz | hz | hz | hz | hz | hz | hz
  · exact enc_byte (by unfold top; omega) z hz
  · exact enc_byte (by unfold top; omega) z hz
  · unfold psB at hz
    obtain ⟨y, hy, hz⟩ := List.mem_flatMap.1 hz
    have := ap y hy
    exact enc_byte (by unfold top; omega) z hz
  · exact enc_byte (by unfold top; omega) z hz
  · exact enc_byte (by unfold top; omega) z hz
  · exact enc_byte (by unfold top; omega) z hz
  · exact nums_byte c.tx z hz
end Go.Proofs.Ytapomhpahdmekaa
