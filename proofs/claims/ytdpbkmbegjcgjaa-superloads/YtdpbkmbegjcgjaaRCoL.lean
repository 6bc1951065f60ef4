/- Rows of the document's device that are copied, and their types, over the translation. -/
import Derived.Test.YtdpbkmbegjcgjaaRWr
namespace Go.Proofs.Ytdpbkmbegjcgjaa
open Go.RowKit Apo
attribute [local go_sem ↓] Apo.app_exec

theorem info_bs : (Try.prog.info? 26).map (fun i => (i.zero, i.size, i.bytes)) = some (some (.slice none 0 0), 1, 24) := by kernel_rfl
theorem info_bl : (Try.prog.info? 4).map (fun i => (i.zero, i.size, i.bytes)) = some (some (.bool false), 1, 1) := by kernel_rfl

/-- 'append(nil, v...)' of an own row: a new row of the same cells, or nil -/
theorem row_clone {O : Nat → Prop} {w : World} {e t : TypeId} {i : TypeInfo} {z : Value} {size bytes n : Nat} {a : Option Addr} {cap : Nat} {xs : List Value} (h : Row O w e size (.slice a n cap) n xs) (h1 : ∀ u ∈ xs, u.oneCell' = true)
    (ht : Try.prog.underlying t = some (.slice e)) (hi : Try.prog.info? e = some i) (hz : i.zero = some z) (hsize : i.size = size) (hby : i.bytes = bytes) (hzs : z.cells.size = size) (hsz : 0 < size) (h63 : n ≤ maxLen) (hb : n * bytes ≤ 140737488355328) :
    ∃ a' cap' w', (Builtin.append_ #[t, t] t #[.slice none 0 0, .slice a n cap]).run Try.prog w = .ok (.slice a' n cap') w' ∧ w'.ownsRow w.heap.size e size (.slice a' n cap') n xs ∧ Onl (fun _ => False) w w' := by
  rcases h.1.2 with ⟨hv, hn⟩ | ⟨g, cap0, cur, hv, hg0, hgg, hnc, hcm, hcs, htake⟩
  · cases hv
    have hx : xs = [] := List.eq_nil_of_length_eq_zero (by have := h.len; omega)
    subst hx
    have hrun := run_append_owned_none (P := Try.prog) (w := w) w.heap.size t t e i size ht hi (.slice none 0 0) 0 [] (World.ownsRow_nil w _ e size)
    exact ⟨none, 0, w, hrun, World.ownsRow_nil w _ e size, Onl.refl _ _⟩
  · cases hv
    obtain ⟨v', w', q1, q2, q3, _⟩ := run_append_own (P := Try.prog) w w.heap.size t t e i z size bytes ht hi hz hsize hby hzs hsz (.slice none 0 0) 0 [] (World.ownsRow_nil w _ e size) ⟨g, 0, none⟩ n cap xs h.len (h.1.cells (g := g) rfl) h1 (by omega) (by rw [Nat.zero_add]; exact hb) (Nat.le_refl _)
    rw [Nat.zero_add, List.nil_append] at q2
    obtain ⟨a', cap', hv', _⟩ : ∃ a cap, v' = .slice a n cap ∧ True := by
      rcases q2.2 with ⟨rfl, hz⟩ | ⟨g, cap, cur, rfl, _⟩
      · exact ⟨none, 0, by rw [hz], trivial⟩
      · exact ⟨_, cap, rfl, trivial⟩
    subst hv'
    exact ⟨a', cap', w', q1, q2, (Onl.refl _ _).grown q3 (by simp [Value.ownBlock])⟩

theorem byts_one {O : Nat → Prop} {w : World} {e : TypeId} {vs : List Value} {rs : List (List Int)} (h : Byts O e w vs rs) : ∀ u ∈ vs, u.oneCell' = true := by
  intro u hu
  obtain ⟨i, hi, rfl⟩ := List.mem_iff_getElem.1 hu
  have hl := h.1
  have := h.2 i _ _ (List.getElem?_eq_getElem hi) (List.getElem?_eq_getElem (by omega))
  obtain ⟨g, cap, e, _⟩ := this.shape (by decide)
  rw [e]
  simp [Value.oneCell']
theorem ccells_one : ∀ {c : List (Nat × List Int)} {vs : List Value}, (∀ u ∈ vs, u.oneCell' = true) → ∀ u ∈ ccells c vs, u.oneCell' = true
  | [], _, _, u, hu => by simp [ccells] at hu
  | _ :: _, [], _, u, hu => by simp [ccells] at hu
  | x :: c, v :: vs, h, u, hu => by
    simp only [ccells, List.mem_cons] at hu
    rcases hu with rfl | rfl | hu
    · simp [Value.oneCell']
    · exact h _ (by simp)
    · exact ccells_one (fun q hq => h q (by simp [hq])) u hu

/-- a slice of the new device is filled with a copy of a row -/
theorem fill {O : Nat → Prop} {w W : World} {q : Nat} {cs : List Value} (hO : Onl (fun _ => False) w W) (hq : w.heap.size ≤ q) (hob : Ob W q 76 cs) {e t : TypeId} {i : TypeInfo} {z : Value} {size bytes n : Nat} {a : Option Addr} {cap : Nat} {xs : List Value} (h : Row O W e size (.slice a n cap) n xs) (h1 : ∀ u ∈ xs, u.oneCell' = true)
    (ht : Try.prog.underlying t = some (.slice e)) (hi : Try.prog.info? e = some i) (hz : i.zero = some z) (hsize : i.size = size) (hby : i.bytes = bytes) (hzs : z.cells.size = size) (hsz : 0 < size) (h63 : n ≤ maxLen) (hb : n * bytes ≤ 140737488355328) (j : Nat) (he : e ≠ 76) :
    ∃ a' cap' w', (Builtin.append_ #[t, t] t #[.slice none 0 0, .slice a n cap]).run Try.prog W.drew = .ok (.slice a' n cap') w' ∧ w'.cell? ⟨q, j, none⟩ = cs[j]? ∧ w'.frozen? ⟨q, j, none⟩ = false ∧ Ob (w'.setCell ⟨q, j, none⟩ (.slice a' n cap')) q 76 (cs.set j (.slice a' n cap')) ∧
      Onl (fun _ => False) w (w'.setCell ⟨q, j, none⟩ (.slice a' n cap')) ∧ Row (fun k => w.heap.size ≤ k ∧ k < (w'.setCell ⟨q, j, none⟩ (.slice a' n cap')).heap.size) (w'.setCell ⟨q, j, none⟩ (.slice a' n cap')) e size (.slice a' n cap') n xs ∧ Onl (fun k => k = q) W (w'.setCell ⟨q, j, none⟩ (.slice a' n cap')) := by
  obtain ⟨a', cap', w', R, own, o⟩ := row_clone (w := W.drew) h h1 ht hi hz hsize hby hzs hsz h63 hb
  have o' : Onl (fun _ => False) W w' := (Onl.refl _ W).drew.trans o
  have ob' := hob.onl o' id
  have hs : (w'.setCell ⟨q, j, none⟩ (.slice a' n cap')).heap.size = w'.heap.size := by simp [World.setCell]
  have row1 : Row (fun k => w.heap.size ≤ k ∧ k < (w'.setCell ⟨q, j, none⟩ (.slice a' n cap')).heap.size) w' e size (.slice a' n cap') n xs := ⟨own.mono (Nat.zero_le _), fun g hg => ⟨Nat.le_trans hO.size (own.lt g hg).1, by rw [hs]; exact (own.lt g hg).2⟩⟩
  have o1 : Onl (fun k => k = q) w' (w'.setCell ⟨q, j, none⟩ (.slice a' n cap')) := Onl.set (O := fun k => k = q) (Onl.refl _ w') (.inl rfl) _
  exact ⟨a', cap', w', R, ob'.cell j, ob'.frozen j, ob'.set j _, (hO.trans o').set (.inr hq) _, row1.onl o1 (fun g hg e1 => row1.apartOb ob' he (by rw [hg, e1])), (o'.mono (fun _ q => q.elim)).trans o1⟩
end Go.Proofs.Ytdpbkmbegjcgjaa
