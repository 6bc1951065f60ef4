/- Fields that are put are told again; unlike ones have unlike bytes: the reasoning, without a walk. -/
import Derived.Test.YtilklonjacjgbaaPOf
import Derived.Test.YtilklonjacjgbaaOwn
namespace Go.Proofs.Ytilklonjacjgbaa
open Go.RowKit Apo

/-- a field of a known kind -/
def Known (f : Fld) : Prop := f.k = 1 ∨ f.k = 2 ∨ f.k = 3

theorem rnum_yes {n : Nat} {r : List Int} {most : Int} (hn : n < top) (hm : (n : Int) ≤ most) : rnum (some (enc n ++ r)) most = ((n : Int), some r) := by
  simp [rnum, num1_yes hn rfl, hm]

theorem rfield_back {f : Fld} {r : List Int} (hk : Known f) (hok : OkF f) (hs : f.s.size ≤ 131072) : rfield f.k (some (fenc f ++ r)) = (ownF f, some r) := by
  obtain ⟨k, n, s, b⟩ := f
  obtain ⟨_, _, h3, h4⟩ := hok
  simp only [] at h3 h4 hs
  rcases hk with rfl | rfl | rfl
  · have e : fenc ⟨1, n, s, b⟩ = enc n.toNat := by simp [fenc]
    have hn : n.toNat < top := by unfold top; omega
    rw [e]
    simp only [rfield, if_pos, rnum_yes (most := 18446744073709551615) hn (by omega)]
    simp [ownF]
    omega
  · have e : fenc ⟨2, n, s, b⟩ ++ r = enc s.size ++ (nums s ++ r) := by simp [fenc]
    have hn : s.size < top := by unfold top; omega
    have hr := rnum_yes (most := 131072) (r := nums s ++ r) hn (by omega)
    have hl := nums_length s
    have ht : rtext (some (enc s.size ++ (nums s ++ r))) 131072 = (nums s, some r) := by
      simp only [rtext, hr]
      rw [if_neg (by omega), if_pos (by rw [List.length_append]; omega)]
      simp only [Int.toNat_natCast]
      rw [← hl, List.take_left, List.drop_left]
    rw [e]
    simp [rfield, ht, ownF, strOfNums_nums]
  · have e : fenc ⟨3, n, s, b⟩ = enc (if b then 1 else 0) := by
      cases b
      · rw [enc_lt (by simp)]; simp [fenc]
      · rw [enc_lt (by simp)]; simp [fenc]
    have hn : (if b then 1 else 0) < top := by unfold top; cases b <;> simp
    have hr := rnum_yes (most := 1) (r := r) hn (by cases b <;> simp)
    rw [e]
    simp only [rfield, rflag, hr]
    cases b <;> simp [ownF]

theorem ofF_back : ∀ {l : List Fld}, (∀ f ∈ l, Known f) → (∀ f ∈ l, OkF f) → (∀ f ∈ l, f.s.size ≤ 131072) → ofF (l.map (·.k)) (some (fencs l)) = some (l.map ownF)
  | [], _, _, _ => by simp [ofF, fencs]
  | f :: l, h1, h2, h3 => by
    have hf := rfield_back (r := fencs l) (h1 f (by simp)) (h2 f (by simp)) (h3 f (by simp))
    have ih := ofF_back (l := l) (fun g hg => h1 g (by simp [hg])) (fun g hg => h2 g (by simp [hg])) (fun g hg => h3 g (by simp [hg]))
    rw [List.map_cons, fencs, ofF_good hf, ih]
    rfl

theorem fenc_own (f : Fld) : fenc (ownF f) = fenc f := by
  obtain ⟨k, n, s, b⟩ := f
  by_cases k1 : k = 1
  · subst k1; simp [fenc, ownF]
  · by_cases k2 : k = 2
    · subst k2; simp [fenc, ownF]
    · by_cases k3 : k = 3
      · subst k3; simp [fenc, ownF]
      · simp [fenc, ownF, k1, k2, k3]
theorem fencs_own (l : List Fld) : fencs (l.map ownF) = fencs l := by
  induction l with
  | nil => rfl
  | cons f l ih => rw [List.map_cons, fencs, fencs, fenc_own, ih]

theorem fencs_iff {l m : List Fld} (hk : m.map (·.k) = l.map (·.k)) (h1 : ∀ f ∈ l, Known f) (h2 : ∀ f ∈ l, OkF f) (h3 : ∀ f ∈ l, f.s.size ≤ 131072) (g1 : ∀ f ∈ m, Known f) (g2 : ∀ f ∈ m, OkF f) (g3 : ∀ f ∈ m, f.s.size ≤ 131072) :
    fencs m = fencs l ↔ l.map ownF = m.map ownF := by
  constructor
  · intro e
    have a := ofF_back h1 h2 h3
    have b := ofF_back g1 g2 g3
    rw [hk, e, a] at b
    exact Option.some.inj b
  · intro e
    rw [← fencs_own m, ← fencs_own l, e]

theorem fenc_byte {f : Fld} (h : OkF f) (hs : f.s.size ≤ 131072) : InB (fenc f) := by
  intro z hz
  obtain ⟨_, _, h3, h4⟩ := h
  unfold fenc at hz
  split at hz
  · exact enc_byte (by unfold top; omega) z hz
  · split at hz
    · rw [List.mem_append] at hz
      rcases hz with hz | hz
      · exact enc_byte (by unfold top; omega) z hz
      · exact nums_byte _ z hz
    · split at hz
      · simp at hz; split at hz <;> omega
      · simp at hz
theorem fencs_byte : ∀ {l : List Fld}, (∀ f ∈ l, OkF f) → (∀ f ∈ l, f.s.size ≤ 131072) → InB (fencs l)
  | [], _, _ => by intro z hz; simp [fencs] at hz
  | f :: l, h1, h2 => by
    intro z hz
    rw [fencs, List.mem_append] at hz
    rcases hz with hz | hz
    · exact fenc_byte (h1 f (by simp)) (h2 f (by simp)) z hz
    · exact fencs_byte (fun g hg => h1 g (by simp [hg])) (fun g hg => h2 g (by simp [hg])) z hz
end Go.Proofs.Ytilklonjacjgbaa
