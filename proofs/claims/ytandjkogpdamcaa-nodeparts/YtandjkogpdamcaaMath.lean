/- Plain mathematics of whole numbers as bytes (seven bits a byte, the lowest first): no Go text is named here. -/
import Derived.WalkKit
namespace Apo

def encF : Nat → Nat → List Int
  | 0, n => [(n : Int)]
  | f + 1, n => if n < 128 then [(n : Int)] else ((n % 128 + 128 : Nat) : Int) :: encF f (n / 128)
def enc (n : Nat) : List Int := encF 9 n
def encs : List Int → List Int
  | [] => []
  | z :: r => enc z.toNat ++ encs r
def top : Nat := 18446744073709551616

theorem encF_fuel : ∀ f g n, n < 128 ^ (f + 1) → n < 128 ^ (g + 1) → encF f n = encF g n
  | 0, 0, _, _, _ => rfl
  | 0, g + 1, n, h, _ => by
    have h' : n < 128 := by simpa using h
    simp [encF, h']
  | f + 1, 0, n, _, h => by
    have h' : n < 128 := by simpa using h
    simp [encF, h']
  | f + 1, g + 1, n, h, k => by
    by_cases h' : n < 128
    · simp [encF, h']
    · have e := encF_fuel f g (n / 128) (by rw [Nat.pow_succ] at h; omega) (by rw [Nat.pow_succ] at k; omega)
      simp only [encF, if_neg h', e]

theorem enc_lt {n : Nat} (h : n < 128) : enc n = [(n : Int)] := by simp [enc, encF, h]

theorem enc_ge {n : Nat} (h : 128 ≤ n) (k : n < top) : enc n = ((n % 128 + 128 : Nat) : Int) :: enc (n / 128) := by
  have h' : ¬ n < 128 := by omega
  have e := encF_fuel 8 9 (n / 128) (by unfold top at k; omega) (by unfold top at k; omega)
  unfold enc
  rw [← e]
  simp only [encF, if_neg h']

theorem encF_len : ∀ f n, 1 ≤ (encF f n).length ∧ (encF f n).length ≤ f + 1
  | 0, n => by simp [encF]
  | f + 1, n => by
    have := encF_len f (n / 128)
    by_cases h : n < 128
    · simp [encF, h]
    · simp only [encF, if_neg h, List.length_cons]; omega

theorem enc_len (n : Nat) : 1 ≤ (enc n).length ∧ (enc n).length ≤ 10 := encF_len 9 n

theorem encF_mono : ∀ f a b, a ≤ b → (encF f a).length ≤ (encF f b).length
  | 0, _, _, _ => by simp [encF]
  | f + 1, a, b, h => by
    have := encF_mono f (a / 128) (b / 128) (by omega)
    have l1 := encF_len f (b / 128)
    by_cases ha : a < 128
    · by_cases hb : b < 128
      · simp [encF, ha, hb]
      · simp only [encF, if_pos ha, if_neg hb, List.length_cons, List.length_nil]; omega
    · have hb : ¬ b < 128 := by omega
      simp only [encF, if_neg ha, if_neg hb, List.length_cons]; omega

theorem enc_mono {a b : Nat} (h : a ≤ b) : (enc a).length ≤ (enc b).length := encF_mono 9 a b h

theorem encF_byte : ∀ f n, n < 128 ^ (f + 1) → ∀ x ∈ encF f n, 0 ≤ x ∧ x ≤ 255
  | 0, n, h, x, hx => by
    have h' : n < 128 := by simpa using h
    simp [encF] at hx; omega
  | f + 1, n, h, x, hx => by
    by_cases h' : n < 128
    · simp [encF, h'] at hx; omega
    · simp only [encF, if_neg h', List.mem_cons] at hx
      rcases hx with hx | hx
      · omega
      · exact encF_byte f (n / 128) (by rw [Nat.pow_succ] at h; omega) x hx

theorem enc_byte {n : Nat} (h : n < top) : ∀ x ∈ enc n, 0 ≤ x ∧ x ≤ 255 := encF_byte 9 n (by unfold top at h; omega)

theorem encF_prefix : ∀ f n m x y, n < 128 ^ (f + 1) → m < 128 ^ (f + 1) → encF f n ++ x = encF f m ++ y → n = m ∧ x = y
  | 0, n, m, x, y, _, _, h => by
    simp only [encF, List.cons_append, List.nil_append, List.cons.injEq] at h; exact ⟨by omega, h.2⟩
  | f + 1, n, m, x, y, hn, hm, h => by
    by_cases a : n < 128
    · by_cases b : m < 128
      · simp only [encF, if_pos a, if_pos b, List.cons_append, List.nil_append, List.cons.injEq] at h; exact ⟨by omega, h.2⟩
      · simp only [encF, if_pos a, if_neg b, List.cons_append, List.nil_append, List.cons.injEq] at h; omega
    · by_cases b : m < 128
      · simp only [encF, if_neg a, if_pos b, List.cons_append, List.nil_append, List.cons.injEq] at h; omega
      · simp only [encF, if_neg a, if_neg b, List.cons_append, List.cons.injEq] at h
        have e := encF_prefix f (n / 128) (m / 128) x y (by rw [Nat.pow_succ] at hn; omega) (by rw [Nat.pow_succ] at hm; omega) h.2
        exact ⟨by omega, e.2⟩

theorem enc_prefix {n m : Nat} {x y : List Int} (hn : n < top) (hm : m < top) (h : enc n ++ x = enc m ++ y) : n = m ∧ x = y :=
  encF_prefix 9 n m x y (by unfold top at hn; omega) (by unfold top at hm; omega) h

theorem enc_inj {n m : Nat} (hn : n < top) (hm : m < top) (h : enc n = enc m) : n = m :=
  (enc_prefix (x := []) (y := []) hn hm (by rw [h])).1

/-- bytes in the document's form are a number's bytes -/
theorem canonF : ∀ (cs : List Int) (c : Int), (∀ x ∈ cs, 128 ≤ x ∧ x ≤ 255) → 0 ≤ c → c < 128 → (cs = [] ∨ c ≠ 0) →
    ∃ n : Nat, n < 128 ^ cs.length * (c.toNat + 1) ∧ (c ≠ 0 → 1 ≤ n) ∧ encF cs.length n = cs ++ [c]
  | [], c, _, h0, h1, _ => ⟨c.toNat, by simp, by omega, by simp [encF]; omega⟩
  | x :: cs, c, hx, h0, h1, h2 => by
    have hc : c ≠ 0 := by rcases h2 with h2 | h2; · cases h2
                          · exact h2
    obtain ⟨n, k1, k2, k3⟩ := canonF cs c (fun y hy => hx y (by simp [hy])) h0 h1 (.inr hc)
    have hx0 := hx x (by simp)
    have k2' := k2 hc
    refine ⟨(x - 128).toNat + 128 * n, ?_, fun _ => by omega, ?_⟩
    · rw [List.length_cons, Nat.pow_succ, Nat.mul_comm (128 ^ cs.length) 128, Nat.mul_assoc]
      generalize 128 ^ cs.length * (c.toNat + 1) = t at *
      omega
    · have h' : ¬ (x - 128).toNat + 128 * n < 128 := by omega
      rw [List.length_cons]
      simp only [encF, if_neg h', List.cons_append, List.cons.injEq]
      have e1 : ((x - 128).toNat + 128 * n) / 128 = n := by omega
      rw [e1, k3]
      exact ⟨by omega, rfl⟩

theorem canon (cs : List Int) (c : Int) (h : ∀ x ∈ cs, 128 ≤ x ∧ x ≤ 255) (h0 : 0 ≤ c) (h1 : c < 128) (hl : cs.length ≤ 9) (h9 : cs.length = 9 → c = 1) (h2 : cs.length = 0 ∨ c ≠ 0) :
    ∃ n : Nat, n < top ∧ enc n = cs ++ [c] := by
  obtain ⟨n, k1, _, k3⟩ := canonF cs c h h0 h1 (by rcases h2 with h2 | h2; · exact .inl (List.eq_nil_of_length_eq_zero h2)
                                                   · exact .inr h2)
  have hlt : n < 128 ^ (cs.length + 1) := by
    rw [Nat.pow_succ]
    exact Nat.lt_of_lt_of_le k1 (Nat.mul_le_mul_left _ (by omega))
  have htop : n < top := by
    by_cases e : cs.length = 9
    · have hc := h9 e
      rw [e, hc] at k1
      unfold top
      exact Nat.lt_of_lt_of_le k1 (by decide)
    · have hle : 128 ^ (cs.length + 1) ≤ 128 ^ 9 := Nat.pow_le_pow_right (by decide) (by omega)
      have : (128 : Nat) ^ 9 = 9223372036854775808 := by decide
      unfold top; omega
  refine ⟨n, htop, ?_⟩
  rw [← k3]
  exact encF_fuel 9 cs.length n (by unfold top at htop; omega) hlt

theorem encs_append (a b : List Int) : encs (a ++ b) = encs a ++ encs b := by
  induction a with
  | nil => rfl
  | cons z r ih => simp [encs, ih, List.append_assoc]

theorem encs_snoc (a : List Int) (z : Int) : encs (a ++ [z]) = encs a ++ enc z.toNat := by
  rw [encs_append]; simp [encs]

theorem encs_len : ∀ a : List Int, a.length ≤ (encs a).length ∧ (encs a).length ≤ 10 * a.length
  | [] => by simp [encs]
  | z :: r => by
    have := encs_len r
    have := enc_len z.toNat
    simp only [encs, List.length_append, List.length_cons]; omega

def InU (a : List Int) : Prop := ∀ z ∈ a, 0 ≤ z ∧ z ≤ 18446744073709551615

theorem encs_byte : ∀ {a : List Int}, InU a → ∀ x ∈ encs a, 0 ≤ x ∧ x ≤ 255
  | [], _, x, hx => by simp [encs] at hx
  | z :: r, h, x, hx => by
    simp only [encs, List.mem_append] at hx
    have hz := h z (by simp)
    rcases hx with hx | hx
    · exact enc_byte (by unfold top; omega) x hx
    · exact encs_byte (fun y hy => h y (by simp [hy])) x hx

theorem encs_prefix : ∀ {a b : List Int} {x y : List Int}, InU a → InU b → a.length = b.length → encs a ++ x = encs b ++ y → a = b ∧ x = y
  | [], [], _, _, _, _, _, h => ⟨rfl, by simpa [encs] using h⟩
  | [], _ :: _, _, _, _, _, h, _ => by simp at h
  | _ :: _, [], _, _, _, _, h, _ => by simp at h
  | z :: r, t :: s, x, y, ha, hb, hl, h => by
    have hz := ha z (by simp)
    have ht := hb t (by simp)
    simp only [encs, List.append_assoc] at h
    obtain ⟨e1, e2⟩ := enc_prefix (by unfold top; omega) (by unfold top; omega) h
    obtain ⟨e3, e4⟩ := encs_prefix (fun q hq => ha q (by simp [hq])) (fun q hq => hb q (by simp [hq])) (by simpa using hl) e2
    exact ⟨by rw [e3, show z = t from by omega], e4⟩

theorem encs_inj : ∀ {a b : List Int}, InU a → InU b → encs a = encs b → a = b
  | [], [], _, _, _ => rfl
  | [], t :: s, _, _, h => by
    have := congrArg List.length h
    have := enc_len t.toNat
    simp only [encs, List.length_append, List.length_nil] at *; omega
  | z :: r, [], _, _, h => by
    have := congrArg List.length h
    have := enc_len z.toNat
    simp only [encs, List.length_append, List.length_nil] at *; omega
  | z :: r, t :: s, ha, hb, h => by
    have hz := ha z (by simp)
    have ht := hb t (by simp)
    simp only [encs] at h
    obtain ⟨e1, e2⟩ := enc_prefix (by unfold top; omega) (by unfold top; omega) h
    have e3 := encs_inj (fun q hq => ha q (by simp [hq])) (fun q hq => hb q (by simp [hq])) e2
    rw [e3, show z = t from by omega]

end Apo
