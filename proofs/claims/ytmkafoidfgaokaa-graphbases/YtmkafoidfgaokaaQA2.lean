/- What leb.Size, leb.total and leb.mayEnd answer, over the translation: the length of a number's bytes, of many numbers' bytes, and whether a last byte may stand at a place. What leb.total and leb.Put answer, over the translation. What leb.Of answers, over the translation: the number with which bytes begin, or that there is none. What the methods of pack.Reader do, over the translation. Numbers and texts read of bytes, and back, pure; parts, one behind the other. Commits as bytes and back, pure. -/
import Derived.WalkKit
import Derived.WalkSpells
import Derived.WalkLawsBesides
import Derived.Handy
import Derived.PlainAid
import Derived.Test.YtmkafoidfgaokaaRows
import Derived.Test.YtmkafoidfgaokaaQGPu
import Derived.Test.YtmkafoidfgaokaaQA1
namespace Go.Proofs.Ytmkafoidfgaokaa
open Go.RowKit

theorem ret_int {k : IntKind} {a b : Int} (h : a = b) : Ending.returned (.int k a) = .returned (.int k b) := by rw [h]

theorem enc_down {m : Int} {s N : Nat} (h0 : 128 ≤ m) (h1 : m ≤ 18446744073709551615) (h : s + (Apo.enc m.toNat).length = N) :
    s + 1 + (Apo.enc (m / 128).toNat).length = N := by
  have e := Apo.enc_ge (n := m.toNat) (by omega) (by unfold Apo.top; omega)
  have e2 : (m / 128).toNat = m.toNat / 128 := by omega
  rw [e] at h
  rw [e2]
  simp only [List.length_cons] at h
  omega

theorem enc_one {m : Int} (h0 : 0 ≤ m) (h1 : m < 128) : Apo.enc m.toNat = [m] := by
  rw [Apo.enc_lt (by omega)]
  rw [Int.toNat_of_nonneg h0]

end Go.Proofs.Ytmkafoidfgaokaa
namespace Go.Proofs.Ytmkafoidfgaokaa
open Go.RowKit Apo

set_option maxRecDepth 100000 in
theorem infoU8 : (Try.prog.info? 5).map (fun i => (i.zero, i.size, i.bytes)) = some (some (.int .u8 0), 1, 1) := by kernel_rfl

set_option maxRecDepth 100000 in
/-- one number more, byte by byte -/
theorem or128 (m : Int) (h0 : 0 ≤ m) : bits .or .u8 (m % 256) 128 = m % 128 + 128 := by
  obtain ⟨n, rfl⟩ := Int.eq_ofNat_of_zero_le h0
  have e : ((n : Int) % 256) = ((n % 256 : Nat) : Int) := by omega
  have e2 := u8_or_nat (n % 256) 128 (by omega) (by omega)
  have e3 : (n % 256 ||| 128) = n % 128 + 128 := by
    have : ∀ q : Fin 256, (q.1 ||| 128) = q.1 % 128 + 128 := by decide +kernel
    have := this ⟨n % 256, by omega⟩
    simp only at this
    rw [this]; omega
  rw [e3] at e2
  rw [e]
  exact e2.trans (by omega)

set_option maxRecDepth 100000 in
/-- the bytes go on: one byte of a number is laid, the rest of it is still to come -/
theorem put_step {m : Int} {cur all : List Int} (h0 : 128 ≤ m) (h1 : m ≤ 18446744073709551615) (h : cur ++ enc m.toNat = all) : (cur ++ [m % 128 + 128]) ++ enc (m / 128).toNat = all := by
  have e := enc_ge (n := m.toNat) (by omega) (by unfold top; omega)
  have e2 : (m / 128).toNat = m.toNat / 128 := by omega
  have e3 : ((m.toNat % 128 + 128 : Nat) : Int) = m % 128 + 128 := by omega
  rw [← h, e, e2, e3]
  simp

end Go.Proofs.Ytmkafoidfgaokaa
namespace Go.Proofs.Ytmkafoidfgaokaa
open Go.RowKit Apo

set_option maxRecDepth 100000 in
/-- the digits of a number, place by place -/
theorem enc_nth : ∀ (i n : Nat), n < top → i < (enc n).length →
    (i = 0 ∨ 1 ≤ n / 128 ^ i) ∧ (n / 128 ^ i < 128 → (enc n)[i]? = some ((n / 128 ^ i : Nat) : Int) ∧ (enc n).length = i + 1) ∧
    (128 ≤ n / 128 ^ i → (enc n)[i]? = some ((n / 128 ^ i % 128 + 128 : Nat) : Int) ∧ i + 1 < (enc n).length)
  | 0, n, hn, _ => by
    refine ⟨.inl rfl, fun h => ?_, fun h => ?_⟩
    · simp only [Nat.pow_zero, Nat.div_one] at h ⊢
      rw [enc_lt h]; simp
    · simp only [Nat.pow_zero, Nat.div_one] at h ⊢
      rw [enc_ge h hn]
      have := enc_len (n / 128)
      simp only [List.getElem?_cons_zero, List.length_cons, true_and]; omega
  | i + 1, n, hn, hi => by
    have hge : 128 ≤ n := by
      rcases Nat.lt_or_ge n 128 with h | h
      · rw [enc_lt h] at hi; simp at hi
      · exact h
    rw [enc_ge hge hn] at hi ⊢
    have ih := enc_nth i (n / 128) (by unfold top at *; omega) (by simpa using hi)
    have e : n / 128 ^ (i + 1) = n / 128 / 128 ^ i := by rw [Nat.pow_succ, Nat.div_div_eq_div_mul, Nat.mul_comm]
    rw [e]
    refine ⟨.inr ?_, fun h => ?_, fun h => ?_⟩
    · rcases ih.1 with h | h
      · subst h; simp only [Nat.pow_zero, Nat.div_one]; omega
      · exact h
    · have := ih.2.1 h
      simp only [List.getElem?_cons_succ, List.length_cons]
      exact ⟨this.1, by omega⟩
    · have := ih.2.2 h
      simp only [List.getElem?_cons_succ, List.length_cons]
      exact ⟨this.1, by omega⟩

set_option maxRecDepth 100000 in
theorem andNot128 {z : Int} (h0 : 0 ≤ z) (h1 : z ≤ 255) : bits .andNot .u8 z 128 = z % 128 := by
  obtain ⟨n, rfl⟩ := Int.eq_ofNat_of_zero_le h0
  have e2 := u8_andNot_nat n 128 (by omega) (by omega)
  have e3 : (n &&& (255 - 128)) = n % 128 := by
    have : ∀ q : Fin 256, (q.1 &&& (255 - 128)) = q.1 % 128 := by decide +kernel
    exact this ⟨n, by omega⟩
  rw [e3] at e2
  exact e2.trans (by omega)

set_option maxRecDepth 100000 in
theorem or_step {n k : Nat} {z A : Int} (hn : n < top) (h0 : 0 ≤ z) (h1 : z ≤ 255) (hA : A = ((n % 128 ^ k : Nat) : Int)) (hz : z % 128 = ((n / 128 ^ k % 128 : Nat) : Int)) :
    bits .or .u64 A (IntKind.u64.wrap (IntKind.u64.wrap (bits .andNot .u8 z 128) * 2 ^ (7 * k))) = ((n % 128 ^ (k + 1) : Nat) : Int) := by
  rw [andNot128 h0 h1, hz, hA]
  have hp : (128 : Nat) ^ k = 2 ^ (7 * k) := by rw [show (128 : Nat) = 2 ^ 7 from rfl, ← Nat.pow_mul]
  have hpi : ((2 : Int) ^ (7 * k)) = ((128 ^ k : Nat) : Int) := by rw [hp]; simp
  have hpos : 0 < 128 ^ k := Nat.pow_pos (by decide)
  rw [hpi]
  have hlt : n % 128 ^ k < 128 ^ k := Nat.mod_lt _ hpos
  have e1 : n % 128 ^ (k + 1) = n % 128 ^ k + 128 ^ k * (n / 128 ^ k % 128) := Nat.mod_pow_succ
  have hle : n % 128 ^ (k + 1) ≤ n := Nat.mod_le _ _
  generalize hd : n / 128 ^ k % 128 = d at *
  have hd128 : d < 128 := by omega
  have w1 : IntKind.u64.wrap (d : Int) = (d : Int) := by rw [IntKind.wrap_u64]; omega
  have e4 : (d : Int) * ((128 ^ k : Nat) : Int) = ((128 ^ k * d : Nat) : Int) := by rw [Nat.mul_comm]; simp
  rw [w1, e4]
  generalize hA2 : n % 128 ^ k = A2 at *
  have hlt2 : 128 ^ k * d < top := by omega
  have w2 : IntKind.u64.wrap ((128 ^ k * d : Nat) : Int) = ((128 ^ k * d : Nat) : Int) := by
    rw [IntKind.wrap_u64]; unfold top at hlt2; omega
  rw [w2, u64_or_nat _ _ (by unfold top at *; omega) (by unfold top at *; omega)]
  rw [e1]
  have e5 : A2 ||| 128 ^ k * d = A2 + 128 ^ k * d := by
    rw [hp] at hlt ⊢
    have := Nat.two_pow_add_eq_or_of_lt hlt d
    rw [Nat.or_comm, ← this, Nat.add_comm]
  rw [e5]

set_option maxRecDepth 100000 in
theorem ret3 {k1 k2 k3 : IntKind} {a b c a' b' c' : Int} (h1 : a = a') (h2 : b = b') (h3 : c = c') :
    Ending.returned (.tuple #[.int k1 a, .int k2 b, .int k3 c]) = .returned (.tuple #[.int k1 a', .int k2 b', .int k3 c']) := by rw [h1, h2, h3]

set_option maxRecDepth 100000 in
/-- what stands at place k of bytes that begin with a number's -/
theorem of_at {l r : List Int} {n k : Nat} {z : Int} (hn : n < top) (he : l = enc n ++ r) (hk : k < (enc n).length) (hz : l[k]? = some z) :
    0 ≤ z ∧ z ≤ 255 ∧ (k = 0 ∨ 1 ≤ n / 128 ^ k) ∧ z % 128 = ((n / 128 ^ k % 128 : Nat) : Int) ∧ (z < 128 → z = ((n / 128 ^ k : Nat) : Int) ∧ (enc n).length = k + 1 ∧ n % 128 ^ (k + 1) = n) ∧ (128 ≤ z → k + 1 < (enc n).length) := by
  have h := enc_nth k n hn hk
  have hzz : (enc n)[k]? = some z := by rw [he, List.getElem?_append_left hk] at hz; exact hz
  have hb := enc_byte hn z (List.mem_of_getElem? hzz)
  refine ⟨hb.1, hb.2, h.1, ?_, fun hlt => ?_, fun hge => ?_⟩
  · rcases Nat.lt_or_ge (n / 128 ^ k) 128 with hm | hm
    · have := (h.2.1 hm).1; rw [hzz] at this; cases this; omega
    · have := (h.2.2 hm).1; rw [hzz] at this; cases this; omega
  · rcases Nat.lt_or_ge (n / 128 ^ k) 128 with hm | hm
    · have h2 := (h.2.1 hm)
      have := h2.1; rw [hzz] at this; cases this
      refine ⟨rfl, h2.2, ?_⟩
      refine Nat.mod_eq_of_lt ?_
      rw [Nat.pow_succ]
      exact (Nat.div_lt_iff_lt_mul (Nat.pow_pos (by decide))).1 hm |> fun q => by rw [Nat.mul_comm] at q; exact q
    · have := (h.2.2 hm).1; rw [hzz] at this; cases this; omega
  · rcases Nat.lt_or_ge (n / 128 ^ k) 128 with hm | hm
    · have := (h.2.1 hm).1; rw [hzz] at this; cases this; omega
    · exact (h.2.2 hm).2

set_option maxRecDepth 100000 in
theorem of_nine {n k : Nat} (hn : n < top) (hk : k = 9) (h1 : 1 ≤ n / 128 ^ k) : n / 128 ^ k = 1 := by
  subst hk
  have : (128 : Nat) ^ 9 = 9223372036854775808 := by decide
  rw [this] at *
  unfold top at hn
  omega

/-- no number's bytes stand at the head -/
def NoNum (l : List Int) : Prop := ∀ n r, n < top → l ≠ enc n ++ r

def InB (l : List Int) : Prop := ∀ z ∈ l, 0 ≤ z ∧ z ≤ 255

set_option maxRecDepth 100000 in
theorem nonum_at {l : List Int} {k : Nat} {z : Int} (hb : InB l) (hno : NoNum l) (hk : k ≤ 9) (hz : l[k]? = some z) (hpre : ∀ x ∈ l.take k, 128 ≤ x) (hlt : z < 128) :
    decide (((k : Int) = 9 ∧ z = 1) ∨ ((k : Int) ≠ 9 ∧ (z ≠ 0 ∨ (k : Int) = 0))) = false := by
  rw [decide_eq_false_iff_not]
  intro h
  have hkl := (List.getElem?_eq_some_iff.1 hz).1
  have hz0 := hb z (List.mem_of_getElem? hz)
  have htl : (l.take k).length = k := by simp; omega
  obtain ⟨n, hn, e⟩ := canon (l.take k) z (fun x hx => ⟨hpre x hx, (hb x (List.mem_of_mem_take hx)).2⟩) hz0.1 hlt (by omega) (by omega) (by rw [htl]; omega)
  refine hno n (l.drop (k + 1)) hn ?_
  rw [e, ← take_snoc hz]
  exact (List.take_append_drop _ _).symm

end Go.Proofs.Ytmkafoidfgaokaa
namespace Go.Proofs.Ytmkafoidfgaokaa
open Go.RowKit Apo

open Classical in
/-- the number with which bytes begin, and what is left behind it -/
noncomputable def num1 (l : List Int) : Option (Nat × List Int) := if h : ∃ x : Nat × List Int, x.1 < top ∧ l = enc x.1 ++ x.2 then some (Classical.choose h) else none

set_option maxRecDepth 100000 in
theorem num1_yes {n : Nat} {r l : List Int} (hn : n < top) (hl : l = enc n ++ r) : num1 l = some (n, r) := by
  have h : ∃ x : Nat × List Int, x.1 < top ∧ l = enc x.1 ++ x.2 := ⟨(n, r), hn, hl⟩
  rw [num1, dif_pos h]
  have hc := Classical.choose_spec h
  obtain ⟨e1, e2⟩ := enc_prefix hc.1 hn (hc.2.symm.trans hl)
  congr 1
  exact Prod.ext e1 e2
set_option maxRecDepth 100000 in
theorem num1_no {l : List Int} (h : NoNum l) : num1 l = none := by
  rw [num1, dif_neg]
  rintro ⟨⟨n, r⟩, h1, h2⟩
  exact h n r h1 h2
set_option maxRecDepth 100000 in
theorem num1_cases (l : List Int) : (∃ n r, n < top ∧ l = enc n ++ r ∧ num1 l = some (n, r)) ∨ (NoNum l ∧ num1 l = none) := by
  by_cases h : ∃ n r, n < top ∧ l = enc n ++ r
  · obtain ⟨n, r, h1, h2⟩ := h
    exact Or.inl ⟨n, r, h1, h2, num1_yes h1 h2⟩
  · have hn : NoNum l := fun n r h1 h2 => h ⟨n, r, h1, h2⟩
    exact Or.inr ⟨hn, num1_no hn⟩

/-- a reader: the bytes that are left; none: it has failed -/
abbrev St := Option (List Int)

noncomputable def rnum (st : St) (most : Int) : Int × St :=
  match st with
  | none => (0, none)
  | some l => match num1 l with
    | some (n, r) => if (n : Int) ≤ most then (n, some r) else (0, none)
    | none => (0, none)
noncomputable def rtext (st : St) (most : Int) : List Int × St :=
  if most < 0 then ([], none) else
  match rnum st most with
  | (n, some r) => if n ≤ r.length then (r.take n.toNat, some (r.drop n.toNat)) else ([], none)
  | (_, none) => ([], none)
noncomputable def rflag (st : St) : Bool × St := ((rnum st 1).1 == 1, (rnum st 1).2)

/-- the object in block p is a reader: its bytes, and whether it has failed -/
def Rr (w : World) (p : Nat) (t : TypeId) (g : Nat) : St → Prop
  | none => Ob w p t [.slice none 0 0, .bool true]
  | some l => ∃ a cap, Ob w p t [.slice a l.length cap, .bool false] ∧ Rd .u8 w a l ∧ l.length ≤ cap ∧ (a = none → cap = 0) ∧ (∀ x, a = some x → 0 < l.length → x.block = g ∧ x.block ≠ p ∧ x.block < w.heap.size) ∧ InB l ∧ l.length ≤ 1099511627776

set_option maxRecDepth 100000 in
theorem Rr.ob {w : World} {p g : Nat} {t : TypeId} {st : St} (h : Rr w p t g st) : ∃ c0 c1, Ob w p t [c0, c1] := by
  cases st with
  | none => exact ⟨_, _, h⟩
  | some l => obtain ⟨a, cap, h, _⟩ := h; exact ⟨_, _, h⟩
set_option maxRecDepth 100000 in
theorem Rr.lt {w : World} {p g : Nat} {t : TypeId} {st : St} (h : Rr w p t g st) : p < w.heap.size := by
  obtain ⟨_, _, h⟩ := h.ob; exact h.lt

set_option maxRecDepth 100000 in
/-- a reader that others leave alone -/
theorem Rr.kept {w w' : World} {p g : Nat} {t : TypeId} {st : St} {row : Option Nat} (h : Rr w p t g st) (hg : w.grownBy w' row) (hp : row ≠ some p) (hr : row ≠ some g) : Rr w' p t g st := by
  cases st with
  | none => exact Ob.kept h hg hp
  | some l =>
    obtain ⟨a, cap, h1, h2, h3, h4, h5, h6, h7⟩ := h
    exact ⟨a, cap, h1.kept hg hp, h2.grew hg (fun x hx h0 => by rw [(h5 x hx h0).1]; exact hr), h3, h4, fun x hx h0 => ⟨(h5 x hx h0).1, (h5 x hx h0).2.1, Nat.lt_of_lt_of_le (h5 x hx h0).2.2 hg.size⟩, h6, h7⟩
set_option maxRecDepth 100000 in
theorem Rr.old {w w' : World} {p g : Nat} {t : TypeId} {st : St} (h : Rr w p t g st) (hb : Below w.heap.size w w') : Rr w' p t g st :=
  h.kept (grew_below none hb) (by simp) (by simp)

set_option maxRecDepth 100000 in
/-- its first bytes are cut off -/
theorem Rr.drop {w : World} {p g : Nat} {t : TypeId} {b off cap : Nat} {l : List Int} {k : Nat} {a : Addr} {c : Nat} (h1 : Ob w p t [.slice (some ⟨b, off, none⟩) l.length cap, .bool false]) (h2 : Rd .u8 w (some ⟨b, off, none⟩) l)
    (h5 : ∀ x, some (⟨b, off, none⟩ : Addr) = some x → 0 < l.length → x.block = g ∧ x.block ≠ p ∧ x.block < w.heap.size) (h6 : InB l) (h7 : l.length ≤ 1099511627776) (hk : k ≤ l.length) (ha : a = ⟨b, off + k, none⟩ ∨ (k = l.length ∧ a = ⟨b, off, none⟩)) (hc : l.length - k ≤ c) :
    Rr (w.setCell ⟨p, 0, none⟩ (.slice (some a) (l.length - k) c)) p t g (some (l.drop k)) := by
  have hab : a.block = b := by rcases ha with rfl | ⟨_, rfl⟩ <;> rfl
  have h5' := h5 _ rfl
  have hl0 : 0 < (l.drop k).length → 0 < l.length := fun h => by rw [List.length_drop] at h; omega
  have hR : Rd .u8 w (some a) (l.drop k) := by
    rcases ha with rfl | ⟨rfl, rfl⟩
    · exact rd_drop h2
    · rw [List.drop_length]; exact Rd.nil _ _ _
  refine ⟨some a, c, ?_, hR.grew (grew_set w p 0 _) (fun x hx h0 => ?_), by rw [List.length_drop]; exact hc, by simp, fun x hx h0 => ?_, fun z hz => h6 z (List.mem_of_mem_drop hz), by rw [List.length_drop]; omega⟩
  · rw [List.length_drop]; exact h1.set 0 _
  · cases hx; rw [hab]; intro e; cases e; exact (h5' (hl0 h0)).2.1 rfl
  · cases hx; rw [hab]; exact ⟨(h5' (hl0 h0)).1, (h5' (hl0 h0)).2.1, by simpa [World.setCell] using (h5' (hl0 h0)).2.2⟩

set_option maxRecDepth 100000 in
/-- its bytes, none, are laid again -/
theorem Rr.again {w : World} {p g : Nat} {t : TypeId} {a : Option Addr} {cap : Nat} (h1 : Ob w p t [.slice a 0 cap, .bool false]) (h4 : a = none → cap = 0) :
    Rr (w.setCell ⟨p, 0, none⟩ (.slice a 0 cap)) p t g (some []) :=
  ⟨a, cap, h1.set 0 _, Rd.nil _ _ _, by simp, h4, fun x _ h0 => absurd h0 (by simp), by intro z hz; simp at hz, by simp⟩

set_option maxRecDepth 100000 in
theorem left_of {w : World} {p g : Nat} {t : TypeId} {st : St} (h : Rr w p t g st) : ∃ a cap, Ob w p t [.slice a (st.getD []).length cap, .bool st.isNone] := by
  cases st with
  | none => exact ⟨none, 0, h⟩
  | some l => obtain ⟨a, cap, h, _⟩ := h; exact ⟨a, cap, h⟩

set_option maxRecDepth 100000 in
theorem rnum_le {st : St} {most n : Int} {r : List Int} (h : rnum st most = (n, some r)) : 0 ≤ n ∧ n ≤ most := by
  cases st with
  | none => simp [rnum] at h
  | some l =>
    rcases num1_cases l with ⟨m, q, _, _, g⟩ | ⟨_, g⟩
    · by_cases hm : (m : Int) ≤ most
      · simp [rnum, g, hm] at h; omega
      · simp [rnum, g, hm] at h
    · simp [rnum, g] at h
set_option maxRecDepth 100000 in
theorem rnum_bad {st : St} {most n : Int} (h : rnum st most = (n, none)) : n = 0 := by
  cases st with
  | none => simp [rnum] at h; omega
  | some l =>
    rcases num1_cases l with ⟨m, q, _, _, g⟩ | ⟨_, g⟩
    · by_cases hm : (m : Int) ≤ most
      · simp [rnum, g, hm] at h
      · simp [rnum, g, hm] at h; omega
    · simp [rnum, g] at h; omega

end Go.Proofs.Ytmkafoidfgaokaa
namespace Go.Proofs.Ytmkafoidfgaokaa
open Go.RowKit Apo
theorem rnum_enc {n : Nat} {r : List Int} {most : Int} (h : n < top) (hm : (n : Int) ≤ most) : rnum (some (enc n ++ r)) most = ((n : Int), some r) := by
  unfold rnum
  simp only
  rw [num1_yes h rfl]
  simp only
  rw [if_pos hm]
theorem rtext_enc {s : ByteArray} {r : List Int} {most : Int} (h : s.size < top) (hm : (s.size : Int) ≤ most) : rtext (some (enc s.size ++ nums s ++ r)) most = (nums s, some r) := by
  unfold rtext
  rw [if_neg (by omega), List.append_assoc, rnum_enc h hm]
  simp only
  rw [if_pos (by rw [List.length_append, nums_length]; omega), Int.toNat_natCast]
  have hl := nums_length s
  rw [List.take_append_of_le_length (by omega), List.take_of_length_le (by omega), List.drop_append_of_le_length (by omega), List.drop_of_length_le (by omega), List.nil_append]
theorem rnum_some {l r : List Int} {most n : Int} (h : rnum (some l) most = (n, some r)) : l = enc n.toNat ++ r ∧ 0 ≤ n ∧ n ≤ most := by
  unfold rnum at h
  simp only at h
  rcases num1_cases l with ⟨m, q, h1, h2, h3⟩ | ⟨_, h3⟩
  · rw [h3] at h
    simp only at h
    split at h
    · injection h with e1 e2
      injection e2 with e2
      subst e1 e2
      exact ⟨by rw [Int.toNat_natCast]; exact h2, by omega, by assumption⟩
    · injection h with e1 e2
      cases e2
  · rw [h3] at h
    simp only at h
    injection h with e1 e2
    cases e2
theorem rtext_some {l r t : List Int} {most : Int} (h : rtext (some l) most = (t, some r)) : l = enc t.length ++ t ++ r ∧ (t.length : Int) ≤ most := by
  unfold rtext at h
  split at h
  · injection h with e1 e2
    cases e2
  · cases hq : rnum (some l) most with
    | mk n st =>
      rw [hq] at h
      cases st with
      | none =>
        simp only at h
        injection h with e1 e2
        cases e2
      | some q =>
        simp only at h
        obtain ⟨h1, h2, h3⟩ := rnum_some hq
        split at h
        · injection h with e1 e2
          injection e2 with e2
          subst e1 e2
          have hl : (q.take n.toNat).length = n.toNat := by rw [List.length_take]; omega
          rw [hl, List.append_assoc, List.take_append_drop]
          exact ⟨h1, by omega⟩
        · injection h with e1 e2
          cases e2
theorem rtext_none (most : Int) : rtext none most = ([], none) := by
  unfold rtext rnum
  split <;> rfl
theorem InB.right {a b : List Int} (h : InB (a ++ b)) : InB b := fun z hz => h z (by simp [hz])
theorem InB.left {a b : List Int} (h : InB (a ++ b)) : InB a := fun z hz => h z (by simp [hz])
theorem text_back {t : List Int} (h : InB t) : enc (strOfNums t).size ++ nums (strOfNums t) = enc t.length ++ t := by
  rw [strOfNums_size, nums_strOfNums h]
/-- what a text's length may be -/
theorem rtext_le (st : St) (most : Int) (h0 : 0 ≤ most) : ((rtext st most).1.length : Int) ≤ most := by
  cases h : rtext st most with
  | mk t r =>
    cases r with
    | some r => cases st with
      | none => rw [rtext_none] at h; cases h
      | some l => exact (rtext_some h).2
    | none =>
      have : t = [] := by
        unfold rtext at h
        split at h
        · cases h; rfl
        · split at h
          · split at h
            · cases h
            · cases h; rfl
          · cases h; rfl
      rw [this]
      simpa using h0
/-- k parts, one behind the other -/
noncomputable def eachK {α : Type} (f : St → α × St) (st : St) : Nat → List α × St
  | 0 => ([], st)
  | k + 1 => ((eachK f st k).1 ++ [(f (eachK f st k).2).1], (f (eachK f st k).2).2)
theorem eachK_len {α : Type} (f : St → α × St) (st : St) : ∀ k, (eachK f st k).1.length = k
  | 0 => rfl
  | k + 1 => by simp [eachK, eachK_len f st k]
theorem eachK_none {α : Type} {f : St → α × St} (h : (f none).2 = none) : ∀ k, (eachK f none k).2 = none
  | 0 => rfl
  | k + 1 => by simp only [eachK]; rw [eachK_none h k, h]
theorem rnum_none (most : Int) : rnum none most = (0, none) := rfl
/-- the greatest number -/
abbrev full : Int := 18446744073709551615
theorem rnum_bd (st : St) {most : Int} (h : 0 ≤ most) : 0 ≤ (rnum st most).1 ∧ (rnum st most).1 ≤ most := by
  cases q : rnum st most with
  | mk n r =>
    cases r with
    | some r => exact rnum_le q
    | none => have := rnum_bad q; simp only; omega
/-- numbers as bytes -/
def psB (l : List Int) : List Int := l.flatMap (fun z => enc z.toNat)
theorem rfull_enc {n : Int} {r : List Int} (h0 : 0 ≤ n) (h1 : n ≤ full) : rnum (some (enc n.toNat ++ r)) full = (n, some r) := by
  have := rnum_enc (n := n.toNat) (r := r) (most := full) (by unfold top; unfold full at h1; omega) (by unfold full at h1 ⊢; omega)
  rw [this, Int.toNat_of_nonneg h0]
theorem eachN_enc {x : List Int} : ∀ (k : Nat) {l : List Int}, (∀ z ∈ l, 0 ≤ z ∧ z ≤ full) → k ≤ l.length → eachK (fun st => rnum st full) (some (psB l ++ x)) k = (l.take k, some (psB (l.drop k) ++ x))
  | 0, l, _, _ => by simp [eachK]
  | k + 1, l, hl, hk => by
    have ih := eachN_enc (x := x) k hl (by omega)
    have hd : l.drop k = l[k] :: l.drop (k + 1) := List.drop_eq_getElem_cons (by omega)
    obtain ⟨h1, h2⟩ := hl l[k] (List.getElem_mem _)
    simp only [eachK]
    rw [ih, hd]
    unfold psB
    rw [List.flatMap_cons, List.append_assoc, rfull_enc h1 h2]
    simp only
    rw [List.take_succ_eq_append_getElem (by omega)]
theorem eachN_back {r : List Int} : ∀ (k : Nat) {x : List Int}, (eachK (fun st => rnum st full) (some r) k).2 = some x → r = psB (eachK (fun st => rnum st full) (some r) k).1 ++ x
  | 0, x, h => by
    simp only [eachK] at h ⊢
    cases h
    rfl
  | k + 1, x, h => by
    simp only [eachK] at h ⊢
    cases hq : (eachK (fun st => rnum st full) (some r) k).2 with
    | none => rw [hq] at h; cases h
    | some y =>
      have e1 := eachN_back k hq
      rw [hq] at h
      cases hn : rnum (some y) full with
      | mk n st =>
        rw [hn] at h
        simp only at h ⊢
        subst h
        obtain ⟨e2, _, _⟩ := rnum_some hn
        unfold psB at e1 ⊢
        rw [List.flatMap_append, List.append_assoc]
        simp only [List.flatMap_cons, List.flatMap_nil, List.append_nil]
        rw [← e2]
        exact e1
theorem eachN_bd (st : St) : ∀ k, ∀ z ∈ (eachK (fun st => rnum st full) st k).1, 0 ≤ z ∧ z ≤ full
  | 0, z, h => by simp [eachK] at h
  | k + 1, z, h => by
    simp only [eachK, List.mem_append, List.mem_singleton] at h
    rcases h with h | rfl
    · exact eachN_bd st k z h
    · exact rnum_bd _ (by unfold full; omega)
end Go.Proofs.Ytmkafoidfgaokaa
namespace Apo
open Go Go.RowKit
/-- a commit -/
structure Cm where
  id : Int
  ps : List Int
  gen : Int
  root : Int
  tx : ByteArray
/-- numbers of 64 bits -/
def Cm.Sz (c : Cm) : Prop := (0 ≤ c.id ∧ c.id ≤ 18446744073709551615) ∧ (∀ z ∈ c.ps, 0 ≤ z ∧ z ≤ 18446744073709551615) ∧ (0 ≤ c.gen ∧ c.gen ≤ 18446744073709551615) ∧ (0 ≤ c.root ∧ c.root ≤ 18446744073709551615)
def zeroCm : Cm := ⟨0, [], 0, 0, ⟨#[]⟩⟩
end Apo
namespace Go.Proofs.Ytmkafoidfgaokaa
open Go.RowKit Apo
/-- whether a text may be a commit's -/
def txtOk (s : ByteArray) : Bool := decide (s.size ≤ 60) && (List.range s.size).all (fun k => decide (32 ≤ PlainAid.bt s k) && decide (PlainAid.bt s k ≤ 126))
/-- whether parents may be -/
def parOk (id : Int) : List Int → Bool
  | [] => true
  | [p] => !(p == 0) && decide (p < id)
  | [p, q] => (!(p == 0) && decide (p < id)) && ((!(q == 0) && decide (q < id)) && !(p == q))
  | _ => false
def genOk (n : Nat) (g : Int) : Bool := if n = 0 then g == 1 else decide (2 ≤ g)
def cmE (c : Cm) : Int :=
  if c.id = 0 then 120 else if parOk c.id c.ps = false then 120 else if genOk c.ps.length c.gen = false then 120 else if txtOk c.tx = false then 121 else 0
theorem parOk_len {id : Int} : ∀ {l : List Int}, parOk id l = true → l.length ≤ 2
  | [], _ => by simp
  | [_], _ => by simp
  | [_, _], _ => by simp
  | _ :: _ :: _ :: _, h => by simp [parOk] at h
theorem parOk_long {id : Int} {l : List Int} (h : 2 < l.length) : parOk id l = false := by
  cases q : parOk id l with
  | false => rfl
  | true => have := parOk_len q; omega
def cmB (c : Cm) : List Int := enc c.id.toNat ++ (enc c.ps.length ++ (psB c.ps ++ (enc c.gen.toNat ++ (enc c.root.toNat ++ (enc c.tx.size ++ nums c.tx)))))
def putM (c : Cm) : List Int × Int := if cmE c ≠ 0 then ([], cmE c) else (cmB c, 0)
/-- what is read -/
noncomputable def rawM (b : List Int) : Cm × St :=
  let i := rnum (some b) full
  let k := rnum i.2 2
  let p := eachK (fun st => rnum st full) k.2 k.1.toNat
  let g := rnum p.2 full
  let r := rnum g.2 full
  let t := rtext r.2 60
  (⟨i.1, p.1, g.1, r.1, strOfNums t.1⟩, t.2)
open Classical in
noncomputable def ofM (b : List Int) : Cm × Int := if (rawM b).2 = some [] ∧ cmE (rawM b).1 = 0 then ((rawM b).1, 0) else (zeroCm, 20)
theorem cmE_ok {c : Cm} (h : cmE c = 0) : c.id ≠ 0 ∧ c.ps.length ≤ 2 ∧ txtOk c.tx = true := by
  unfold cmE at h
  split at h
  · cases h
  · rename_i q
    split at h
    · cases h
    · rename_i q2
      split at h
      · cases h
      · split at h
        · cases h
        · rename_i q4
          exact ⟨q, parOk_len (by simpa using q2), by simpa using q4⟩
theorem txtOk_size {s : ByteArray} (h : txtOk s = true) : s.size ≤ 60 := by
  unfold txtOk at h
  simp only [Bool.and_eq_true, decide_eq_true_eq] at h
  exact h.1
theorem rawM_cmB {c : Cm} (hz : c.Sz) (hp : c.ps.length ≤ 2) (ht : c.tx.size ≤ 60) : rawM (cmB c) = (c, some []) := by
  obtain ⟨⟨h1, h2⟩, h3, ⟨h4, h5⟩, ⟨h6, h7⟩⟩ := hz
  unfold rawM cmB
  simp only
  rw [rfull_enc h1 h2]
  simp only
  rw [rnum_enc (by unfold top; omega) (by omega)]
  simp only [Int.toNat_natCast]
  rw [eachN_enc c.ps.length h3 (Nat.le_refl _)]
  simp only [List.take_length, List.drop_length]
  rw [show psB [] = [] from rfl, List.nil_append, rfull_enc h4 h5]
  simp only
  rw [rfull_enc h6 h7]
  simp only
  have := rtext_enc (s := c.tx) (r := []) (most := 60) (by unfold top; omega) (by omega)
  rw [List.append_nil] at this
  rw [this]
  simp only [strOfNums_nums]
theorem ofM_put {c : Cm} (hz : c.Sz) (h : (putM c).2 = 0) : ofM (putM c).1 = (c, 0) := by
  unfold putM at h ⊢
  split at h
  · rename_i q; exact absurd h q
  · rename_i q
    rw [if_neg q]
    have q0 : cmE c = 0 := Decidable.not_not.1 q
    obtain ⟨_, h2, h3⟩ := cmE_ok q0
    have hr := rawM_cmB hz h2 (txtOk_size h3)
    unfold ofM
    simp only [hr]
    rw [if_pos ⟨trivial, q0⟩]
theorem rawM_sz (b : List Int) : (rawM b).1.Sz := by
  unfold rawM
  simp only
  exact ⟨rnum_bd _ (by unfold full; omega), eachN_bd _ _, rnum_bd _ (by unfold full; omega), rnum_bd _ (by unfold full; omega)⟩
theorem rawM_back {b : List Int} (hb : InB b) (h : (rawM b).2 = some []) : cmB (rawM b).1 = b := by
  unfold rawM at h ⊢
  simp only at h ⊢
  cases h1 : rnum (some b) full with
  | mk i s1 =>
    rw [h1] at h
    simp only at h ⊢
    cases s1 with
    | none =>
      exfalso
      rw [rnum_none] at h
      simp only at h
      rw [eachK_none rfl, rnum_none] at h
      simp only [rnum_none, rtext_none] at h
      cases h
    | some r1 =>
      obtain ⟨e1, i0, _⟩ := rnum_some h1
      cases h2 : rnum (some r1) 2 with
      | mk k s2 =>
        rw [h2] at h
        simp only at h ⊢
        cases s2 with
        | none =>
          exfalso
          rw [eachK_none rfl, rnum_none] at h
          simp only [rnum_none, rtext_none] at h
          cases h
        | some r2 =>
          obtain ⟨e2, k0, _⟩ := rnum_some h2
          have hl := eachK_len (fun st => rnum st full) (some r2) k.toNat
          cases h3 : eachK (fun st => rnum st full) (some r2) k.toNat with
          | mk ps s3 =>
            rw [h3] at h hl
            simp only at h hl ⊢
            cases s3 with
            | none =>
              exfalso
              rw [rnum_none] at h
              simp only [rnum_none, rtext_none] at h
              cases h
            | some r3 =>
              have e3 := eachN_back (r := r2) k.toNat (x := r3) (by rw [h3])
              rw [h3] at e3
              simp only at e3
              cases h4 : rnum (some r3) full with
              | mk g s4 =>
                rw [h4] at h
                simp only at h ⊢
                cases s4 with
                | none =>
                  exfalso
                  rw [rnum_none] at h
                  simp only [rtext_none] at h
                  cases h
                | some r4 =>
                  obtain ⟨e4, _, _⟩ := rnum_some h4
                  cases h5 : rnum (some r4) full with
                  | mk rt s5 =>
                    rw [h5] at h
                    simp only at h ⊢
                    cases s5 with
                    | none =>
                      exfalso
                      rw [rtext_none] at h
                      cases h
                    | some r5 =>
                      obtain ⟨e5, _, _⟩ := rnum_some h5
                      cases h6 : rtext (some r5) 60 with
                      | mk t s6 =>
                        rw [h6] at h
                        simp only at h ⊢
                        subst h
                        obtain ⟨e6, _⟩ := rtext_some h6
                        rw [List.append_nil] at e6
                        have b5 : InB r5 := by
                          rw [e1, e2, e3, e4, e5] at hb
                          exact hb.right.right.right.right.right
                        have b6 : InB t := by rw [e6] at b5; exact b5.right
                        unfold cmB
                        simp only
                        rw [text_back b6, ← e6, ← e5, ← e4, hl, ← e3, ← e2]
                        exact e1.symm
theorem putM_of {b : List Int} (hb : InB b) (h : (ofM b).2 = 0) : putM (ofM b).1 = (b, 0) := by
  unfold ofM at h ⊢
  split at h
  · rename_i q
    rw [if_pos q]
    obtain ⟨q1, q2⟩ := q
    simp only
    unfold putM
    rw [if_neg (by simp [q2]), rawM_back hb q1]
  · cases h
/-- unlike commits have unlike bytes -/
theorem cmB_inj {c d : Cm} (hc : c.Sz) (hd : d.Sz) (h1 : cmE c = 0) (h2 : cmE d = 0) (h : cmB c = cmB d) : c = d := by
  obtain ⟨_, a2, a3⟩ := cmE_ok h1
  obtain ⟨_, b2, b3⟩ := cmE_ok h2
  have e1 := rawM_cmB hc a2 (txtOk_size a3)
  have e2 := rawM_cmB hd b2 (txtOk_size b3)
  rw [h, e2] at e1
  injection e1 with e1 _
  exact e1.symm
end Go.Proofs.Ytmkafoidfgaokaa
