/- Numbers as bytes, the highest first, and what a super sector is. No Go text is named here. -/
import Derived.Test.YtdpbkmbegjcgjaaRd
namespace Apo
open Go

/-- the last k bytes of a number, the highest first -/
def be : Nat → Nat → List Int
  | 0, _ => []
  | k + 1, n => ((n / 256 ^ k % 256 : Nat) : Int) :: be k n
theorem be_len : ∀ (k n : Nat), (be k n).length = k
  | 0, _ => rfl
  | k + 1, n => by simp [be, be_len k n]
theorem be_byt : ∀ (k n : Nat), ∀ z ∈ be k n, 0 ≤ z ∧ z ≤ 255
  | 0, _ => by simp [be]
  | k + 1, n => by
    intro z hz
    simp only [be, List.mem_cons] at hz
    rcases hz with rfl | hz
    · have : n / 256 ^ k % 256 < 256 := Nat.mod_lt _ (by decide)
      omega
    · exact be_byt k n z hz

def numN (l : List Int) : Nat := l.foldl (fun n x => n * 256 + x.toNat) 0
theorem fold_be : ∀ (k n acc : Nat), (be k n).foldl (fun n x => n * 256 + x.toNat) acc = acc * 256 ^ k + n % 256 ^ k
  | 0, n, acc => by simp [be, Nat.mod_one]
  | k + 1, n, acc => by
    simp only [be, List.foldl_cons, Int.toNat_natCast]
    rw [fold_be k n, Nat.mod_pow_succ, Nat.pow_succ]
    have e : (acc * 256 + n / 256 ^ k % 256) * 256 ^ k = acc * (256 ^ k * 256) + 256 ^ k * (n / 256 ^ k % 256) := by
      rw [Nat.add_mul, Nat.mul_assoc, Nat.mul_comm 256 (256 ^ k), Nat.mul_comm (n / 256 ^ k % 256)]
    rw [e]
    omega
theorem num_be {k n : Nat} (h : n < 256 ^ k) : numN (be k n) = n := by
  unfold numN
  rw [fold_be, Nat.zero_mul, Nat.zero_add, Nat.mod_eq_of_lt h]
theorem be_inj {k n m : Nat} (hn : n < 256 ^ k) (hm : m < 256 ^ k) (h : be k n = be k m) : n = m := by rw [← num_be hn, ← num_be hm, h]
theorem fold_lt : ∀ {l : List Int} (acc : Nat), (∀ z ∈ l, 0 ≤ z ∧ z ≤ 255) → l.foldl (fun n x => n * 256 + x.toNat) acc < (acc + 1) * 256 ^ l.length
  | [], acc, _ => by simp
  | x :: l, acc, h => by
    have h1 := h x (by simp)
    have ih := fold_lt (l := l) (acc * 256 + x.toNat) (fun z hz => h z (by simp [hz]))
    rw [List.foldl_cons, List.length_cons, Nat.pow_succ]
    refine Nat.lt_of_lt_of_le ih ?_
    rw [Nat.mul_comm (256 ^ l.length) 256, ← Nat.mul_assoc]
    exact Nat.mul_le_mul_right _ (by omega)
theorem num_lt {l : List Int} (h : ∀ z ∈ l, 0 ≤ z ∧ z ≤ 255) : numN l < 256 ^ l.length := by
  have := fold_lt (l := l) 0 h
  simpa [numN] using this
theorem num_snoc {l : List Int} {k : Nat} {x : Int} (h : l[k]? = some x) : numN (l.take (k + 1)) = numN (l.take k) * 256 + x.toNat := by
  rw [List.take_add_one, h]
  simp [numN, List.foldl_append]
/-- behind the first j of k bytes -/
theorem be_split : ∀ (j k n : Nat), be (j + k) n = (be (j + k) n).take j ++ be k n
  | 0, k, n => by simp
  | j + 1, k, n => by
    have e : j + 1 + k = (j + k) + 1 := by omega
    rw [e]
    simp only [be, List.take_succ_cons, List.cons_append]
    congr 1
    exact be_split j k n

structure Sup where
  e : Nat
  st : Nat
  pg : Nat
  sz : Nat
structure Sup.Ok (s : Sup) : Prop where
  e : s.e < 18446744073709551616
  st : s.st < 4294967296
  pg : s.pg < 4294967296
  sz : s.sz < 4294967296
def Sup.cells (s : Sup) : List Value := [.int .u64 s.e, .int .u32 s.st, .int .u32 s.pg, .int .u32 s.sz]
def Sup.val (s : Sup) : Value := .agg s.cells.toArray
def Sup.none : Sup := ⟨0, 0, 0, 0⟩
def apog : List Int := [97, 112, 111, 103]
def superB (s : Sup) : List Int := be 8 s.e ++ (be 4 s.st ++ (be 4 s.pg ++ (be 4 s.sz ++ (apog ++ be 8 s.e))))
theorem superB_len (s : Sup) : (superB s).length = 32 := by simp [superB, be_len, apog]
theorem superB_byt (s : Sup) : ∀ z ∈ superB s, 0 ≤ z ∧ z ≤ 255 := by
  intro z hz
  simp only [superB, List.mem_append] at hz
  rcases hz with h | h | h | h | h | h
  · exact be_byt _ _ z h
  · exact be_byt _ _ z h
  · exact be_byt _ _ z h
  · exact be_byt _ _ z h
  · simp [apog] at h; omega
  · exact be_byt _ _ z h
def rdSup (l : List Int) : Sup := ⟨numN (l.take 8), numN ((l.drop 8).take 4), numN ((l.drop 12).take 4), numN ((l.drop 16).take 4)⟩
theorem take8 (s : Sup) : (superB s).take 8 = be 8 s.e := by
  unfold superB
  rw [List.take_left' (be_len 8 s.e)]
theorem drop24 (s : Sup) : (superB s).drop 24 = be 8 s.e := by
  have e : superB s = (be 8 s.e ++ (be 4 s.st ++ (be 4 s.pg ++ (be 4 s.sz ++ apog)))) ++ be 8 s.e := by simp [superB]
  rw [e, List.drop_left' (by simp [be_len, apog])]
theorem rdSup_superB {s : Sup} (h : s.Ok) : rdSup (superB s) = s := by
  have e1 : (superB s).take 8 = be 8 s.e := take8 s
  have e2 : ((superB s).drop 8).take 4 = be 4 s.st := by
    unfold superB
    rw [List.drop_left' (be_len 8 s.e), List.take_left' (be_len 4 s.st)]
  have e3 : ((superB s).drop 12).take 4 = be 4 s.pg := by
    have e : superB s = (be 8 s.e ++ be 4 s.st) ++ (be 4 s.pg ++ (be 4 s.sz ++ (apog ++ be 8 s.e))) := by simp [superB]
    rw [e, List.drop_left' (by simp [be_len]), List.take_left' (be_len 4 s.pg)]
  have e4 : ((superB s).drop 16).take 4 = be 4 s.sz := by
    have e : superB s = (be 8 s.e ++ (be 4 s.st ++ be 4 s.pg)) ++ (be 4 s.sz ++ (apog ++ be 8 s.e)) := by simp [superB]
    rw [e, List.drop_left' (by simp [be_len]), List.take_left' (be_len 4 s.sz)]
  unfold rdSup
  rw [e1, e2, e3, e4, num_be (k := 8) (by have := h.e; simpa using this), num_be (k := 4) (by have := h.st; simpa using this), num_be (k := 4) (by have := h.pg; simpa using this), num_be (k := 4) (by have := h.sz; simpa using this)]
theorem rdSup_ok {l : List Int} (h : ∀ z ∈ l, 0 ≤ z ∧ z ≤ 255) : (rdSup l).Ok := by
  have f : ∀ (a k : Nat), numN ((l.drop a).take k) < 256 ^ k := fun a k => by
    have h1 := num_lt (l := (l.drop a).take k) (fun z hz => h z (List.mem_of_mem_drop (List.mem_of_mem_take hz)))
    refine Nat.lt_of_lt_of_le h1 (Nat.pow_le_pow_right (by decide) (by simp; omega))
  have f0 := f 0 8
  rw [List.drop_zero] at f0
  exact ⟨by simpa [rdSup] using f0, by simpa [rdSup] using f 8 4, by simpa [rdSup] using f 12 4, by simpa [rdSup] using f 16 4⟩
/-- the super that bytes are -/
def isSup (l : List Int) : Bool := l.length == 32 && (rdSup l).e != 0 && superB (rdSup l) == l
def supOf (l : List Int) : Sup := if isSup l then rdSup l else Sup.none
theorem isSup_superB {s : Sup} (h : s.Ok) : isSup (superB s) = (s.e != 0) := by
  unfold isSup
  rw [rdSup_superB h, superB_len]
  simp
theorem supOf_superB {s : Sup} (h : s.Ok) (h0 : s.e ≠ 0) : supOf (superB s) = s := by
  unfold supOf
  rw [isSup_superB h, if_pos (by simpa using h0), rdSup_superB h]
theorem isSup_bytes {l : List Int} (h : isSup l = true) : superB (supOf l) = l ∧ (supOf l).e ≠ 0 := by
  unfold supOf
  rw [if_pos h]
  unfold isSup at h
  simp only [Bool.and_eq_true, beq_iff_eq, bne_iff_ne] at h
  exact ⟨h.2, h.1.2⟩
theorem superB_inj {s t : Sup} (hs : s.Ok) (ht : t.Ok) (h : superB s = superB t) : s = t := by rw [← rdSup_superB hs, ← rdSup_superB ht, h]
theorem supOf_ok {l : List Int} (h : ∀ z ∈ l, 0 ≤ z ∧ z ≤ 255) : (supOf l).Ok := by
  unfold supOf
  split
  · exact rdSup_ok h
  · exact ⟨by decide, by decide, by decide, by decide⟩

/-- a sector whose first bytes are of one super, and whose others are of another one with another epoch -/
theorem torn_sup {a b : Sup} (ha : a.Ok) (hb : b.Ok) (hne : a.e ≠ b.e) {k : Nat} (hk : k ≤ 32) (h : isSup ((superB b).take k ++ (superB a).drop k) = true) : supOf ((superB b).take k ++ (superB a).drop k) = a ∨ supOf ((superB b).take k ++ (superB a).drop k) = b := by
  have la := superB_len a
  have lb := superB_len b
  have hby : ∀ z ∈ (superB b).take k ++ (superB a).drop k, 0 ≤ z ∧ z ≤ 255 := by
    intro z hz
    rcases List.mem_append.1 hz with h | h
    · exact superB_byt b z (List.mem_of_mem_take h)
    · exact superB_byt a z (List.mem_of_mem_drop h)
  have hok := supOf_ok hby
  obtain ⟨h1, _⟩ := isSup_bytes h
  generalize supOf ((superB b).take k ++ (superB a).drop k) = s at h1 hok
  have lt : ((superB b).take k).length = k := by rw [List.length_take, lb]; omega
  -- the two epochs of s
  have t8 := take8 s
  have d24 := drop24 s
  rw [h1] at t8 d24
  have e64 : ∀ {x : Sup}, x.Ok → x.e < 256 ^ 8 := fun hx => by have := hx.e; simpa using this
  by_cases hk1 : k ≤ 24
  · -- the last eight bytes are a's
    have q : ((superB b).take k ++ (superB a).drop k).drop 24 = be 8 a.e := by
      rw [List.drop_append, lt, List.drop_eq_nil_of_le (by rw [lt]; exact hk1), List.nil_append, List.drop_drop, show k + (24 - k) = 24 by omega]
      exact drop24 a
    have ea : a.e = s.e := be_inj (e64 ha) (e64 hok) (by rw [← q, d24])
    by_cases hk2 : 8 ≤ k
    · have q8 : ((superB b).take k ++ (superB a).drop k).take 8 = be 8 b.e := by
        rw [List.take_append_of_le_length (by rw [lt]; exact hk2), List.take_take, Nat.min_eq_left hk2]
        exact take8 b
      have eb : b.e = s.e := be_inj (e64 hb) (e64 hok) (by rw [← q8, t8])
      exact absurd (ea.trans eb.symm) hne
    · -- all of it is a's
      left
      refine superB_inj hok ha ?_
      rw [h1]
      have q8 : ((superB b).take k ++ (superB a).drop k).take 8 = (superB a).take 8 := by rw [t8, ← ea, take8 a]
      have qd : ((superB b).take k ++ (superB a).drop k).drop 8 = (superB a).drop 8 := by
        rw [List.drop_append, lt, List.drop_eq_nil_of_le (by rw [lt]; omega), List.nil_append, List.drop_drop, show k + (8 - k) = 8 by omega]
      rw [← List.take_append_drop 8 ((superB b).take k ++ (superB a).drop k), q8, qd, List.take_append_drop]
  · -- the first 24 bytes are b's
    right
    have q8 : ((superB b).take k ++ (superB a).drop k).take 8 = be 8 b.e := by
      rw [List.take_append_of_le_length (by rw [lt]; omega), List.take_take, Nat.min_eq_left (by omega)]
      exact take8 b
    have eb : b.e = s.e := be_inj (e64 hb) (e64 hok) (by rw [← q8, t8])
    refine superB_inj hok hb ?_
    rw [h1]
    have qt : ((superB b).take k ++ (superB a).drop k).take 24 = (superB b).take 24 := by
      rw [List.take_append_of_le_length (by rw [lt]; omega), List.take_take, Nat.min_eq_left (by omega)]
    have qd : ((superB b).take k ++ (superB a).drop k).drop 24 = (superB b).drop 24 := by rw [d24, ← eb, drop24 b]
    rw [← List.take_append_drop 24 ((superB b).take k ++ (superB a).drop k), qt, qd, List.take_append_drop]
end Apo
