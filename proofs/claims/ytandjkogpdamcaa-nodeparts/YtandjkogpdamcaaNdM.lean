/- Nodes as they are meant, pure. -/
import Derived.Test.YtandjkogpdamcaaEnds
namespace Apo
open Go Go.RowKit
/-- an entry, a child, a node -/
structure En where
  k : ByteArray
  v : ByteArray
structure Ki where
  k : ByteArray
  i : Nat
structure Nd where
  lv : Int
  es : List En
  ks : List Ki
instance : Inhabited En := ⟨⟨ByteArray.empty, ByteArray.empty⟩⟩
instance : Inhabited Ki := ⟨⟨ByteArray.empty, 0⟩⟩
def keyE (k : ByteArray) : Int := if k.size < 1 ∨ 40 < k.size then 100 else 0
def valE (v : ByteArray) : Int := if 200 < v.size then 101 else 0
def endsN (lv : Int) (k : ByteArray) : Bool := decide (lv < 20) && ends lv k
def sLt (a b : ByteArray) : Bool := Op.bytesLess a.toList b.toList
def enE (e : En) : Int := if keyE e.k ≠ 0 then keyE e.k else valE e.v
def kiE (k : Ki) : Int := keyE k.k
/-- the first error of a row -/
def firstE {α : Type} (f : α → Int) : List α → Int
  | [] => 0
  | x :: l => if f x ≠ 0 then f x else firstE f l
theorem firstE_none {α : Type} {f : α → Int} : ∀ {l : List α}, (∀ x ∈ l, f x = 0) → firstE f l = 0
  | [], _ => rfl
  | x :: l, h => by
    unfold firstE
    rw [if_neg (by rw [h x (by simp)]; simp)]
    exact firstE_none (fun y hy => h y (by simp [hy]))
theorem firstE_at {α : Type} {f : α → Int} : ∀ {l : List α} {k : Nat} {x : α}, l[k]? = some x → (∀ y ∈ l.take k, f y = 0) → f x ≠ 0 → firstE f l = f x
  | [], _, _, h, _, _ => by simp at h
  | y :: l, 0, x, h, _, hx => by
    simp at h
    subst h
    unfold firstE
    rw [if_pos hx]
  | y :: l, k + 1, x, h, hb, hx => by
    unfold firstE
    rw [if_neg (by rw [hb y (by simp)]; simp)]
    exact firstE_at (k := k) (by simpa using h) (fun z hz => hb z (by simp [hz])) hx
def Nd.keys (n : Nd) : List ByteArray := n.es.map En.k ++ n.ks.map Ki.k
def Nd.leaf (n : Nd) : Bool := n.lv == 0 && decide (0 < n.es.length) && decide (n.ks.length = 0)
def Nd.inner (n : Nd) : Bool := decide (0 < n.lv) && decide (n.lv ≤ 20) && decide (0 < n.ks.length) && decide (n.es.length = 0)
/-- what is wrong with a key at its place -/
def badAt (lv : Int) (ks : List ByteArray) (i : Nat) : Bool := (decide (0 < i) && !(sLt (ks.getD (i - 1) ByteArray.empty) (ks.getD i ByteArray.empty))) || (decide (i + 1 < ks.length) && endsN lv (ks.getD i ByteArray.empty))
def nodeE (n : Nd) : Int :=
  if firstE enE n.es ≠ 0 then firstE enE n.es
  else if firstE kiE n.ks ≠ 0 then firstE kiE n.ks
  else if (n.leaf || n.inner) = false then 90
  else if ∃ i, i < n.keys.length ∧ badAt n.lv n.keys i = true then 90
  else if ∃ k ∈ n.ks, k.i = 0 then 90
  else 0
/-- entries in a row of memory -/
def RdEn (w : World) (a : Option Addr) (l : List En) : Prop :=
  ∀ i e, l[i]? = some e → ∃ g o, a = some ⟨g, o, none⟩ ∧ w.cell? ⟨g, o + i * 2, none⟩ = some (.string e.k) ∧ w.cell? ⟨g, o + i * 2 + 1, none⟩ = some (.string e.v)
def RdKi (w : World) (a : Option Addr) (l : List Ki) : Prop :=
  ∀ i e, l[i]? = some e → ∃ g o, a = some ⟨g, o, none⟩ ∧ w.cell? ⟨g, o + i * 2, none⟩ = some (.string e.k) ∧ w.cell? ⟨g, o + i * 2 + 1, none⟩ = some (.int .u64 (e.i : Int))
theorem RdEn.below {w w' : World} {a : Option Addr} {l : List En} (h : RdEn w a l) (b : Below w.heap.size w w') : RdEn w' a l := fun i e hi => by
  obtain ⟨g, o, h1, h2, h3⟩ := h i e hi
  have hg := World.block_lt_of_cell? _ _ h2
  exact ⟨g, o, h1, (b.cell (p := ⟨g, o + i * 2, none⟩) hg).trans h2, (b.cell (p := ⟨g, o + i * 2 + 1, none⟩) hg).trans h3⟩
theorem RdKi.below {w w' : World} {a : Option Addr} {l : List Ki} (h : RdKi w a l) (b : Below w.heap.size w w') : RdKi w' a l := fun i e hi => by
  obtain ⟨g, o, h1, h2, h3⟩ := h i e hi
  have hg := World.block_lt_of_cell? _ _ h2
  exact ⟨g, o, h1, (b.cell (p := ⟨g, o + i * 2, none⟩) hg).trans h2, (b.cell (p := ⟨g, o + i * 2 + 1, none⟩) hg).trans h3⟩
/-- a node in memory: its slices' addresses beside it -/
structure NdA where
  n : Nd
  ea : Option Addr
  ec : Nat
  ka : Option Addr
  kc : Nat
def NdA.cells (x : NdA) : List Value := [.int .i64 x.n.lv, .slice x.ea x.n.es.length x.ec, .slice x.ka x.n.ks.length x.kc]
structure OkN (w : World) (x : NdA) : Prop where
  es : RdEn w x.ea x.n.es
  ks : RdKi w x.ka x.n.ks
  en : x.ea = none → x.ec = 0
  kn : x.ka = none → x.kc = 0
  el : x.n.es.length ≤ x.ec
  kl : x.n.ks.length ≤ x.kc
  eb : x.ec ≤ maxLen
  kb : x.kc ≤ maxLen
  lv : -9223372036854775808 ≤ x.n.lv ∧ x.n.lv ≤ 9223372036854775807
  sz : ∀ e ∈ x.n.es, e.k.size ≤ maxLen ∧ e.v.size ≤ maxLen
  kz : ∀ k ∈ x.n.ks, k.k.size ≤ maxLen ∧ k.i < 18446744073709551616
theorem OkN.below {w w' : World} {x : NdA} (h : OkN w x) (b : Below w.heap.size w w') : OkN w' x := { h with es := h.es.below b, ks := h.ks.below b }
end Apo
