/- States: pure; states in memory. -/
import Derived.Test.YtgjhmpmjbedjoaaQA3
import Derived.Test.YtgjhmpmjbedjoaaQCRi
namespace Go.Proofs.Ytgjhmpmjbedjoaa
open Go.RowKit Apo
structure Mk where
  id : Int
  ch : Int
def cMk (x : Mk) : List Value := [.int .u64 x.id, .int .u64 x.ch]
theorem cMk_len (x : Mk) : (cMk x).length = 2 := rfl
theorem cMk_one (x : Mk) : ∀ u ∈ cMk x, u.oneCell' = true := by simp [cMk, Value.oneCell']
theorem rd_mk {w : World} {a : Option Addr} {l : List Mk} (h : RdG cMk 2 w a l) {i : Nat} {x : Mk} (hi : l[i]? = some x) : ∃ g o, a = some ⟨g, o, none⟩ ∧ w.cell? ⟨g, o + i * 2, none⟩ = some (.int .u64 x.id) ∧ w.cell? ⟨g, o + i * 2 + 1, none⟩ = some (.int .u64 x.ch) := by
  obtain ⟨g, o, h1, h2⟩ := h i x hi
  exact ⟨g, o, h1, h2 0 _ rfl, h2 1 _ rfl⟩
set_option maxRecDepth 100000 in
theorem info_mk : (Try.prog.info? 60).map (fun i => (i.zero, i.size, i.bytes)) = some (some (.agg #[.int .u64 0, .int .u64 0]), 2, 16) := by kernel_rfl
theorem app_mk {O : Nat → Prop} {W : World} {v : Value} {l xs : List Mk} {y : Addr} {cp : Nat} (h : Row O W 60 2 v l.length (gcells cMk l)) (hn : l.length + xs.length ≤ 100000000) (hr : RdG cMk 2 W (some y) xs) :
    ∃ v' w', (Builtin.append_ #[24, 24] 24 #[v, .slice (some y) xs.length cp]).run Try.prog W = .ok v' w' ∧ Row (fun g => O g ∨ g = W.heap.size) w' 60 2 v' (l ++ xs).length (gcells cMk (l ++ xs)) ∧ Onl (fun g => v.ownBlock = some g) W w' ∧ ∀ g, v'.ownBlock = some g → v.ownBlock = some g ∨ g = W.heap.size :=
  app_G cMk_len (by decide) cMk_one Try.underlying24 info_mk (by rfl) (by decide) h hn hr
/-- a state -/
structure Sv where
  hd : ByteArray
  wk : Int
  nx : Int
  pd : Int
  rf : List Rf
  md : List Mk
  cl : List Cl
/-- a state, and where its rows lie -/
structure SvA where
  s : Sv
  ra : Option Addr
  rc : Nat
  ma : Option Addr
  mc : Nat
  ca : Option Addr
  cc : Nat
def cSv (x : SvA) : List Value := [.string x.s.hd, .int .u64 x.s.wk, .int .u64 x.s.nx, .int .u64 x.s.pd, .slice x.ra x.s.rf.length x.rc, .slice x.ma x.s.md.length x.mc, .slice x.ca x.s.cl.length x.cc]
theorem cSv_len (x : SvA) : (cSv x).length = 7 := rfl
def u64B (z : Int) : Prop := 0 ≤ z ∧ z ≤ 18446744073709551615
structure SvR (w : World) (x : SvA) : Prop where
  rr : RdG cRf 3 w x.ra x.s.rf
  mr : RdG cMk 2 w x.ma x.s.md
  cr : RdG cCl 7 w x.ca x.s.cl
  hz : x.s.hd.size ≤ maxLen
  rz : ∀ r ∈ x.s.rf, r.n.size ≤ maxLen
  cz : ClsSz x.s.cl
  nz : u64B x.s.wk ∧ u64B x.s.nx ∧ u64B x.s.pd
  ri : ∀ r ∈ x.s.rf, u64B r.i
  mi : ∀ m ∈ x.s.md, u64B m.id ∧ u64B m.ch
  rl : x.s.rf.length ≤ x.rc ∧ x.rc ≤ maxLen
  ml : x.s.md.length ≤ x.mc ∧ x.mc ≤ maxLen
  cl : x.s.cl.length ≤ x.cc ∧ x.cc ≤ maxLen
theorem SvR.below {w w' : World} {x : SvA} (h : SvR w x) (b : Below w.heap.size w w') : SvR w' x := { h with rr := h.rr.below b, mr := h.mr.below b, cr := h.cr.below b }
/-- the Made of an Id -/
def madeG (l : List Mk) (id : Int) : Option Mk := l.find? (fun m => m.id == id)
def chG (l : List Mk) (id : Int) : Int := match madeG l id with
  | some m => m.ch
  | none => 0
theorem madeG_at {l : List Mk} {id : Int} {k : Nat} {m : Mk} (h : l[k]? = some m) (hm : m.id = id) (hb : ∀ j x, j < k → l[j]? = some x → x.id ≠ id) : madeG l id = some m := by
  unfold madeG
  rw [List.find?_eq_some_iff_getElem]
  obtain ⟨hlt, hv⟩ := List.getElem?_eq_some_iff.1 h
  refine ⟨by simp [hm], k, hlt, hv, fun j hj => ?_⟩
  have := hb j l[j] hj (List.getElem?_eq_getElem _)
  simpa using this
theorem madeG_no {l : List Mk} {id : Int} (hb : ∀ x ∈ l, x.id ≠ id) : madeG l id = none := by
  unfold madeG
  rw [List.find?_eq_none]
  intro x hx
  simpa using hb x hx
def lowR (o : Option Rf) (n : ByteArray) : Bool := match o with
  | some p => !sLt p.n n
  | none => false
def lowM (o : Option Mk) (id : Int) : Bool := match o with
  | some p => decide (id ≤ p.id)
  | none => false
/-- whether a ref at a place may not be -/
def refB (s : Sv) (i : Nat) (r : Rf) : Bool := (!nameM r.n || (decide (0 < i) && lowR s.rf[i - 1]? r.n)) || (!(madeG s.md r.i).isSome && (r.t || (r.i != 0)))
/-- whether a Made at a place may not be -/
def mkB (s : Sv) (i : Nat) (m : Mk) : Bool := (((m.id == 0) || decide (s.nx ≤ m.id)) || (m.ch == 0)) || (decide (0 < i) && lowM s.md[i - 1]? m.id)
def hdB (hd : ByteArray) (r : Rf) : Bool := decide (r.n = hd) && !r.t
def headB (s : Sv) : Bool := s.rf.any (hdB s.hd)
noncomputable def finB (s : Sv) : Bool := (((((!headB s || (s.nx == 0)) || decide (40 < s.rf.length)) || decide (200 < s.md.length)) || ((s.pd != 0) && !(madeG s.md s.pd).isSome)) || ((s.pd == 0) && decide (0 < s.cl.length))) || (clashE s.cl != 0)
open Classical in
noncomputable def stateE (s : Sv) : Int := if (∃ i r, s.rf[i]? = some r ∧ refB s i r = true) ∨ (∃ i m, s.md[i]? = some m ∧ mkB s i m = true) ∨ finB s = true then 150 else 0
theorem stateE_ref {s : Sv} {i : Nat} {r : Rf} (h : s.rf[i]? = some r) (hb : refB s i r = true) : stateE s = 150 := by
  unfold stateE
  rw [if_pos (.inl ⟨i, r, h, hb⟩)]
theorem stateE_mk {s : Sv} {i : Nat} {m : Mk} (h : s.md[i]? = some m) (hb : mkB s i m = true) : stateE s = 150 := by
  unfold stateE
  rw [if_pos (.inr (.inl ⟨i, m, h, hb⟩))]
theorem stateE_fin {s : Sv} (hb : finB s = true) : stateE s = 150 := by
  unfold stateE
  rw [if_pos (.inr (.inr hb))]
theorem stateE_ok {s : Sv} (h1 : ∀ i r, s.rf[i]? = some r → refB s i r = false) (h2 : ∀ i m, s.md[i]? = some m → mkB s i m = false) (h3 : finB s = false) : stateE s = 0 := by
  unfold stateE
  rw [if_neg]
  rintro (⟨i, r, h, q⟩ | ⟨i, m, h, q⟩ | q)
  · rw [h1 i r h] at q; cases q
  · rw [h2 i m h] at q; cases q
  · rw [h3] at q; cases q
end Go.Proofs.Ytgjhmpmjbedjoaa
