/- Bytes of a string as numbers; bytes behind bytes that the call owns, nil or not. No Go text is named here. -/
import Derived.Test.YtandjkogpdamcaaStr
import Derived.Test.YtandjkogpdamcaaObj
import Derived.Lib.AppendStr
namespace Apo
open Go Go.RowKit

/-- a string's bytes, as numbers -/
def nums (s : ByteArray) : List Int := s.data.toList.map fun b => (b.toNat : Int)

theorem nums_length (s : ByteArray) : (nums s).length = s.size := by
  rw [nums, List.length_map, Array.length_toList]; rfl
theorem strCells_nums (s : ByteArray) : Go.Lib.strCells s = (nums s).map (Value.int .u8) := by
  simp [Go.Lib.strCells, nums]
theorem nums_byte (s : ByteArray) : ∀ z ∈ nums s, 0 ≤ z ∧ z ≤ 255 := by
  intro z hz
  simp only [nums, List.mem_map] at hz
  obtain ⟨b, _, rfl⟩ := hz
  have := b.toNat_lt
  omega
theorem strOfNums_nums (s : ByteArray) : strOfNums (nums s) = s := by
  apply ByteArray.ext
  apply Array.ext'
  rw [strOfNums_data, nums, List.map_map]
  conv => rhs; rw [← List.map_id s.data.toList]
  refine List.map_congr_left fun z _ => ?_
  simp [Function.comp]
theorem nums_strOfNums {l : List Int} (h : ∀ z ∈ l, 0 ≤ z ∧ z ≤ 255) : nums (strOfNums l) = l := by
  unfold nums
  rw [strOfNums_data, List.map_map]
  conv => rhs; rw [← List.map_id l]
  refine List.map_congr_left fun z hz => ?_
  have := h z hz
  simp only [Function.comp, id, UInt8.toNat_ofNat']
  omega
theorem nums_inj {s t : ByteArray} (h : nums s = nums t) : s = t := by
  rw [← strOfNums_nums s, ← strOfNums_nums t, h]

/-- 'append(v, src...)': v is the call's own, src is nil, empty or not -/
theorem run_append_rd {P : Program} {w : World} (base : Nat) (t ty e : TypeId) (i : TypeInfo) (z : Value) (bytes : Nat) (h1 : P.underlying t = some (.slice e)) (h2 : P.info? e = some i) (h3 : i.zero = some z) (h4 : i.size = 1) (h5 : i.bytes = bytes) (h6 : z.cells.size = 1)
    (k : IntKind) (v : Value) (cur : List Int) (hown : w.ownsRow base e 1 v cur.length (cur.map (Value.int k))) (ao : Option Addr) (c : Nat) (l : List Int) (hr : Rd k w ao l) (hn : ao = none → c = 0)
    (b1 : cur.length + l.length ≤ maxLen) (b2 : (cur.length + l.length) * bytes ≤ 140737488355328) (hb : base ≤ w.heap.size) :
    ∃ v' w', (Builtin.append_ #[t, t] ty #[v, .slice ao l.length c]).run P w = .ok v' w' ∧ w'.ownsRow base e 1 v' (cur ++ l).length ((cur ++ l).map (Value.int k)) ∧ w.grownBy w' v.ownBlock := by
  cases ao with
  | none =>
    have hl : l = [] := by
      rcases Nat.eq_zero_or_pos l.length with h | h
      · exact List.eq_nil_of_length_eq_zero h
      · obtain ⟨_, _, h', _⟩ := hr 0 h; cases h'
    subst hl
    have hc := hn rfl
    subst hc
    exact ⟨v, w, run_append_owned_none (P := P) w base t ty e i 1 h1 h2 v _ _ hown, by simpa using hown, World.grownBy.refl _ _⟩
  | some ad =>
    obtain ⟨v', w', hrun, r1, r2, _⟩ := run_append_own (P := P) w base t ty e i z 1 bytes h1 h2 h3 h4 h5 h6 (by decide) v _ _ hown ad l.length c (l.map (Value.int k)) (by simp) hr.news (ints_oneCell _ _) b1 b2 hb
    exact ⟨v', w', hrun, by simpa using r1, r2⟩

/-- the same at a step of a region that draws its order -/
theorem step_append_rd {P : Program} {ops : Array Oper} {o : Oper} {a : Act} {w : World} {K : Act → World → Prop} {Q : Exit → Act → World → Prop} {E : Prop}
    (hgd : o.guard = none) (s x : Operand) (t : TypeId) (hop : o.op = Op.call { callee := Callee.builtin Builtin.append, args := #[s, x], argTypes := #[t, t] })
    (base : Nat) (e : TypeId) (i : TypeInfo) (z : Value) (bytes : Nat) (h1 : P.underlying t = some (.slice e)) (h2 : P.info? e = some i) (h3 : i.zero = some z) (h4 : i.size = 1) (h5 : i.bytes = bytes) (h6 : z.cells.size = 1)
    (k : IntKind) (v : Value) (cur : List Int) (hs : a.eval s = v) (hown : w.ownsRow base e 1 v cur.length (cur.map (Value.int k))) (ao : Option Addr) (c : Nat) (l : List Int) (hx : a.eval x = .slice ao l.length c) (hr : Rd k w ao l) (hn : ao = none → c = 0)
    (b1 : cur.length + l.length ≤ maxLen) (b2 : (cur.length + l.length) * bytes ≤ 140737488355328) (hb : base ≤ w.heap.size)
    (hK : ∀ v' w', w'.ownsRow base e 1 v' (cur ++ l).length ((cur ++ l).map (Value.int k)) → w.grownBy w' v.ownBlock → K (a.put o.dst v') w') :
    if Region.wanted o (yielded ops a.tmps) = true then Oper.wp P o a w K Q else E := by
  have hw : Region.wanted o (yielded ops a.tmps) = true := by simp [Region.wanted, hgd]
  rw [if_pos hw]
  obtain ⟨v', w', hrun, r1, r2⟩ := run_append_rd (P := P) base t o.type e i z bytes h1 h2 h3 h4 h5 h6 k v cur hown ao c l hr hn b1 b2 hb
  unfold Oper.wp
  simp [execOp, hop, resolve, invoke, builtin, hs, hx, hrun, Result.andThen]
  exact hK v' w' r1 r2
end Apo
