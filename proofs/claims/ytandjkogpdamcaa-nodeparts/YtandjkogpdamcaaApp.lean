/- An append whose run is known, at a step of a region, drawn or not; an append behind a slice that is full. No Go text is named here. -/
import Derived.Test.YtandjkogpdamcaaOnl
import Derived.Test.YtandjkogpdamcaaApn
import Derived.BigFrame
namespace Apo
open Go Go.RowKit

theorem wpList_appends {P : Program} {w : World} {ops : Array Oper} {rest : List Oper} {o : Oper} {a : Act} {Q : Exit → Act → World → Prop} (hgd : o.guard = none) (s x : Operand) (t : TypeId)
    (ho : o.op = .call { callee := .builtin .append, args := #[s, x], argTypes := #[t, t] }) (vs vx v' : Value) (w' : World) (hs : a.eval s = vs) (hx : a.eval x = vx)
    (hr : (Builtin.append_ #[t, t] o.type #[vs, vx]).run P w = .ok v' w') (h : wpList P ops Q rest (a.put o.dst v') w') : wpList P ops Q (o :: rest) a w :=
  wpList_plain hgd fun _ hK => by
    unfold Oper.wp execOp
    simp only [ho, resolve, invoke, builtin, Sem.run_bind, Sem.run_pure, Result.andThen_ok, List.map_toArray, List.map_cons, List.map_nil, hs, hx, hr]
    exact hK _ _ h

theorem step_appends {P : Program} {ops : Array Oper} {o : Oper} {a : Act} {w : World} {K : Act → World → Prop} {Q : Exit → Act → World → Prop} {E : Prop}
    (hgd : o.guard = none) (s x : Operand) (t : TypeId) (hop : o.op = Op.call { callee := Callee.builtin Builtin.append, args := #[s, x], argTypes := #[t, t] })
    (vs vx v' : Value) (w' : World) (hs : a.eval s = vs) (hx : a.eval x = vx)
    (hr : (Builtin.append_ #[t, t] o.type #[vs, vx]).run P w = .ok v' w') (hK : K (a.put o.dst v') w') :
    if Region.wanted o (yielded ops a.tmps) = true then Oper.wp P o a w K Q else E := by
  have hw : Region.wanted o (yielded ops a.tmps) = true := by simp [Region.wanted, hgd]
  rw [if_pos hw]
  unfold Oper.wp
  simp [execOp, hop, resolve, invoke, builtin, hs, hx, hr, Result.andThen]
  exact hK

/-- 'append(v[:n:n], x..)': v's cells are read, the row is new -/
theorem run_append_full {P : Program} {w : World} (t ty e : TypeId) (i : TypeInfo) (z : Value) (size bytes : Nat) (ht : P.underlying t = some (.slice e)) (hi : P.info? e = some i) (hz : i.zero = some z)
    (hsize : i.size = size) (hby : i.bytes = bytes) (hzs : z.cells.size = size) (ad : Addr) (n : Nat) (xs : List Value) (hx : xs.length = n * size) (hxs : ∀ j u, xs[j]? = some u → w.cell? (ad.add j) = some u)
    (a : Addr) (m c : Nat) (news : List Value) (hl : news.length = m * size) (hnews : ∀ j u, news[j]? = some u → w.cell? (a.add j) = some u)
    (hm : 0 < m) (h63 : n + m ≤ maxLen) (hbytes : (n + m) * bytes ≤ 140737488355328) :
    ∃ v' w', (Builtin.append_ #[t, t] ty #[.slice (some ad) n n, .slice (some a) m c]).run P w = .ok v' w' ∧ w'.ownsRow w.heap.size e size v' (n + m) (xs ++ news) ∧ w.grownBy w' none := by
  subst hsize
  subst hby
  have hsmall : n + m ≤ 9223372036854775807 := by simp only [maxLen] at h63; omega
  have hr := run_append_grow (P := P) w t ty e i z ht hi hz ad n n xs hx hxs a m c news hl hnews (by omega) (by omega) (growslice_fits (by omega) hbytes)
  have hlen : (xs ++ news).length = (n + m) * i.size := by rw [List.length_append, hx, hl, Nat.add_mul]
  have hge := grownCap_ge w (n + m) n e
  have hcm : grownCap w (n + m) n e ≤ maxLen := grownCap_le_maxLen w (n + m) n e h63
  refine ⟨_, _, hr, ⟨hlen, .inr ⟨w.heap.size, _, _, rfl, Nat.le_refl _, heap_alloc_new w.drew _, hge, hcm, ?_, ?_⟩⟩, ⟨rfl, rfl, rfl, by simp, fun k hk _ => Below.heap_alloc w.drew _ k hk⟩⟩
  · simp only [Array.size_append, List.size_toArray, size_zeroCells, hzs, hx, hl, ← Nat.add_mul]
    congr 1
    omega
  · simp only [Array.toList_append, List.append_assoc]
    rw [← List.append_assoc, ← hlen]
    exact List.take_left

/-- an append that runs to its end; what it answers, and the world behind it -/
def AppRuns (P : Program) (w : World) (ts : Array TypeId) (ty : TypeId) (xs : Array Value) : Prop := ∃ v' w', (Builtin.append_ ts ty xs).run P w = .ok v' w'
noncomputable def appVal (P : Program) (w : World) (ts : Array TypeId) (ty : TypeId) (xs : Array Value) : Value := match (Builtin.append_ ts ty xs).run P w with
  | .ok v _ => v
  | _ => undef
noncomputable def appWld (P : Program) (w : World) (ts : Array TypeId) (ty : TypeId) (xs : Array Value) : World := match (Builtin.append_ ts ty xs).run P w with
  | .ok _ w' => w'
  | _ => w
theorem app_runs {P : Program} {w w' : World} {ts : Array TypeId} {ty : TypeId} {xs : Array Value} {v' : Value} (h : (Builtin.append_ ts ty xs).run P w = .ok v' w') : AppRuns P w ts ty xs ∧ appVal P w ts ty xs = v' ∧ appWld P w ts ty xs = w' :=
  ⟨⟨v', w', h⟩, by unfold appVal; rw [h], by unfold appWld; rw [h]⟩
theorem app_run {P : Program} {w : World} {ts : Array TypeId} {ty : TypeId} {xs : Array Value} (h : AppRuns P w ts ty xs) : (Builtin.append_ ts ty xs).run P w = .ok (appVal P w ts ty xs) (appWld P w ts ty xs) := by
  obtain ⟨v', w', h⟩ := h
  obtain ⟨_, h1, h2⟩ := app_runs h
  rw [h1, h2]
  exact h
/-- the same at the operation, ahead of any unfolding -/
theorem app_exec {P : Program} {w : World} {ρ : Operand → Value} {dst : Option Tmp} {xs : Array Operand} {ats : Array TypeId} {ty : TypeId} {pos : String} {after : Array Edge} {guard : Option (Nat × Bool)} (h : AppRuns P w ats ty (xs.map ρ)) :
    (execOp ρ { dst, op := .call { callee := .builtin .append, args := xs, argTypes := ats }, type := ty, pos, after, guard }).run P w = .ok (.value (appVal P w ats ty (xs.map ρ))) (appWld P w ats ty (xs.map ρ)) := by
  rw [BigFrame.execOp_builtin, BigFrame.builtin_append]
  simp [app_run h]
end Apo
