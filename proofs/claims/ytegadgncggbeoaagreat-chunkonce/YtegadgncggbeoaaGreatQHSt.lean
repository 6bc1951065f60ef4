/- The program's Store in memory, and its small functions, over the translation. -/
import Derived.Test.YtegadgncggbeoaaGreatQHSh
import Derived.Test.YtegadgncggbeoaaGreatQPMg
import Derived.Test.YtegadgncggbeoaaGreatQPOe
import Derived.Test.YtegadgncggbeoaaGreatQPFm
import Derived.Test.YtegadgncggbeoaaGreatQGSo
namespace Apo
open Go Go.RowKit
/-- by what a text is looked for -/
def sumN (b : List Int) : Nat := (more fnvStart (strOfNums b)).toNat
theorem sumN_lt (b : List Int) : sumN b < 18446744073709551616 := by
  have := more_bd (strOfNums b) fnvStart (by decide) (by decide)
  unfold sumN
  omega
theorem sumN_int (b : List Int) : ((sumN b : Nat) : Int) = more fnvStart (strOfNums b) := by
  have := more_bd (strOfNums b) fnvStart (by decide) (by decide)
  unfold sumN
  omega
/-- a store as the program keeps it -/
structure Cs where
  c : Cg
  st : Sd
  ch : Nat → Option Ck
  next : Nat
  state : List Int
  first : Nat
  gone : Nat → Option Ck
  ended : Bool
/-- which errors are an end -/
def endsE (e : Int) : Bool := e != 0 && e != 2 && e != 70
def Cs.get (S : Cs) (c : Ck) : List Int × Int := S.c.get S.st c.at' c.size
theorem rd2_byt {st : Sd} (ok : OkS st) (a size : Int) : ∀ z ∈ (st.rdText2 a size).1, 0 ≤ z ∧ z ≤ 255 := fun z hz => by
  unfold Sd.rdText2 at hz
  split at hz
  · simp at hz
  · split at hz
    · split at hz
      · have := List.mem_of_mem_take hz
        obtain ⟨i, _, hi⟩ := List.mem_flatMap.1 this
        exact txOf_byt (gat_byt ok _ _) i z hi
      · simp at hz
    · simp at hz
theorem cget_byt {c : Cg} {st : Sd} (ok : OkS st) (s : Spn) (size : Int) : ∀ z ∈ (c.get st s size).1, 0 ≤ z ∧ z ≤ 255 := fun z hz => by
  unfold Cg.get at hz
  split at hz
  · simp at hz
  · split at hz
    · exact rd2_byt ok _ _ z hz
    · simp at hz
end Apo
namespace Go.Proofs.YtegadgncggbeoaaGreat
open Go.RowKit Apo
def stC (pg bc bs bg : Nat) (sa : Option Addr) (sc : Nat) (S : Cs) : List Value := [.pointer (some ⟨pg, 0, none⟩), .map (some bc), .map (some bs), .int .u64 S.next, .slice sa S.state.length sc, .int .u64 S.first, .map (some bg), .bool S.ended]
/-- a Store in memory: L tells whose each block is -/
structure CSd (L : Nat → Nat) (w : World) (s d : Nat) (S : Cs) (pg bc bs bg : Nat) (sa : Option Addr) (sc : Nat) (sm : Nat → List Nat) : Prop where
  ob : Ob w s 82 (stC pg bc bs bg sa sc S)
  ls : L s = 1
  px : CPx (fun i => L i = 2) w pg d S.c S.st
  sh : CSh L w bc bs S.ch sm
  mg : Mp Tryz.prog 31 w bg (ckM S.gone)
  lg : L bg = 5
  rd : Rd .u8 w sa S.state
  rn : sa = none → sc = 0
  rl : S.state.length ≤ sc
  rt : ∀ x, sa = some x → 0 < S.state.length → L x.block = 6
  lt : ∀ i, L i ≠ 0 → i < w.heap.size
end Go.Proofs.YtegadgncggbeoaaGreat
namespace Apo
open Go Go.RowKit
/-- the lists are those of the chunks' sums -/
structure SumOk (ch : Nat → Option Ck) (sm : Nat → List Nat) : Prop where
  is : ∀ k i, i ∈ sm k ↔ ∃ c, ch i = some c ∧ c.sum = k
  nd : ∀ k, (sm k).Nodup
/-- at most so many chunks -/
def Few (ch : Nat → Option Ck) (n : Nat) : Prop := ∃ K : List Nat, (∀ i, ch i ≠ none → i ∈ K) ∧ K.length ≤ n
theorem Few.mono {ch : Nat → Option Ck} {n m : Nat} (h : Few ch n) (hm : n ≤ m) : Few ch m := by
  obtain ⟨K, h1, h2⟩ := h
  exact ⟨K, h1, by omega⟩
theorem SumOk.len {ch : Nat → Option Ck} {sm : Nat → List Nat} (h : SumOk ch sm) {n : Nat} (hf : Few ch n) (k : Nat) : (sm k).length ≤ n := by
  obtain ⟨K, h1, h2⟩ := hf
  refine Nat.le_trans (nodup_le _ K (h.nd k) (fun i hi => h1 i ?_)) h2
  obtain ⟨c, hc, _⟩ := (h.is k i).1 hi
  rw [hc]
  simp
theorem SumOk.cover {ch : Nat → Option Ck} {sm : Nat → List Nat} (h : SumOk ch sm) {n : Nat} (hf : Few ch n) : ∃ K : List Nat, (∀ k, sm k ≠ [] → k ∈ K) ∧ K.length ≤ n := by
  obtain ⟨K, h1, h2⟩ := hf
  refine ⟨K.map (fun i => match ch i with | some c => c.sum | none => 0), fun k hk => ?_, by simp; exact h2⟩
  obtain ⟨i, hi⟩ := List.exists_mem_of_ne_nil _ hk
  obtain ⟨c, hc, hs⟩ := (h.is k i).1 hi
  exact List.mem_map.2 ⟨i, h1 i (by rw [hc]; simp), by rw [hc]; exact hs⟩
/-- a new chunk -/
theorem SumOk.add {ch : Nat → Option Ck} {sm : Nat → List Nat} (h : SumOk ch sm) {id : Nat} (hn : ch id = none) {c : Ck} {l : List Nat} (hl : l.Perm (id :: sm c.sum)) : SumOk (upd ch id (some c)) (upd sm c.sum l) := by
  refine ⟨fun k i => ?_, fun k => ?_⟩
  · by_cases q : k = c.sum
    · subst q
      rw [upd_same, hl.mem_iff, List.mem_cons]
      by_cases z : i = id
      · subst z
        rw [upd_same]
        exact ⟨fun _ => ⟨c, rfl, rfl⟩, fun _ => .inl rfl⟩
      · rw [upd_other _ _ z, ← h.is]
        exact ⟨fun y => y.elim (fun y => absurd y z) (fun y => y), .inr⟩
    · rw [upd_other _ _ q, h.is]
      by_cases z : i = id
      · subst z
        rw [upd_same, hn]
        exact ⟨fun ⟨c', y, _⟩ => (by cases y), fun ⟨c', y, y2⟩ => (by cases y; exact absurd y2.symm q)⟩
      · rw [upd_other _ _ z]
  · by_cases q : k = c.sum
    · subst q
      rw [upd_same, hl.nodup_iff, List.nodup_cons]
      exact ⟨fun z => (by obtain ⟨c', y, _⟩ := (h.is _ _).1 z; rw [hn] at y; cases y), h.nd _⟩
    · rw [upd_other _ _ q]
      exact h.nd k
end Apo
namespace Go.Proofs.YtegadgncggbeoaaGreat
open Go.RowKit Apo
def CSx (O : Nat → Prop) (w : World) (s d : Nat) (S : Cs) : Prop := ∃ L pg bc bs bg sa sc sm, CSd L w s d S pg bc bs bg sa sc sm ∧ SumOk S.ch sm ∧ ∀ i, L i ≠ 0 → O i
section
variable {L L' : Nat → Nat} {w w' : World} {s d pg bc bs bg sc : Nat} {sa : Option Addr} {S : Cs} {sm : Nat → List Nat} {F : Nat → Prop}
theorem CPx.onl {U : Nat → Prop} {p : Nat} {c : Cg} {st : Sd} (h : CPx U w p d c st) (o : Onl F w w') (hF : ∀ i, U i → ¬ F i) : CPx U w' p d c st := by
  obtain ⟨_, _, _, _, _, _, _, h, hU⟩ := h
  exact ⟨_, _, _, _, _, _, _, h.onl o (fun i q => hF i (hU i q)), hU⟩
theorem CPx.lt {U : Nat → Prop} {p : Nat} {c : Cg} {st : Sd} (h : CPx U w p d c st) : p < w.heap.size := by
  obtain ⟨_, _, _, _, _, _, _, h, hU⟩ := h
  exact h.b.ob.lt
theorem CPx.okS {U : Nat → Prop} {p : Nat} {c : Cg} {st : Sd} (h : CPx U w p d c st) : OkS st := by
  obtain ⟨_, _, _, _, _, _, _, h, hU⟩ := h
  exact h.b.dv.ok
/-- U is only asked of blocks that are there -/
theorem CPx.dom {U V : Nat → Prop} {p : Nat} {c : Cg} {st : Sd} (h : CPx U w p d c st) (hV : ∀ i, i < w.heap.size → U i → V i) : CPx V w p d c st := by
  obtain ⟨_, _, _, _, _, _, _, h, hU⟩ := h
  exact ⟨_, _, _, _, _, _, _, h, fun i q => hV i (h.lt i q) (hU i q)⟩
theorem CSd.onl (h : CSd L w s d S pg bc bs bg sa sc sm) (o : Onl F w w') (hF : ∀ i, L i ≠ 0 → ¬ F i) : CSd L w' s d S pg bc bs bg sa sc sm :=
  ⟨h.ob.onl o (hF _ (by rw [h.ls]; omega)), h.ls, h.px.onl o (fun i q => hF i (by omega)), h.sh.onl o (fun i q => hF i (by omega)) (fun _ _ => rfl), h.mg.onl o (hF _ (by rw [h.lg]; omega)), h.lg, h.rd.onl o (fun x hx hl => hF _ (by rw [h.rt x hx hl]; omega)), h.rn, h.rl, h.rt, fun i q => Nat.lt_of_lt_of_le (h.lt i q) o.size⟩
theorem CSd.below (h : CSd L w s d S pg bc bs bg sa sc sm) (b : Below w.heap.size w w') : CSd L w' s d S pg bc bs bg sa sc sm := h.onl (F := fun _ => False) (Onl.ofBelow b) (fun _ _ q => q)
/-- the pager alone has turned -/
theorem CSd.pager (h : CSd L w s d S pg bc bs bg sa sc sm) {c' : Cg} {st' : Sd} (p : CPx (Gro (fun i => L i = 2) w w') w' pg d c' st') (o : Onl (fun i => L i = 2) w w') : CSd (tagd L w w' 2) w' s d { S with c := c', st := st' } pg bc bs bg sa sc sm := by
  have hlt := h.lt
  have hg : ∀ i, i < w.heap.size → tagd L w w' 2 i = L i := fun i hi => tagd_old hi
  refine ⟨h.ob.onl o (by rw [h.ls]; omega), (hg _ h.ob.lt).trans h.ls, p.dom (fun i hi q => ?_), h.sh.onl o (fun i q => by omega) hg, h.mg.onl o (by rw [h.lg]; omega), (hg _ h.mg.lt).trans h.lg, h.rd.onl o (fun x hx hl => by rw [h.rt x hx hl]; omega), h.rn, h.rl, fun x hx hl => (hg _ (by subst hx; exact Rd.lt h.rd hl)).trans (h.rt x hx hl), (tagd_ext 2 o.size hlt).lt⟩
  rcases q with q | q
  · show tagd L w w' 2 i = 2
    rw [hg i (hlt i (by omega))]; exact q
  · exact tagd_new q.1 q.2
/-- the object's own cells have turned: numbers and the end -/
theorem CSd.cells (h : CSd L w s d S pg bc bs bg sa sc sm) {nx fi : Nat} {en : Bool} (k : Ob w' s 82 (stC pg bc bs bg sa sc { S with next := nx, first := fi, ended := en })) (o : Onl (fun i => i = s) w w') : CSd L w' s d { S with next := nx, first := fi, ended := en } pg bc bs bg sa sc sm := by
  have hs : ∀ i, L i ≠ 1 → i ≠ s := fun i q e => q (by rw [e]; exact h.ls)
  exact ⟨k, h.ls, h.px.onl o (fun i q => hs i (by omega)), h.sh.onl o (fun i q => hs i (by omega)) (fun _ _ => rfl), h.mg.onl o (hs _ (by rw [h.lg]; omega)), h.lg, h.rd.onl o (fun x hx hl => hs _ (by rw [h.rt x hx hl]; omega)), h.rn, h.rl, h.rt, fun i q => Nat.lt_of_lt_of_le (h.lt i q) o.size⟩
/-- the shelf alone has turned -/
theorem CSd.shelf (h : CSd L w s d S pg bc bs bg sa sc sm) {ch' : Nat → Option Ck} {sm' : Nat → List Nat} (k : CSh L' w' bc bs ch' sm') (e : LExt L w L' w') (o : Onl (fun i => 10 ≤ L i) w w') : CSd L' w' s d { S with ch := ch' } pg bc bs bg sa sc sm' := by
  have hlt := h.lt
  refine ⟨h.ob.onl o (by rw [h.ls]; omega), (e.old _ h.ob.lt).trans h.ls, (h.px.onl o (fun i q => by omega)).dom (fun i _ q => (e.old i (hlt i (by omega))).trans q), k, h.mg.onl o (by rw [h.lg]; omega), (e.old _ h.mg.lt).trans h.lg, h.rd.onl o (fun x hx hl => by rw [h.rt x hx hl]; omega), h.rn, h.rl, fun x hx hl => (e.old _ (by subst hx; exact Rd.lt h.rd hl)).trans (h.rt x hx hl), e.lt⟩
theorem CSx.onl {O : Nat → Prop} (h : CSx O w s d S) (o : Onl F w w') (hF : ∀ i, O i → ¬ F i) : CSx O w' s d S := by
  obtain ⟨L, pg, bc, bs, bg, sa, sc, sm, h, so, hO⟩ := h
  exact ⟨L, pg, bc, bs, bg, sa, sc, sm, h.onl o (fun i q => hF i (hO i q)), so, hO⟩
theorem CSx.below {O : Nat → Prop} (h : CSx O w s d S) (b : Below w.heap.size w w') : CSx O w' s d S := h.onl (F := fun _ => False) (Onl.ofBelow b) (fun _ _ q => q)
end

set_option maxRecDepth 100000 in
theorem halive_ob {w : World} {s pg : Nat} {cs : List Value} {b : Bool} (h : Ob w s 82 cs) (h0 : cs[0]? = some (.pointer (some ⟨pg, 0, none⟩))) (h7 : cs[7]? = some (.bool b)) :
    Calls Tryz.prog 37 #[.pointer (some ⟨s, 0, none⟩)] w fun e w' => e = .returned (.bool (!b)) ∧ w = w' := by
  have c0 := (h.cell 0).trans h0
  have c7 := (h.cell 7).trans h7
  clear h h0 h7
  go_enter Tryz.func37, Tryz.ntmps37
  go_wp2
  go_ret
  exact ⟨rfl, rfl⟩
set_option maxRecDepth 100000 in
theorem hends_ob {w : World} {s : Nat} {cs : List Value} (h : Ob w s 82 cs) (hl : 7 < cs.length) (er : Int) :
    Calls Tryz.prog 40 #[.pointer (some ⟨s, 0, none⟩), .int .i64 er] w fun e w' => e = .returned (.int .i64 er) ∧ w' = w.setCell ⟨s, 7, none⟩ (.bool (endsE er)) := by
  have c7 := h.cell 7
  have f7 := h.frozen 7
  rw [List.getElem?_eq_getElem hl] at c7
  generalize cs[7] = u at c7
  clear h
  unfold endsE
  cases h1 : (er != 0) <;> cases h2 : (er != 2) <;> cases h3 : (er != 70)
  all_goals
    go_enter Tryz.func40, Tryz.ntmps40
    go_wp2
    go_ret
    exact ⟨rfl, rfl⟩
set_option maxRecDepth 100000 in
theorem hsum_any {w : World} (a : Option Addr) (cap : Nat) (l : List Int) (hr : Rd .u8 w a l) (hl : l.length ≤ 1099511627776) (hb : ∀ z ∈ l, 0 ≤ z ∧ z ≤ 255) :
    Calls Tryz.prog 42 #[.slice a l.length cap] w fun e w' => e = .returned (.int .u64 (sumN l)) ∧ w = w' := by
  have c1 := hr.conv (P := Tryz.prog) 34 5 9 Tryz.underlying34 Tryz.underlying5 Tryz.underlying9 cap
  have C := sum_any (strOfNums l) w (by rw [str_size hb]; exact hl)
  rw [← sumN_int] at C
  clear hr hb
  go_enter Tryz.func42, Tryz.ntmps42
  go_wp2_with fail
  refine C.mono ?_
  rintro e wx ⟨rfl, rfl⟩
  go_wp2
  go_ret
  exact ⟨rfl, rfl⟩
set_option maxRecDepth 100000 in
theorem hbegin_ob {w : World} {s pg bc bs n : Nat} {sv f g en : Value} (h : Ob w s 82 [.pointer (some ⟨pg, 0, none⟩), .map (some bc), .map (some bs), .int .u64 n, sv, f, g, en]) :
    Calls Tryz.prog 35 #[.pointer (some ⟨s, 0, none⟩)] w fun e w' => e = .returned (.tuple #[]) ∧ Ob w' s 82 [.pointer (some ⟨pg, 0, none⟩), .map (some bc), .map (some bs), .int .u64 n, sv, .int .u64 n, .map (some w.heap.size), en] ∧ Mp Tryz.prog 31 w' w.heap.size (fun _ => none) ∧ Onl (fun i => i = s) w w' ∧ w'.heap.size = w.heap.size + 1 := by
  have hlt := h.lt
  have hmm := @run_makeMap Tryz.prog
  have k5 := h.set 5 (.int .u64 n)
  have k6 := k5.set 6 (.map (some w.heap.size))
  have c3 := h.cell 3
  have c5 := h.cell 5
  have c6 := h.cell 6
  have f5 := h.frozen 5
  have f6 := h.frozen 6
  have c6b := k5.cell 6
  have f6b := k5.frozen 6
  simp only [List.getElem?_cons_zero, List.getElem?_cons_succ, List.set_cons_succ, List.set_cons_zero] at c3 c5 c6 c6b k6
  have o1 : Onl (fun i => i = s) w ((w.setCell ⟨s, 5, none⟩ (.int .u64 n)).setCell ⟨s, 6, none⟩ (.map (some w.heap.size))) := ((Onl.refl (fun i => i = s) w).set (p := s) (.inl rfl) _).set (p := s) (.inl rfl) _
  have sz : ((w.setCell ⟨s, 5, none⟩ (.int .u64 n)).setCell ⟨s, 6, none⟩ (.map (some w.heap.size))).heap.size = w.heap.size := by simp [World.setCell]
  have m1 := Mp.made ((w.setCell ⟨s, 5, none⟩ (.int .u64 n)).setCell ⟨s, 6, none⟩ (.map (some w.heap.size))) Tryz.prog 31
  rw [sz] at m1
  have sz2 : (((w.setCell ⟨s, 5, none⟩ (.int .u64 n)).setCell ⟨s, 6, none⟩ (.map (some w.heap.size))).alloc (.map #[] 0)).heap.size = w.heap.size + 1 := by simp [World.setCell]
  have HF := hide (And.intro (k6.alloc (.map #[] 0)) (And.intro m1 (And.intro (o1.alloc (.map #[] 0)) sz2)))
  clear h k5 k6 m1 o1 sz sz2
  go_enter Tryz.func35, Tryz.ntmps35
  go_wp2
  go_end0
  exact ⟨rfl, HF.out⟩
end Go.Proofs.YtegadgncggbeoaaGreat
