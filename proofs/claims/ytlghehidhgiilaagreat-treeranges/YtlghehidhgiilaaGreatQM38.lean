/- Law 10's awake, and TreeBuilds' walk, over the translation. The leaves of a tree are found: the finder's down, over the translation. Leaves and Load, over the translation. A range over a function whose body returns at once; the leaves of a number that there isn't. A range over a function whose body goes on or leaves; All. -/
import Derived.Test.YtlghehidhgiilaaGreatQM37
namespace Go.Proofs.YtlghehidhgiilaaGreat
open Go.RowKit Apo
/-- what comes of Build of a map -/
theorem TBld.good {w W W' : World} {s m : Nat} {O : Nat → Prop} {T : List (List Int)} {es : List En} {e : Ending} (h : TBld w W s O T m es e W') (hr : rightE es = 0) : TRoot w W s O T m es e W' := by
  rcases h with ⟨q, _⟩ | ⟨_, q⟩
  · exact absurd hr q
  · exact q
theorem rightE_nil : rightE [] = 0 := by
  unfold rightE
  rw [if_neg (by simp [firstE]), if_pos (show Rise (([] : List En).map En.k) from List.Pairwise.nil)]
def oneE : List En := [⟨⟨#[97]⟩, ⟨#[49]⟩⟩]
theorem rightE_one : rightE oneE = 0 := by
  unfold rightE
  have h1 : firstE enE oneE = 0 := firstE_none (fun x hx => by
    simp only [oneE, List.mem_singleton] at hx
    subst hx
    unfold enE keyE valE
    decide)
  rw [if_neg (by rw [h1]; simp), if_pos (show Rise (oneE.map En.k) from List.pairwise_singleton _ _)]
theorem rd_oneE (W : World) : RdEn (W.alloc (.cells #[.string ⟨#[97]⟩, .string ⟨#[49]⟩] 66)) (some ⟨W.heap.size, 0, none⟩) oneE := by
  intro i e hi
  have k := Ob.new W [.string ⟨#[97]⟩, .string ⟨#[49]⟩] 66
  match i, hi with
  | 0, hi =>
    simp only [oneE, List.getElem?_cons_zero, Option.some.injEq] at hi
    subst hi
    exact ⟨W.heap.size, 0, rfl, k.cell 0, k.cell 1⟩
  | i + 1, hi => simp [oneE] at hi
set_option maxRecDepth 100000 in
set_option maxHeartbeats 8000000 in
theorem tawake_any (w : World) : Calls Tryz.prog 9 #[] w fun e w' => e = .returned (.bool true) ∧ Below w.heap.size w w' := by
  go_enter Tryz.func9, Tryz.ntmps9
  go_wp2_with fail
  refine (tstore_any w).mono ?_
  rintro e w1 ⟨s, O, rfl, t1⟩
  have b1 : Below w1.heap.size w1 (w1.alloc (.cells #[.string ⟨#[97]⟩, .string ⟨#[49]⟩] 66)) := (Below.refl _ w1).alloc (Nat.le_refl _) _
  have C2 := tBuild_any (t1.below b1) (some ⟨w1.heap.size, 0, none⟩) 1 oneE (rd_oneE w1) (fun q => by cases q) (by simp [oneE]) (fun e he => by simp only [oneE, List.mem_singleton] at he; subst he; unfold maxLen; decide) (by simp [oneE]) (by simp [oneE])
  rw [show oneE.length = 1 from rfl] at C2
  have HC2 := hide C2
  have HB1 := hide (t1.bel.trans (b1.mono t1.bel.size))
  clear C2 t1 b1
  go_wp2_with fail
  refine HC2.out.mono ?_
  rintro e w2 hb2
  obtain ⟨id, O2, T2, rfl, p1, p2, p2', p3, p4, p5, p6⟩ := hb2.good rightE_one
  have hTx : TxOk T2 := p2' (fun t ht => by simp at ht)
  have hok := rightE_map rightE_one
  have hT2 : T2.length ≤ 16000 := by simp [oneE] at p3; omega
  obtain ⟨ls, q1, q2, q3, q4⟩ := p1.tree hok (by simp [oneE]) hT2
  have hid : ((id : Int) != 0) = true := by
    have : id ≠ 0 := fun z => by have := q4.1 z; simp [oneE] at this
    simp; omega
  have C3 := tgettree_any p4 hT2 hTx id ls q1 (by rw [q2]; exact riseE_iff.2 hok.rise) ⟨#[97]⟩
  rw [q2] at C3
  have HC3 := hide C3
  have HP4 := hide p4
  have HT2 := hide hT2
  have HL2 : Hid (T2.length ≤ 21) := hide (by simp [oneE] at p3; omega)
  clear C3 p1 p2 p2' p3 p4 p5 p6 q1 q2 q3 q4 hTx hok hT2 HC2
  go_wp2_with fail
  refine HC3.out.mono ?_
  rintro e w3 ⟨v, b, rfl, hg, b3⟩
  obtain ⟨rfl, rfl⟩ : v = ⟨#[49]⟩ ∧ b = true := by
    have := gets_uniq (es := oneE) (key := ⟨#[97]⟩) (riseE_iff.2 (rightE_map rightE_one).rise) hg (.inl ⟨rfl, _, List.mem_singleton.2 rfl, rfl, rfl⟩)
    exact this
  have t3 := HP4.out.below b3
  have C4 := tBuild_any t3 none 0 [] (fun i e hi => by simp at hi) (fun _ => rfl) (by simp) (fun e he => by simp at he) (by simp [oneE]) (by have := HL2.out; simp; omega)
  rw [show ([] : List En).length = 0 from rfl] at C4
  have HC4 := hide C4
  clear C4 t3 hg b3 HC3
  go_wp2_with fail
  refine HC4.out.mono ?_
  rintro e w4 hb4
  obtain ⟨id4, O4, T4, rfl, p1, p2, p2', p3, p4, p5, p6⟩ := hb4.good rightE_nil
  have hz : id4 = 0 := by
    obtain ⟨ls, q1, q2, q3, q4⟩ := p1.tree (rightE_map rightE_nil) (by simp) (by have := HL2.out; simp at p3; omega)
    exact q4.2 rfl
  subst hz
  have HF := hide p4.bel
  clear p1 p2 p2' p3 p4 p5 p6
  go_wp2
  go_ret
  exact ⟨rfl, HF.out⟩
end Go.Proofs.YtlghehidhgiilaaGreat
namespace Go.Proofs.YtlghehidhgiilaaGreat
open Go.RowKit Apo
attribute [local go_sem ↓] Apo.app_exec
end Go.Proofs.YtlghehidhgiilaaGreat
namespace Go.Proofs.YtlghehidhgiilaaGreat
open Go.RowKit Apo
/-- a number that there isn't -/
theorem load_none {T : List (List Int)} {id : Nat} (h : T.length < id) : loadT T id = (⟨0, [], []⟩, 3) := by
  have hg : getT T id = ([], 3) := by unfold getT; rw [if_neg (by omega), List.getElem?_eq_none (by omega)]
  unfold loadT
  rw [hg, if_pos (by simp)]
set_option maxRecDepth 100000 in
set_option maxHeartbeats 4000000 in
theorem tgetnone_any {w W : World} {s m : Nat} {O : Nat → Prop} {T : List (List Int)} (h : TSw w W s O T m) (hT : T.length ≤ 16000) (hx : TxOk T) (root : Nat) (hr : T.length < root) (hrt : root < 18446744073709551616) (key : ByteArray) :
    Calls Tryz.prog 30 #[.pointer (some ⟨s, 0, none⟩), .int .u64 root, .string key] W fun e W' => e = .returned (.tuple #[.string ⟨#[]⟩, .bool false, .int .i64 3]) ∧ Below W.heap.size W W' := by
  have b0 : Below W.heap.size W (W.alloc (.map #[] 0)) := (Below.refl _ W).alloc (Nat.le_refl _) _
  have m0 := Mp.made W Tryz.prog 31
  have CA := add_any m0 (fun i v q => (by cases q)) (L := []) (fun i q => absurd rfl q) (by simp) root hrt
  unfold AdP at CA
  simp only [Option.isSome_none, Bool.not_false] at CA
  have hne : ((root : Int) != 0) = true := by rw [bne_iff_ne]; omega
  have HH := hide h
  have HB0 := hide b0
  have HCA := hide CA
  have HR := hide hr
  have hmm := @run_makeMap Tryz.prog
  clear h CA b0 m0 hr
  go_enter Tryz.func30, Tryz.ntmps30
  go_wp2
  go_loopw [11] (fun u wr => u = .int .u64 root ∧ wr = W.alloc (.map #[] 0)) (fun _ _ => 0)
  case atStart => exact ⟨rfl, rfl⟩
  case round =>
    obtain ⟨rfl, rfl⟩ := hrel
    go_wp2_with fail
    refine HCA.out.mono ?_
    rintro e w2 ⟨rfl, m2, o2⟩
    have b2 : Below W.heap.size W w2 := Below.onl HB0.out o2 (fun i q => by omega) (Nat.le_refl _)
    have CL := tload_any (HH.out.below b2) hT hx root hrt
    rw [load_none HR.out] at CL
    simp only [ldV] at CL
    have HB2 := hide b2
    have HCL := hide CL
    clear m2 o2 b2 CL HCA
    go_wp2_with fail
    refine HCL.out.mono ?_
    rintro e w3 ⟨x', hx'n, ok', nw', rfl, b3⟩
    have HF := hide (HB2.out.trans (b3.mono HB2.out.size))
    have hsz := HF.out.size
    obtain ⟨⟨lv', es', ks'⟩, ea', ec', ka', kc'⟩ := x'
    simp only [NdA.cells]
    obtain ⟨ne', hne'⟩ : ∃ ne', ne' = es'.length := ⟨_, rfl⟩
    obtain ⟨nk', hnk'⟩ : ∃ nk', nk' = ks'.length := ⟨_, rfl⟩
    rw [← hne', ← hnk']
    clear hx'n ok' nw' b3 hne' hnk'
    go_wp2
    refine bodyPost_ret (by simp [results, Tryz.results30, go_sem]; rfl) rfl ?_
    exact ⟨rfl, HF.out.alloc hsz _⟩
end Go.Proofs.YtlghehidhgiilaaGreat
namespace Apo
open Go Go.RowKit
theorem yield_stop {P : Program} {nn d : Nat} {r rb rd : Loop} {asg bdy : Code} {ps : Array Tmp} {tm : Array Value} {args : Array Value} {A : World} {R : World → Prop} (hrb : rb = { r with state := .busy }) (hrd : rd = { r with state := .done, pending := some .ret }) (hr1 : r.state = .ready) (ha : r.assign = asg) (hb : r.body = bdy) (hpa : r.params = ps) (htm : r.tmps = tm) (hl : LpAt d r A) (hs : args.size = ps.size)
    (h : asg.wpIn (Fence.wide.inRound (d + 1)) nn P (Exit.then (fun a1 w1 => LpAt d r w1 ∧ bdy.wpIn (Fence.wide.inRound (d + 1)) nn P (fun e _ w3 => e = .ret ∧ w3.heap[d + 1]? = some (.loop rb) ∧ R (w3.putObj (d + 1) (.loop rd))) a1 (w1.putObj (d + 1) (.loop rb))) (fun _ _ _ => False))
      { tmps := (ps.zip args).foldl (fun tmps (t, a) => tmps.setIfInBounds t a) tm, defers := [] } A) :
    YieldAt Fence.wide nn P (d + 1) args A fun e A' => e = .returned (.bool false) ∧ R A' := by
  subst hrb hrd ha hb hpa htm
  refine ⟨r.fn, _, r.assign, r.body, run_yield hl.1 hs, roundIn_of_wpIn trivial (wpIn_mono h ?_)⟩
  intro e a1 w1 q
  cases e with
  | normal =>
    obtain ⟨q1, q2⟩ := q
    refine ⟨_, run_beginRound q1.1 hr1, wpIn_mono q2 ?_⟩
    rintro e2 a2 w3 ⟨rfl, z1, z2⟩
    exact ⟨_, _, run_endRound (some .ret) z1, rfl, z2⟩
  | exit id => exact q.elim
  | goto t => exact q.elim
  | ret => exact q.elim
  | panic ch => exact q.elim
  | outgrown => exact q.elim
theorem range_stop {P : Program} {n : Nat} {g : Operand} {ps : Array Tmp} {assign body : Code} {Q : Exit → Act → World → Prop} {a : Act} {w : World} {gf : Nat} {lb : Array Value} (hg : a.eval g = .func (.func gf) #[] lb) (eg : ∀ args w, (callFunc gf args).run P w = .ok (.enter gf args) w) (R : World → Prop)
    (hcall : ∀ (fn : FuncId) (r rd : Loop) (W1 : World), r = recL fn a.tmps ps assign body w.heap.size → rd = { r with state := .done, pending := some .ret } → LpAt w.heap.size r W1 → Below w.heap.size w W1 → W1.heap.size = w.heap.size + 2 → CallsIn Fence.wide (n - 1) P gf (#[.func (.yield (w.heap.size + 1)) #[] #[]] ++ lb) W1 fun e W2 => (∃ v, e = .returned v) ∧ LpAt w.heap.size rd W2 ∧ R W2)
    (hdone : ∀ (W2 : World) (o : Obj), R W2 → W2.heap[w.heap.size]? = some (.deferred (some [])) → w.heap.size + 1 < W2.heap.size → Code.ret.wpIn Fence.wide n P Q { a with defers := { target := .collected w.heap.size, args := #[] } :: a.defers } (W2.putObj (w.heap.size + 1) o)) :
    (Code.rangeFunc g ps assign body).wpIn Fence.wide n P Q a w := by
  refine wpIn_rangeFunc (fun fn hfn => ?_)
  obtain ⟨r, hr⟩ : ∃ r, r = recL fn a.tmps ps assign body w.heap.size := ⟨_, rfl⟩
  obtain ⟨rd, hrd⟩ : ∃ rd : Loop, rd = { r with state := .done, pending := some .ret } := ⟨_, rfl⟩
  obtain ⟨W1, hW1⟩ : ∃ W1, W1 = (w.alloc (.deferred (some []))).alloc (.loop r) := ⟨_, rfl⟩
  have h1 : W1.heap[w.heap.size + 1]? = some (.loop r) := by
    rw [hW1]
    have := World.alloc_heap_new (w.alloc (.deferred (some []))) (.loop r)
    rwa [World.size_alloc] at this
  have h2 : W1.heap[w.heap.size]? = some (.deferred (some [])) := by
    rw [hW1]
    exact (Below.heap_alloc _ _ _ (by simp)).trans (World.alloc_heap_new w _)
  have b1 : Below w.heap.size w W1 := by rw [hW1]; exact ((Below.refl _ w).alloc (Nat.le_refl _) _).alloc (by simp) _
  have s1 : W1.heap.size = w.heap.size + 2 := by rw [hW1]; simp
  refine ⟨w.heap.size + 1, [{ target := .collected w.heap.size, args := #[] }], W1, { target := .fn (.func gf) lb, args := #[.func (.yield (w.heap.size + 1)) #[] #[]] }, W1, gf, #[.func (.yield (w.heap.size + 1)) #[] #[]] ++ lb, W1, ?_, ?_, fun f' _ => trivial, ?_, fun q => (by cases q), ?_⟩
  · rw [hW1, hr]
    exact run_enterLoop_outer _ _ _ _ _
  · simp only [resolve, hg]
    simp [go_sem]
  · simp [invoke, go_sem, eg]
  · refine (hcall fn r rd W1 hr hrd ⟨h1, h2⟩ b1 s1).mono ?_
    rintro e W2 ⟨⟨v, rfl⟩, l2, r2⟩
    refine ⟨some .ret, _, (by have := run_endLoop (P := P) l2.1 (by rw [hrd]; simp); rw [show rd.pending = some .ret by rw [hrd]] at this; exact this), ?_⟩
    exact hdone W2 _ r2 l2.2 (Array.getElem?_eq_some_iff.1 l2.1).1
end Apo
namespace Go.Proofs.YtlghehidhgiilaaGreat
open Go.RowKit Go.Shelf Apo
attribute [local go_sem] Oper.semAt_some
set_option maxRecDepth 100000 in
set_option maxHeartbeats 2000000 in
theorem leaves1_bad {w W : World} {s m lp : Nat} {O : Nat → Prop} {T : List (List Int)} (h : TSw w W s O T m) (hT : T.length ≤ 16000) (hx : TxOk T) (nn : Nat) (root Br Bl : Nat) (hr0 : T.length < root) (hrt : root < 18446744073709551616) (hr : W.cell? ⟨Br, 0, none⟩ = some (.int .u64 root)) (hl : W.cell? ⟨Bl, 0, none⟩ = some (ldV s)) {R : World → Prop} (hY : ∀ A, Below W.heap.size W A → ∀ nn, YieldAt Fence.wide nn Tryz.prog lp #[.agg #[.int .u64 0, .slice none 0 0], .int .i64 3] A fun e A' => e = .returned (.bool false) ∧ R A') :
    CallsIn Fence.wide nn Tryz.prog 86 #[.func (.yield lp) #[] #[], .pointer (some ⟨Br, 0, none⟩), .pointer (some ⟨Bl, 0, none⟩)] W fun e W' => (∃ v, e = .returned v) ∧ R W' := by
  have hne : ((root : Int) == 0) = false := by rw [beq_eq_false_iff_ne]; omega
  have C1 := tload_any h hT hx root hrt
  rw [load_none hr0] at C1
  simp only at C1
  have HC1 := hide C1
  have HY := hide hY
  simp only [ldV] at HC1 hl
  clear C1 h hY
  refine callsIn_of_wp Tryz.func86 rfl trivial ?_ rfl
  simp only [Tryz.ntmps86, List.size_toArray, List.length_cons, List.length_nil, Nat.reduceAdd, Nat.reduceSub, Array.replicate_succ, Array.replicate_zero, List.push_toArray, List.append_toArray, List.nil_append, List.cons_append]
  gi_wp2_with fail
  refine ⟨trivial, fun q => (by cases q), (callsIn_wide.2 HC1.out).mono ?_⟩
  rintro e w3 ⟨x', hx'n, ok', nw', rfl, b3⟩
  have s3 := b3.size
  obtain ⟨⟨lv', es', ks'⟩, ea', ec', ka', kc'⟩ := x'
  simp only [NdA.cells]
  obtain ⟨ne', hne'⟩ : ∃ ne', ne' = es'.length := ⟨_, rfl⟩
  obtain ⟨nk', hnk'⟩ : ∃ nk', nk' = ks'.length := ⟨_, rfl⟩
  rw [← hne', ← hnk']
  have b4 : Below W.heap.size W (w3.alloc (.cells #[.int .i64 lv', .slice ea' ne' ec', .slice ka' nk' kc'] 55)) := b3.alloc s3 _
  obtain ⟨fn, tmps, assign, body, hy, hRR⟩ := HY.out _ b4 (nn - 1)
  clear hx'n ok' nw' b3 hne' hnk' b4
  gi_wp2
  refine ⟨fun q => (by cases q), hRR.mono ?_⟩
  rintro e W5 ⟨rfl, hR⟩
  have HR := hide hR
  clear hR hy hRR
  gi_wp2
  refine bodyPost_ret (results_none rfl _ _ _) rfl ?_
  exact ⟨⟨_, rfl⟩, HR.out⟩
end Go.Proofs.YtlghehidhgiilaaGreat
namespace Apo
open Go Go.RowKit
/-- how a body leaves a loop -/
def codeOf : Exit → Option Code
  | .ret => some .ret
  | .exit id => some (.exit id)
  | _ => none
/-- how a round ends -/
def TwoP (d : Nat) (r rb : Loop) (rd : Code → Loop) (R Rx : World → Prop) (e : Exit) (_ : Act) (w3 : World) : Prop := (e = .normal ∧ w3.heap[d + 1]? = some (.loop rb) ∧ R (w3.putObj (d + 1) (.loop r))) ∨ (∃ c, codeOf e = some c ∧ w3.heap[d + 1]? = some (.loop rb) ∧ Rx (w3.putObj (d + 1) (.loop (rd c))))
theorem yield_two {P : Program} {nn d : Nat} {r rb : Loop} {rd : Code → Loop} {asg bdy : Code} {ps : Array Tmp} {tm : Array Value} {args : Array Value} {A : World} {R : World → Prop} {Rx : World → Prop} (hrb : rb = { r with state := .busy }) (hrd : ∀ c, rd c = { r with state := .done, pending := some c }) (hr1 : r.state = .ready) (hr2 : r.pending = none) (ha : r.assign = asg) (hb : r.body = bdy) (hpa : r.params = ps) (htm : r.tmps = tm) (hl : LpAt d r A) (hs : args.size = ps.size)
    (h : asg.wpIn (Fence.wide.inRound (d + 1)) nn P (Exit.then (fun a1 w1 => LpAt d r w1 ∧ bdy.wpIn (Fence.wide.inRound (d + 1)) nn P (TwoP d r rb rd R Rx) a1 (w1.putObj (d + 1) (.loop rb))) (fun _ _ _ => False))
      { tmps := (ps.zip args).foldl (fun tmps (t, a) => tmps.setIfInBounds t a) tm, defers := [] } A) :
    YieldAt Fence.wide nn P (d + 1) args A fun e A' => (e = .returned (.bool true) ∧ R A') ∨ (e = .returned (.bool false) ∧ Rx A') := by
  subst hrb ha hb hpa htm
  refine ⟨r.fn, _, r.assign, r.body, run_yield hl.1 hs, roundIn_of_wpIn trivial (wpIn_mono h ?_)⟩
  intro e a1 w1 q
  cases e with
  | normal =>
    obtain ⟨q1, q2⟩ := q
    refine ⟨_, run_beginRound q1.1 hr1, wpIn_mono q2 ?_⟩
    rintro e2 a2 w3 (⟨rfl, z1, z2⟩ | ⟨c, zc, z1, z2⟩)
    · refine ⟨_, _, run_endRound none z1, .inl ⟨rfl, ?_⟩⟩
      have : ({ { r with state := .busy } with state := if (none : Option Code).isNone then .ready else .done, pending := none } : Loop) = r := by
        obtain ⟨st, pe, fn, tm, pa, asg, bo, de⟩ := r
        simp only at hr1 hr2
        subst hr1 hr2
        rfl
      rw [this]
      exact z2
    · rw [hrd] at z2
      cases e2 with
      | ret =>
        cases zc
        exact ⟨_, _, run_endRound (some .ret) z1, .inr ⟨rfl, z2⟩⟩
      | exit id =>
        cases zc
        exact ⟨_, _, run_endRound (some (.exit id)) z1, .inr ⟨rfl, z2⟩⟩
      | normal => cases zc
      | goto t => cases zc
      | panic ch => cases zc
      | outgrown => cases zc
  | exit id => exact q.elim
  | goto t => exact q.elim
  | ret => exact q.elim
  | panic ch => exact q.elim
  | outgrown => exact q.elim
theorem range_two {P : Program} {n : Nat} {g : Operand} {ps : Array Tmp} {assign body : Code} {Q : Exit → Act → World → Prop} {a : Act} {w : World} {gf : Nat} {lb : Array Value} (hg : a.eval g = .func (.func gf) #[] lb) (eg : ∀ args w, (callFunc gf args).run P w = .ok (.enter gf args) w) (R : World → Prop) (Rx : Code → World → Prop)
    (hcall : ∀ (fn : FuncId) (r : Loop) (rd : Code → Loop) (W1 : World), r = recL fn a.tmps ps assign body w.heap.size → (∀ c, rd c = { r with state := .done, pending := some c }) → LpAt w.heap.size r W1 → Below w.heap.size w W1 → W1.heap.size = w.heap.size + 2 → CallsIn Fence.wide (n - 1) P gf (#[.func (.yield (w.heap.size + 1)) #[] #[]] ++ lb) W1 fun e W2 => (∃ v, e = .returned v) ∧ ((LpAt w.heap.size r W2 ∧ R W2) ∨ (∃ c, LpAt w.heap.size (rd c) W2 ∧ Rx c W2)))
    (hdone : ∀ (W2 : World) (o : Obj), R W2 → W2.heap[w.heap.size]? = some (.deferred (some [])) → w.heap.size + 1 < W2.heap.size → Q .normal { a with defers := { target := .collected w.heap.size, args := #[] } :: a.defers } (W2.putObj (w.heap.size + 1) o))
    (hstop : ∀ (c : Code) (W2 : World) (o : Obj), Rx c W2 → W2.heap[w.heap.size]? = some (.deferred (some [])) → w.heap.size + 1 < W2.heap.size → c.wpIn Fence.wide n P Q { a with defers := { target := .collected w.heap.size, args := #[] } :: a.defers } (W2.putObj (w.heap.size + 1) o)) :
    (Code.rangeFunc g ps assign body).wpIn Fence.wide n P Q a w := by
  refine wpIn_rangeFunc (fun fn hfn => ?_)
  obtain ⟨r, hr⟩ : ∃ r, r = recL fn a.tmps ps assign body w.heap.size := ⟨_, rfl⟩
  obtain ⟨rd, hrd⟩ : ∃ rd : Code → Loop, ∀ c, rd c = { r with state := .done, pending := some c } := ⟨_, fun _ => rfl⟩
  obtain ⟨W1, hW1⟩ : ∃ W1, W1 = (w.alloc (.deferred (some []))).alloc (.loop r) := ⟨_, rfl⟩
  have h1 : W1.heap[w.heap.size + 1]? = some (.loop r) := by
    rw [hW1]
    have := World.alloc_heap_new (w.alloc (.deferred (some []))) (.loop r)
    rwa [World.size_alloc] at this
  have h2 : W1.heap[w.heap.size]? = some (.deferred (some [])) := by
    rw [hW1]
    exact (Below.heap_alloc _ _ _ (by simp)).trans (World.alloc_heap_new w _)
  have b1 : Below w.heap.size w W1 := by rw [hW1]; exact ((Below.refl _ w).alloc (Nat.le_refl _) _).alloc (by simp) _
  have s1 : W1.heap.size = w.heap.size + 2 := by rw [hW1]; simp
  refine ⟨w.heap.size + 1, [{ target := .collected w.heap.size, args := #[] }], W1, { target := .fn (.func gf) lb, args := #[.func (.yield (w.heap.size + 1)) #[] #[]] }, W1, gf, #[.func (.yield (w.heap.size + 1)) #[] #[]] ++ lb, W1, ?_, ?_, fun f' _ => trivial, ?_, fun q => (by cases q), ?_⟩
  · rw [hW1, hr]
    exact run_enterLoop_outer _ _ _ _ _
  · simp only [resolve, hg]
    simp [go_sem]
  · simp [invoke, go_sem, eg]
  · refine (hcall fn r rd W1 hr hrd ⟨h1, h2⟩ b1 s1).mono ?_
    rintro e W2 ⟨⟨v, rfl⟩, ⟨l2, r2⟩ | ⟨c, l2, r2⟩⟩
    · refine ⟨none, _, (by have := run_endLoop (P := P) l2.1 (by rw [hr]; simp [recL]); rw [show r.pending = none by rw [hr]; rfl] at this; exact this), ?_⟩
      exact hdone W2 _ r2 l2.2 (Array.getElem?_eq_some_iff.1 l2.1).1
    · refine ⟨some c, _, (by have := run_endLoop (P := P) l2.1 (by rw [hrd]; simp); rw [show (rd c).pending = some c by rw [hrd]] at this; exact this), ?_⟩
      exact hstop c W2 _ r2 l2.2 (Array.getElem?_eq_some_iff.1 l2.1).1
end Apo
namespace Go.Proofs.YtlghehidhgiilaaGreat
open Go.RowKit Go.Shelf Apo
attribute [local go_sem] Oper.semAt_some
/-- what a loop does that is told entries: it goes on, or it leaves -/
structure TellsE (N : Nat) (it : Nat → En) (lp B : Nat) (X : Nat → Prop) (J Jx : Nat → (Nat → Prop) → World → Prop) : Prop where
  bel : ∀ k U A B, J k U A → Below A.heap.size A B → J k U B
  lt : ∀ k U A, J k U A → ∀ i, U i → i < A.heap.size
  put : ∀ k U A l (o o' : Obj), J k U A → B ≤ l → A.heap[l]? = some o → o.isCells = false → J k U (A.putObj l o')
  putx : ∀ k U A l (o o' : Obj), Jx k U A → B ≤ l → A.heap[l]? = some o → o.isCells = false → Jx k U (A.putObj l o')
  yield : ∀ k U A, J k U A → k < N → ∀ nn, YieldAt Fence.wide nn Tryz.prog lp #[.string (it k).k, .string (it k).v] A fun e A' =>
    (e = .returned (.bool true) ∧ ∃ U', J (k + 1) U' A' ∧ Onl U A A' ∧ ∀ i, U' i → U i ∨ A.heap.size ≤ i) ∨ (e = .returned (.bool false) ∧ ∃ U', Jx (k + 1) U' A' ∧ Onl (fun i => U i ∨ X i) A A' ∧ ∀ i, U' i → U i ∨ A.heap.size ≤ i)
/-- what was told: all, or some -/
def Told2 (n : Nat) (X : Nat → Prop) (J Jx : Nat → (Nat → Prop) → World → Prop) (U : Nat → Prop) (W : World) (e : Ending) (W' : World) : Prop := (∃ v, e = .returned v) ∧ ((∃ U', J n U' W' ∧ Onl U W W' ∧ ∀ i, U' i → U i ∨ W.heap.size ≤ i) ∨ (∃ k U', k ≤ n ∧ Jx k U' W' ∧ Onl (fun i => U i ∨ X i) W W' ∧ ∀ i, U' i → U i ∨ W.heap.size ≤ i))
set_option maxRecDepth 100000 in
set_option maxHeartbeats 4000000 in
theorem all1_in {it : Nat → En} {lp B : Nat} {X : Nat → Prop} {J Jx : Nat → (Nat → Prop) → World → Prop} (es : List En) (hlen : es.length ≤ 1000000) (H : TellsE es.length it lp B X J Jx) (hit : ∀ (i : Nat) e, es[i]? = some e → it i = e) (nn : Nat) (W : World) (Bs : Nat) (v : Value) (U : Nat → Prop) (hj : J 0 U W) (hb : Ob W Bs 22 [v]) (hr : Row (fun _ => True) W 66 2 v es.length (ecells es)) (hU : ∀ i, v.ownBlock = some i → ¬ U i) :
    CallsIn Fence.wide nn Tryz.prog 62 #[.func (.yield lp) #[] #[], .pointer (some ⟨Bs, 0, none⟩)] W (Told2 es.length X J Jx U W) := by
  obtain ⟨va, vc, hva, _⟩ := hr.form
  obtain ⟨n, hn⟩ : ∃ n, n = es.length := ⟨_, rfl⟩
  rw [← hn] at hva hlen
  have x0 := hb.cell 0
  simp only [List.getElem?_cons_zero] at x0
  rw [hva] at x0
  have hcell : ∀ (A : World), Onl U W A → ∀ K, (hK : K < n) → ∃ g of, va = some ⟨g, of, none⟩ ∧ A.cell? ⟨g, of + K * 2, none⟩ = some (.string (it K).k) ∧ A.cell? ⟨g, of + K * 2 + 1, none⟩ = some (.string (it K).v) := by
    intro A oA K hK
    have hx : es[K]? = some (it K) := by
      have h1 := List.getElem?_eq_getElem (l := es) (i := K) (by omega)
      rw [h1, hit K _ h1]
    rcases row_ob hr with ⟨e, h1, _⟩ | ⟨g, cap, cur, e, _, bR, _, _, _, hr4⟩
    · omega
    · rw [hva] at e
      cases e
      have kA := bR.onl oA (fun q => hU g (by rw [hva]; rfl) q)
      obtain ⟨h1, h2⟩ := ecells_at es hx
      rw [← hr4, List.getElem?_take_of_lt (by omega)] at h1 h2
      refine ⟨g, 0, rfl, ?_, ?_⟩
      · rw [Nat.zero_add]; exact (kA.cell _).trans h1
      · rw [Nat.zero_add]; exact (kA.cell _).trans h2
  have HCELL := hide hcell
  have HH := hide H
  have HN := hide hn
  have HJ := hide hj
  rw [← hn]
  clear hcell H hn hj hb hr hU hva hit
  refine callsIn_of_wp Tryz.func62 rfl trivial ?_ rfl
  simp only [Tryz.ntmps62, List.size_toArray, List.length_cons, List.length_nil, Nat.reduceAdd, Nat.reduceSub, Array.replicate_succ, Array.replicate_zero, List.push_toArray, List.append_toArray, List.nil_append, List.cons_append]
  gi_wp2
  gi_loopw [7] (fun i wr => ∃ (k : Nat) (U' : Nat → Prop), k ≤ n ∧ i = .int .i64 k ∧ Hid (J k U' wr) ∧ Hid (Onl U W wr) ∧ Hid (∀ i, U' i → U i ∨ W.heap.size ≤ i)) (fun i _ => n - (intOf i).toNat)
  case atStart => exact ⟨0, U, Nat.zero_le _, rfl, HJ, hide (Onl.refl _ _), hide (fun i q => .inl q)⟩
  case round =>
    obtain ⟨k, U', hk, rfl, HJr, HOr, HUr⟩ := hrel
    by_cases hlt : k < n
    · obtain ⟨g, of, rfl, c1, c2⟩ := HCELL.out wr HOr.out k hlt
      obtain ⟨K2, hK2⟩ : ∃ K2, K2 = of + k * 2 := ⟨_, rfl⟩
      have hgw : g < wr.heap.size := World.block_lt_of_cell? _ _ c1
      have bA : Below wr.heap.size wr (wr.alloc (.cells #[.string (it k).k, .string (it k).v] 66)) := (Below.refl _ wr).alloc (Nat.le_refl _) _
      obtain ⟨fn, tmps, assign, body, hy, hRR⟩ := HH.out.yield k U' _ (HH.out.bel _ _ _ _ HJr.out bA) (by rw [← HN.out]; exact hlt) (nn - 1)
      have HBA := hide bA
      obtain ⟨x, hx⟩ : ∃ x, x = it k := ⟨_, rfl⟩
      rw [← hx] at c1 c2 hy hRR HBA
      clear bA hx hK2
      gi_wp2
      refine ⟨fun q => (by cases q), hRR.mono ?_⟩
      rintro e W3 (⟨rfl, U3, j3, o3, u3⟩ | ⟨rfl, U3, j3, o3, u3⟩)
      · have sb := HBA.out.size
        have HF : Hid (J (k + 1) U3 W3 ∧ Onl U W W3 ∧ ∀ i, U3 i → U i ∨ W.heap.size ≤ i) := by
          have s0 := HOr.out.size
          refine hide ⟨j3, (HOr.out.trans (Onl.ofBelow HBA.out)).more o3 (fun i q => (HUr.out i q)), fun i q => ?_⟩
          rcases u3 i q with z | z
          · exact HUr.out i z
          · exact .inr (by omega)
        clear j3 o3 u3 c1 c2 hy hRR
        gi_wp2
        go_roundw
        case rel => exact ⟨k + 1, U3, by omega, by simp, hide HF.out.1, hide HF.out.2.1, hide HF.out.2.2⟩
        case measure => simp [intOf]; omega
      · have sb := HBA.out.size
        have HF : Hid (Jx (k + 1) U3 W3 ∧ Onl (fun i => U i ∨ X i) W W3 ∧ ∀ i, U3 i → U i ∨ W.heap.size ≤ i) := by
          have s0 := HOr.out.size
          refine hide ⟨j3, ((HOr.out.trans (Onl.ofBelow HBA.out)).mono (fun i q => .inl q)).more o3 (fun i q => q.elim (fun z => (HUr.out i z).imp .inl (fun z => z)) (fun z => .inl (.inr z))), fun i q => ?_⟩
          rcases u3 i q with z | z
          · exact HUr.out i z
          · exact .inr (by omega)
        clear j3 o3 u3 c1 c2 hy hRR
        gi_wp2
        refine bodyPost_ret (results_none rfl _ _ _) rfl ?_
        exact ⟨⟨_, rfl⟩, .inr ⟨k + 1, U3, by omega, HF.out.1, HF.out.2.1, HF.out.2.2⟩⟩
    · obtain rfl : k = n := by omega
      gi_wp2
      go_end0
      exact ⟨⟨_, rfl⟩, .inl ⟨U', HJr.out, HOr.out, HUr.out⟩⟩
theorem enter_all1 : ∀ args w, (callFunc 62 args).run Tryz.prog w = .ok (.enter 62 args) w := fun _ _ => by kernel_rfl
/-- what All hands out -/
def AlP (W : World) (es : List En) (e : Ending) (W' : World) : Prop := ∃ Bs v, W.heap.size ≤ Bs ∧ e = .returned (.func (.func 62) #[] #[.pointer (some ⟨Bs, 0, none⟩)]) ∧ Ob W' Bs 22 [v] ∧ Row (fun g => W.heap.size ≤ g) W' 66 2 v es.length (ecells es) ∧ Below W.heap.size W W'
set_option maxRecDepth 100000 in
set_option maxHeartbeats 4000000 in
theorem tall_any {w W : World} {s m : Nat} {O : Nat → Prop} {T : List (List Int)} (h : TSw w W s O T m) (hT : T.length ≤ 16000) (hx : TxOk T) (root : Nat) (ls : List (Nat × List En)) (ht : RootT T root ls) (hpos : ∀ p ∈ ls, 0 < p.2.length) (hsz : (ls.flatMap (fun p => p.2)).length ≤ 1000) :
    Calls Tryz.prog 28 #[.pointer (some ⟨s, 0, none⟩), .int .u64 root] W (AlP W (ls.flatMap (fun p => p.2))) := by
  have C := tlist_any h hT hx root ls ht hpos hsz
  obtain ⟨es, hes⟩ : ∃ es, es = ls.flatMap (fun p => p.2) := ⟨_, rfl⟩
  rw [← hes] at C ⊢
  have HC := hide C
  clear C h hes hsz hpos ht
  go_enter Tryz.func28, Tryz.ntmps28
  go_wp2_with fail
  refine HC.out.mono ?_
  rintro e w3 ⟨v, rfl, r3, b3⟩
  have hz := b3.size
  obtain ⟨va, vc, hva, _⟩ := r3.form
  obtain ⟨n, hn⟩ : ∃ n, n = es.length := ⟨_, rfl⟩
  rw [← hn] at hva
  have b4 : Below w3.heap.size w3 (w3.alloc (.cells #[v] 22)) := (Below.refl _ w3).alloc (Nat.le_refl _) _
  have HF : Hid (AlP W es (.returned (.func (.func 62) #[] #[.pointer (some ⟨w3.heap.size, 0, none⟩)])) (w3.alloc (.cells #[v] 22))) := by
    refine hide ⟨w3.heap.size, v, hz, rfl, Ob.new w3 [v] 22, r3.onl (F := fun _ => False) (Onl.ofBelow b4) (fun _ _ q => q), b3.trans (b4.mono hz)⟩
  rw [hva] at HF
  rw [hva]
  clear r3 b3 hva hn b4 HC
  go_wp2
  go_ret
  exact HF.out
end Go.Proofs.YtlghehidhgiilaaGreat
