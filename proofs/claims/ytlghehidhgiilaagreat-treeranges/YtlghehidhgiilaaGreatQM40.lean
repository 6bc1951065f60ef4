/- Edit of a number that there isn't, with no edits, over the translation. Leaves of a number that there isn't, over the translation. TreeRanges' walk: the inputs of which nothing is asked. Over the translation. The entries that TreeRanges gathers: pure. -/
import Derived.Test.YtlghehidhgiilaaGreatQM39
import Derived.Test.YtlghehidhgiilaaGreatQM38
namespace Go.Proofs.YtlghehidhgiilaaGreat
open Go.RowKit Go.Shelf Apo
attribute [local go_sem] Oper.semAt_some
def EnR (W A : World) : Prop := Below W.heap.size W A ∧ Ob A W.heap.size 31 [.int .u64 0] ∧ Ob A (W.heap.size + 1) 32 [.int .i64 3]
set_option maxRecDepth 100000 in
theorem fin_edit {W : World} {A0 A1 : Nat} {i e : Int} {tmps : Array Value} (k0 : Ob W A0 31 [.int .u64 i]) (k1 : Ob W A1 32 [.int .i64 e]) (h6 : tmps.getD 6 undef = .pointer (some ⟨A0, 0, none⟩)) (h7 : tmps.getD 7 undef = .pointer (some ⟨A1, 0, none⟩)) :
    (results Tryz.f16 tmps).run Tryz.prog W = .ok (.tuple #[.int .u64 i, .int .i64 e]) W := by
  have h6' : tmps[6]?.getD undef = .pointer (some ⟨A0, 0, none⟩) := by simpa using h6
  have h7' : tmps[7]?.getD undef = .pointer (some ⟨A1, 0, none⟩) := by simpa using h7
  have c0 := k0.cell 0
  have c1 := k1.cell 0
  simp only [List.getElem?_cons_zero] at c0 c1
  simp [results, Tryz.results16, go_sem, h6', h7', c0, c1]
set_option maxRecDepth 100000 in
set_option maxHeartbeats 8000000 in
theorem teditnone_any {w W : World} {s m : Nat} {O : Nat → Prop} {T : List (List Int)} (h : TSw w W s O T m) (hT : T.length ≤ 16000) (hx : TxOk T) (root : Nat) (hr0 : T.length < root) (hrt : root < 18446744073709551616) :
    Calls Tryz.prog 16 #[.pointer (some ⟨s, 0, none⟩), .int .u64 root, .slice none 0 0] W fun e W' => e = .returned (.tuple #[.int .u64 0, .int .i64 3]) ∧ Below W.heap.size W W' := by
  refine (callsIn_wide (n := 1)).1 ?_
  obtain ⟨W2, hW2⟩ : ∃ W2, W2 = (W.alloc (.cells #[.int .u64 0] 31)).alloc (.cells #[.int .i64 0] 32) := ⟨_, rfl⟩
  obtain ⟨W5, hW5⟩ : ∃ W5, W5 = (((((W2.alloc (.cells #[.slice none 0 0] 22)).alloc (.map #[] 0)).alloc (.cells #[.map (some (W.heap.size + 3))] 88)).alloc (.cells #[ldV s] 95)).alloc (.cells #[.int .u64 root] 31)) := ⟨_, rfl⟩
  have s2 : W2.heap.size = W.heap.size + 2 := by rw [hW2]; simp
  have s5 : W5.heap.size = W.heap.size + 7 := by rw [hW5]; simp; omega
  have hmm := @run_makeMap Tryz.prog
  have HC1 := hide (leaves_fn s root)
  have HH := hide h
  refine callsIn_of_wp_marks Tryz.func16 rfl trivial ?_ rfl
  simp only [Tryz.ntmps16, List.size_toArray, List.length_cons, List.length_nil, Nat.reduceAdd, Nat.reduceSub, Array.replicate_succ, Array.replicate_zero, List.push_toArray, List.append_toArray, List.nil_append, List.cons_append]
  gi_wp2
  rw [← hW2]
  gi_loopw [18] (fun i wr => i = .int .i64 0 ∧ wr = W2) (fun _ _ => 0)
  case atStart => exact ⟨rfl, rfl⟩
  case round =>
  obtain ⟨rfl, rfl⟩ := hrel
  gi_wp2_with fail
  refine ⟨trivial, (callsIn_wide.2 (HC1.out _)).mono ?_⟩
  rintro e w1 ⟨rfl, rfl⟩
  gi_wp2
  have b2 : Below W.heap.size W wr := by rw [hW2]; exact ((Below.refl _ W).alloc (Nat.le_refl _) _).alloc (by simp) _
  have b25 : Below wr.heap.size wr W5 := by rw [hW5]; exact (((((Below.refl _ wr).alloc (Nat.le_refl _) _).alloc (by simp) _).alloc (by simp; omega) _).alloc (by simp; omega) _).alloc (by simp; omega) _
  have b5 : Below W.heap.size W W5 := b2.trans (b25.mono b2.size)
  have k0 : Ob W5 W.heap.size 31 [.int .u64 0] := Ob.old (by rw [hW2]; exact (Ob.new W [.int .u64 0] 31).alloc _) b25
  have k1 : Ob W5 (W.heap.size + 1) 32 [.int .i64 0] := by
    refine Ob.old ?_ b25
    have := Ob.new (W.alloc (.cells #[.int .u64 0] 31)) [.int .i64 0] 32
    rw [World.size_alloc] at this
    rw [hW2]
    exact this
  have k3 : Ob W5 (W.heap.size + 5) 95 [ldV s] := by
    have := Ob.new (((wr.alloc (.cells #[.slice none 0 0] 22)).alloc (.map #[] 0)).alloc (.cells #[.map (some (W.heap.size + 3))] 88)) [ldV s] 95
    rw [World.size_alloc, World.size_alloc, World.size_alloc, s2] at this
    rw [hW5]
    exact this.alloc _
  have k4 : Ob W5 (W.heap.size + 6) 31 [.int .u64 root] := by
    have := Ob.new ((((wr.alloc (.cells #[.slice none 0 0] 22)).alloc (.map #[] 0)).alloc (.cells #[.map (some (W.heap.size + 3))] 88)).alloc (.cells #[ldV s] 95)) [.int .u64 root] 31
    rw [World.size_alloc, World.size_alloc, World.size_alloc, World.size_alloc, s2] at this
    rw [hW5]
    exact this
  have hW6 := hW5
  rw [hW2] at hW6
  simp only [Nat.add_assoc, Nat.reduceAdd]
  rw [← hW6]
  clear hW6 hW5 hW2 b2 b25 s2 hmm
  refine range_stop (gf := 86) (lb := #[.pointer (some ⟨W.heap.size + 6, 0, none⟩), .pointer (some ⟨W.heap.size + 5, 0, none⟩)]) rfl enter_leaves1 (EnR W) ?call ?done
  case call =>
    intro fn r rd W1 hr hrd lp1 b1 s1
    have q3 := (k3.old b1).cell 0
    have q4 := (k4.old b1).cell 0
    simp only [List.getElem?_cons_zero] at q3 q4
    refine (leaves1_bad (R := fun A => LpAt W5.heap.size rd A ∧ EnR W A) (HH.out.below (b5.trans (b1.mono b5.size))) hT hx _ root (W.heap.size + 6) (W.heap.size + 5) hr0 hrt q4 q3 (fun A bA nn => ?_))
    have lp := lp1.below bA
    have hlA := (Array.getElem?_eq_some_iff.1 lp.1).1
    have ha := congrArg Loop.assign hr
    have hb := congrArg Loop.body hr
    have hpa := congrArg Loop.params hr
    have htm := congrArg Loop.tmps hr
    obtain ⟨rb, hrb⟩ : ∃ rb, rb = { r with state := .busy } := ⟨_, rfl⟩
    refine yield_stop hrb hrd (by rw [hr]; rfl) ha hb hpa htm lp rfl ?_
    simp only [recL]
    obtain ⟨A1, hA1⟩ : ∃ A1, A1 = A.alloc (.cells #[.int .u64 0, .slice none 0 0] 98) := ⟨_, rfl⟩
    have bA1 : Below A.heap.size A A1 := by rw [hA1]; exact (Below.refl _ A).alloc (Nat.le_refl _) _
    have sA1 : A1.heap.size = A.heap.size + 1 := by rw [hA1]; simp
    have lpA1 := lp.below bA1
    obtain ⟨A2, hA2⟩ : ∃ A2, A2 = A1.putObj (W5.heap.size + 1) (.loop rb) := ⟨_, rfl⟩
    have o2 : Onl (fun i => i = W5.heap.size + 1) A1 A2 := by rw [hA2]; exact put_onl _
    have hlb2 : A2.heap[W5.heap.size + 1]? = some (.loop rb) := by rw [hA2]; exact World.putObj_heap_same (by omega)
    have d0 := (((k0.old b1).old bA).old bA1).onl o2 (by omega)
    have d1 := (((k1.old b1).old bA).old bA1).onl o2 (by omega)
    have BA2 : Below W.heap.size W A2 := Below.onl (b5.trans ((b1.trans (bA.mono (by omega))).mono b5.size |>.trans (bA1.mono (by omega)))) o2 (fun i q => by omega) (Nat.le_refl _)
    obtain ⟨A4, hA4⟩ : ∃ A4, A4 = (A2.setCell ⟨W.heap.size, 0, none⟩ (.int .u64 0)).setCell ⟨W.heap.size + 1, 0, none⟩ (.int .i64 3) := ⟨_, rfl⟩
    have o4 : Onl (fun i => i = W.heap.size ∨ i = W.heap.size + 1) A2 A4 := by rw [hA4]; exact ((Onl.refl (fun i => i = W.heap.size ∨ i = W.heap.size + 1) A2).set (p := W.heap.size) (.inl (.inl rfl)) _).set (p := W.heap.size + 1) (.inl (.inr rfl)) _
    have g0 : Ob A4 W.heap.size 31 [.int .u64 0] := by rw [hA4]; exact (d0.set 0 _).set_other (by omega) _
    have g1 : Ob A4 (W.heap.size + 1) 32 [.int .i64 3] := by rw [hA4]; exact (d1.set_other (by omega) _).set 0 _
    have hlb4 : A4.heap[W5.heap.size + 1]? = some (.loop rb) := (o4.block _ (Array.getElem?_eq_some_iff.1 hlb2).1 (by omega)).trans hlb2
    have o5 : Onl (fun i => i = W5.heap.size + 1) A4 (A4.putObj (W5.heap.size + 1) (.loop rd)) := put_onl _
    have hd4 : A4.heap[W5.heap.size]? = some (.deferred (some [])) := by
      have h1 : A2.heap[W5.heap.size]? = some (.deferred (some [])) := (o2.block _ (Array.getElem?_eq_some_iff.1 lpA1.2).1 (by omega)).trans lpA1.2
      exact (o4.block _ (Array.getElem?_eq_some_iff.1 h1).1 (by omega)).trans h1
    have HFIN : Hid (LpAt W5.heap.size rd (A4.putObj (W5.heap.size + 1) (.loop rd)) ∧ EnR W (A4.putObj (W5.heap.size + 1) (.loop rd))) := by
      refine hide ⟨⟨World.putObj_heap_same (Array.getElem?_eq_some_iff.1 hlb4).1, (o5.block _ (Array.getElem?_eq_some_iff.1 hd4).1 (by omega)).trans hd4⟩, ?_, g0.onl o5 (by omega), g1.onl o5 (by omega)⟩
      exact Below.onl (Below.onl BA2 o4 (fun i q => by omega) (Nat.le_refl _)) o5 (fun i q => by omega) (Nat.le_refl _)
    have c0 := d0.cell 0
    have c1 := d1.cell 0
    have f0 := d0.frozen 0
    have f1 := d1.frozen 0
    have e1 := (d1.set_other (i := 0) (show W.heap.size + 1 ≠ W.heap.size by omega) (.int .u64 0)).cell 0
    have e2 := (d1.set_other (i := 0) (show W.heap.size + 1 ≠ W.heap.size by omega) (.int .u64 0)).frozen 0
    simp only [List.getElem?_cons_zero] at c0 c1 e1
    have HLP1 := hide lpA1
    have HLB4 := hide hlb4
    rw [hA4] at HFIN HLB4
    clear hr hrd ha hb hpa htm hrb lp lpA1 bA1 o2 hlb2 d0 d1 BA2 o4 g0 g1 hlb4 o5 hd4 hA4 s5 q3 q4
    gi_wp2
    rw [← hA1, ← hA2]
    refine ⟨HLP1.out, ?_⟩
    clear hA1 hA2
    gi_wp2
    exact ⟨HLB4.out, HFIN.out⟩
  case done =>
    rintro W2 o ⟨d1, d2, d3⟩ dd dl
    obtain ⟨W3, hW3⟩ : ∃ W3, W3 = W2.putObj (W5.heap.size + 1) o := ⟨_, rfl⟩
    have o3 : Onl (fun i => i = W5.heap.size + 1) W2 W3 := by rw [hW3]; exact put_onl _
    have ed : W3.heap[W5.heap.size]? = some (.deferred (some [])) := (o3.block _ (by omega) (by omega)).trans dd
    have e0 := d2.onl o3 (by omega)
    have e1 := d3.onl o3 (by omega)
    have o5 : Onl (fun i => i = W5.heap.size) W3 (W3.putObj W5.heap.size (.deferred none)) := put_onl _
    have HG := hide (And.intro (e0.onl o5 (by omega)) (e1.onl o5 (by omega)))
    have HF := hide (Below.onl (Below.onl d1 o3 (fun i q => by omega) (Nat.le_refl _)) o5 (fun i q => by omega) (Nat.le_refl _))
    have HD := hide ed
    rw [← hW3]
    clear hW3 d1 d2 d3 dd dl o3 ed e0 e1 o5 k0 k1 k3 k4 b5
    obtain ⟨D, hD⟩ : ∃ D, D = W5.heap.size := ⟨_, rfl⟩
    rw [← hD] at HF HG HD ⊢
    clear hD s5
    gi_wp2
    refine ⟨by simp, .inl ⟨_, _, rfl, run_takeDeferred HD.out, ?_⟩⟩
    exact ⟨_, fin_edit HG.out.1 HG.out.2 rfl rfl, rfl, HF.out⟩
end Go.Proofs.YtlghehidhgiilaaGreat
namespace Go.Proofs.YtlghehidhgiilaaGreat
open Go.RowKit Apo
set_option maxRecDepth 100000 in
set_option maxHeartbeats 4000000 in
theorem downnone_any {w W : World} {s m : Nat} {O : Nat → Prop} {T : List (List Int)} (h : TSw w W s O T m) (hT : T.length ≤ 16000) (hx : TxOk T) (id fb : Nat) (hi : T.length < id) (hit : id < 18446744073709551616) {c1 c2 : Value} (k : Ob W fb 107 [ldV s, c1, c2]) :
    Calls Tryz.prog 52 #[.pointer (some ⟨fb, 0, none⟩), .int .u64 id] W fun e W' => e = .returned (.int .i64 3) ∧ Below W.heap.size W W' := by
  have CL := tload_any h hT hx id hit
  rw [load_none hi] at CL
  have c0 := k.cell 0
  simp only [List.getElem?_cons_zero] at c0
  simp only [ldV] at CL c0
  have HCL := hide CL
  clear CL k h
  go_enter Tryz.func52, Tryz.ntmps52
  go_wp2_with fail
  refine HCL.out.mono ?_
  rintro e w3 ⟨x', hx'n, ok', nw', rfl, b3⟩
  have s3 := b3.size
  obtain ⟨⟨lv', es', ks'⟩, ea', ec', ka', kc'⟩ := x'
  simp only [NdA.cells]
  obtain ⟨ne', hne'⟩ : ∃ ne', ne' = es'.length := ⟨_, rfl⟩
  obtain ⟨nk', hnk'⟩ : ∃ nk', nk' = ks'.length := ⟨_, rfl⟩
  rw [← hne', ← hnk']
  have HF := hide (b3.alloc s3 (.cells #[.int .i64 lv', .slice ea' ne' ec', .slice ka' nk' kc'] 55))
  clear hx'n ok' nw' b3 hne' hnk'
  go_wp2
  go_ret
  exact ⟨rfl, HF.out⟩
set_option maxRecDepth 100000 in
set_option maxHeartbeats 4000000 in
theorem tleavesnone_any {w W : World} {s m : Nat} {O : Nat → Prop} {T : List (List Int)} (h : TSw w W s O T m) (hT : T.length ≤ 16000) (hx : TxOk T) (root : Nat) (hr : T.length < root) (hrt : root < 18446744073709551616) :
    Calls Tryz.prog 20 #[.pointer (some ⟨s, 0, none⟩), .int .u64 root] W fun e W' => e = .returned (.tuple #[.slice none 0 0, .int .i64 3]) ∧ Below W.heap.size W W' := by
  have hne : ((root : Int) == 0) = false := by rw [beq_eq_false_iff_ne]; omega
  obtain ⟨W1, hW1⟩ : ∃ W1, W1 = W.alloc (.map #[] 0) := ⟨_, rfl⟩
  obtain ⟨W2, hW2⟩ : ∃ W2, W2 = W1.alloc (.cells #[ldV s, .map (some W.heap.size), .slice none 0 0] 107) := ⟨_, rfl⟩
  have s1 : W1.heap.size = W.heap.size + 1 := by rw [hW1]; simp
  have b1 : Below W.heap.size W W1 := by rw [hW1]; exact (Below.refl _ W).alloc (Nat.le_refl _) _
  have b12 : Below W1.heap.size W1 W2 := by rw [hW2]; exact (Below.refl _ W1).alloc (Nat.le_refl _) _
  have b2 : Below W.heap.size W W2 := b1.trans (b12.mono (by omega))
  have k2 : Ob W2 (W.heap.size + 1) 107 [ldV s, .map (some W.heap.size), .slice none 0 0] := by rw [hW2, ← s1]; exact Ob.new W1 [ldV s, .map (some W.heap.size), .slice none 0 0] 107
  have C3 := downnone_any (h.below b2) hT hx root (W.heap.size + 1) hr hrt k2
  have HC3 := hide C3
  have HB2 := hide b2
  have hmm := @run_makeMap Tryz.prog
  have hW2' : W2 = (W.alloc (.map #[] 0)).alloc (.cells #[.func (.func 46) #[.pointer (some ⟨s, 0, none⟩)] #[], .map (some W.heap.size), .slice none 0 0] 107) := by rw [hW2, hW1]; rfl
  clear C3 k2 b2 b12 b1 s1 hW1 hW2 h
  go_enter Tryz.func20, Tryz.ntmps20
  go_wp2_with fail
  rw [← hW2']
  clear hW2'
  refine HC3.out.mono ?_
  rintro e w3 ⟨rfl, b3⟩
  have HF := hide (HB2.out.trans (b3.mono HB2.out.size))
  clear b3
  go_wp2
  refine bodyPost_ret (by simp [results, Tryz.results20, go_sem]; rfl) rfl ?_
  exact ⟨rfl, HF.out⟩
end Go.Proofs.YtlghehidhgiilaaGreat
namespace Go.Proofs.YtlghehidhgiilaaGreat
open Go.RowKit Apo
/-- of which inputs something is asked -/
def RgAsk (es : List En) (lo hi : ByteArray) (most : Int) : Prop := lightB es = true ∧ lo.size ≤ 60 ∧ hi.size ≤ 60 ∧ 0 ≤ most ∧ rightE es = 0
set_option maxRecDepth 100000 in
set_option maxHeartbeats 4000000 in
theorem ranges10_out (w : World) (x : EsA) (hx : OkEs w x) (lo hi : ByteArray) (hlo : lo.size ≤ 9223372036854775807) (hhi : hi.size ≤ 9223372036854775807) (most : Int) (id : Nat) (hno : ¬ RgAsk x.l lo hi most) :
    Calls Tryz.prog 7 #[.slice x.a x.l.length x.c, .string lo, .string hi, .int .i64 most, .int .u64 id] w fun e w' => e = .returned (.bool true) ∧ Below w.heap.size w w' := by
  obtain ⟨a, c, es⟩ := x
  simp only at hno ⊢
  have hml : maxLen ≤ 9223372036854775807 := by decide
  have hbig := hx.big
  have hlen := hx.len
  simp only at hbig hlen
  have CL : ∀ W, Below w.heap.size w W → Calls Tryz.prog 10 #[.slice a es.length c] W fun e w' => e = .returned (.bool (lightB es)) ∧ Below W.heap.size W w' := fun W b => light_any W a c es (hx.rd.below b) (by omega) hx.sz
  obtain ⟨n, hn⟩ : ∃ n, n = es.length := ⟨_, rfl⟩
  obtain ⟨W0, hW0⟩ : ∃ W0, W0 = w.alloc (.cells #[.int .i64 most] 3) := ⟨_, rfl⟩
  have b0 : Below w.heap.size w W0 := by rw [hW0]; exact (Below.refl _ w).alloc (Nat.le_refl _) _
  have k0 : Ob W0 w.heap.size 3 [.int .i64 most] := by rw [hW0]; exact Ob.new w [.int .i64 most] 3
  have HN := hide hn
  have HX := hide hx
  have HCL := hide CL
  have HAW := hide (tawake_any W0)
  have HNO := hide hno
  have HB0 := hide b0
  have HK0 := hide k0
  rw [← hn] at HCL hlen ⊢
  clear CL hx hn hno b0 k0
  go_enter Tryz.func7, Tryz.ntmps7
  go_wp2_with fail
  rw [← hW0]
  clear hW0
  refine HAW.out.mono ?_
  rintro e w1 ⟨rfl, b1⟩
  have B1 := HB0.out.trans (b1.mono HB0.out.size)
  have k1 := (HK0.out.old b1)
  have HC2 := hide (HCL.out w1 B1)
  have HB1 := hide B1
  have HK1 := hide k1
  clear b1 B1 k1
  go_wp2_with fail
  refine HC2.out.mono ?_
  rintro e w2 ⟨rfl, b2⟩
  have B2 := HB1.out.trans (b2.mono HB1.out.size)
  have k2 := HK1.out.old b2
  have c2 := k2.cell 0
  simp only [List.getElem?_cons_zero] at c2
  have HF := hide B2
  clear b2 B2 k2 HC2 HK1
  cases hli : lightB es with
  | false =>
    go_wp2
    go_ret
    exact ⟨rfl, HF.out⟩
  | true =>
    have hn60 : n ≤ 60 := by
      have h2 := hli
      unfold lightB at h2
      simp only [Bool.and_eq_true, decide_eq_true_eq] at h2
      have := HN.out
      omega
    by_cases h1 : 60 < lo.size
    · have hd : decide ((60 : Int) < (lo.size : Int)) = true := decide_eq_true (by omega)
      clear HNO
      go_wp2
      go_ret
      exact ⟨rfl, HF.out⟩
    · have hd1 : decide ((60 : Int) < (lo.size : Int)) = false := decide_eq_false (by omega)
      by_cases h2 : 60 < hi.size
      · have hd : decide ((60 : Int) < (hi.size : Int)) = true := decide_eq_true (by omega)
        clear HNO
        go_wp2
        go_ret
        exact ⟨rfl, HF.out⟩
      · have hd2 : decide ((60 : Int) < (hi.size : Int)) = false := decide_eq_false (by omega)
        by_cases h3 : most < 0
        · have hd3 : decide (most < 0) = true := decide_eq_true h3
          clear HNO
          go_wp2
          go_ret
          exact ⟨rfl, HF.out⟩
        · have hd3 : decide (most < 0) = false := decide_eq_false h3
          have hre : rightE es ≠ 0 := fun q => HNO.out ⟨hli, by omega, by omega, by omega, q⟩
          have CR := rright_any w2 a c es (HX.out.rd.below HF.out) (by have := HN.out; omega) HX.out.sz
          unfold RrP at CR
          rw [← HN.out] at CR
          obtain ⟨er, her⟩ : ∃ er, er = rightE es := ⟨_, rfl⟩
          rw [← her] at CR hre
          have HCR := hide CR
          have h4 : (er != 0) = true := by simpa using hre
          clear CR her hre HNO hli
          go_wp2_with fail
          refine HCR.out.mono ?_
          rintro e w3 ⟨rfl, b3⟩
          have HF3 := hide (HF.out.trans (b3.mono HF.out.size))
          clear b3
          go_wp2
          go_ret
          exact ⟨rfl, HF3.out⟩
end Go.Proofs.YtlghehidhgiilaaGreat
namespace Go.Proofs.YtlghehidhgiilaaGreat
open Go.RowKit Apo
/-- what the law's own loop has gathered of the first k entries -/
def wantK (lo hi : ByteArray) (es : List En) (m k : Nat) : List En := (rgL lo hi (es.take k)).take m
theorem wantK_zero (lo hi : ByteArray) (es : List En) (m : Nat) : wantK lo hi es m 0 = [] := by simp [wantK, rgL]
theorem wantK_all (lo hi : ByteArray) (es : List En) (m : Nat) : wantK lo hi es m es.length = (rgL lo hi es).take m := by simp [wantK]
theorem wantK_out {lo hi : ByteArray} {es : List En} {m k : Nat} {e : En} (h : es[k]? = some e) (hi' : inR lo hi e = false) : wantK lo hi es m (k + 1) = wantK lo hi es m k := by
  obtain ⟨hk, he⟩ := List.getElem?_eq_some_iff.1 h
  unfold wantK rgL
  rw [List.take_succ_eq_append_getElem hk, he, List.filter_append]
  simp [hi']
theorem wantK_in {lo hi : ByteArray} {es : List En} {m k : Nat} {e : En} (h : es[k]? = some e) (hi' : inR lo hi e = true) : (wantK lo hi es m k).length < m → wantK lo hi es m (k + 1) = wantK lo hi es m k ++ [e] := by
  obtain ⟨hk, he⟩ := List.getElem?_eq_some_iff.1 h
  unfold wantK rgL
  rw [List.take_succ_eq_append_getElem hk, he, List.filter_append, List.filter_cons_of_pos hi', List.filter_nil]
  intro hl
  rw [List.length_take] at hl
  rw [List.take_of_length_le (l := List.filter (inR lo hi) (es.take k) ++ [e]) (by rw [List.length_append, List.length_singleton]; omega), List.take_of_length_le (l := List.filter (inR lo hi) (es.take k)) (by omega)]
theorem wantK_full {lo hi : ByteArray} {es : List En} {m k : Nat} {e : En} (h : es[k]? = some e) (hl : ¬ (wantK lo hi es m k).length < m) : wantK lo hi es m (k + 1) = wantK lo hi es m k := by
  obtain ⟨hk, he⟩ := List.getElem?_eq_some_iff.1 h
  unfold wantK rgL at hl ⊢
  rw [List.take_succ_eq_append_getElem hk, he, List.filter_append]
  rw [List.length_take] at hl
  exact List.take_append_of_le_length (by omega)
theorem wantK_len (lo hi : ByteArray) (es : List En) (m k : Nat) : (wantK lo hi es m k).length ≤ m ∧ (wantK lo hi es m k).length ≤ es.length := by
  unfold wantK rgL
  have h1 := List.length_filter_le (inR lo hi) (es.take k)
  rw [List.length_take] at h1 ⊢
  constructor <;> omega
end Go.Proofs.YtlghehidhgiilaaGreat
