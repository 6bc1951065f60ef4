/- Range, over the translation. List of a number that there isn't, over the translation. -/
import Derived.Test.YtlghehidhgiilaaGreatQM38
namespace Go.Proofs.YtlghehidhgiilaaGreat
open Go.RowKit Go.Shelf Apo
attribute [local go_sem] Oper.semAt_some
/-- whether a key lies between bounds -/
def inR (lo hi : ByteArray) (e : En) : Bool := !(sLt e.k lo) && (decide (hi = ByteArray.empty) || sLt e.k hi)
def rgL (lo hi : ByteArray) (es : List En) : List En := es.filter (inR lo hi)
def rgC (lo hi : ByteArray) (es : List En) (k : Nat) : Nat := (rgL lo hi (es.take k)).length
theorem rg_at {lo hi : ByteArray} {es : List En} {k : Nat} {e : En} (h : es[k]? = some e) : (inR lo hi e = false → rgC lo hi es (k + 1) = rgC lo hi es k) ∧ (inR lo hi e = true → rgC lo hi es (k + 1) = rgC lo hi es k + 1 ∧ (rgL lo hi es)[rgC lo hi es k]? = some e) := by
  obtain ⟨hk, he⟩ := List.getElem?_eq_some_iff.1 h
  have h1 : es.take (k + 1) = es.take k ++ [e] := by rw [← he]; exact List.take_succ_eq_append_getElem hk
  refine ⟨fun q => ?_, fun q => ⟨?_, ?_⟩⟩
  · unfold rgC rgL
    rw [h1, List.filter_append]
    simp [q]
  · unfold rgC rgL
    rw [h1, List.filter_append]
    simp [q]
  · have h2 : es = es.take k ++ e :: es.drop (k + 1) := by rw [← he, ← List.drop_eq_getElem_cons hk, List.take_append_drop]
    have h3 : rgL lo hi es = rgL lo hi (es.take k) ++ e :: rgL lo hi (es.drop (k + 1)) := by
      conv => lhs; rw [h2]
      unfold rgL
      rw [List.filter_append, List.filter_cons_of_pos q]
    rw [h3]
    unfold rgC
    rw [List.getElem?_append_right (Nat.le_refl _), Nat.sub_self]
    rfl
/-- what Range keeps while it is told -/
structure RgJ (J : Nat → (Nat → Prop) → World → Prop) (lo hi : ByteArray) (es : List En) (By Bl Bh d ly : Nat) (r : Loop) (k : Nat) (U : Nat → Prop) (A : World) : Prop where
  lp : LpAt d r A
  j : J (rgC lo hi es k) U A
  y : Ob A By 126 [.func (.yield ly) #[] #[]]
  lo : Ob A Bl 9 [.string lo]
  hi : Ob A Bh 9 [.string hi]
  u : ¬ U By ∧ ¬ U Bl ∧ ¬ U Bh ∧ ¬ U d ∧ ¬ U (d + 1)
def RgX (Jx : Nat → (Nat → Prop) → World → Prop) (lo hi : ByteArray) (es : List En) (d : Nat) (rd : Code → Loop) (_ : Nat) (U : Nat → Prop) (A : World) : Prop := LpAt d (rd .ret) A ∧ ∃ k, k ≤ (rgL lo hi es).length ∧ Jx k U A
def RgR (V : Nat → Prop) (Q : (Nat → Prop) → World → Prop) (U : Nat → Prop) (A A' : World) : Prop := ∃ U', Q U' A' ∧ Onl V A A' ∧ ∀ i, U' i → U i ∨ A.heap.size ≤ i
set_option maxRecDepth 100000 in
set_option maxHeartbeats 8000000 in
theorem range1_in {it : Nat → En} {lp B : Nat} {X : Nat → Prop} {J Jx : Nat → (Nat → Prop) → World → Prop} (lo hi : ByteArray) (es : List En) (hlen : es.length ≤ 1000000) (H : TellsE (rgL lo hi es).length it lp B X J Jx) (hit : ∀ (i : Nat) e, (rgL lo hi es)[i]? = some e → it i = e) (nn : Nat) (W : World) (Ba Bl Bh Bs : Nat) (v : Value) (U : Nat → Prop) (hB : B ≤ W.heap.size) (hj : J 0 U W) (ha : Ob W Ba 68 [.func (.func 62) #[] #[.pointer (some ⟨Bs, 0, none⟩)]]) (hl : Ob W Bl 9 [.string lo]) (hh : Ob W Bh 9 [.string hi]) (hb : Ob W Bs 22 [v]) (hr : Row (fun _ => True) W 66 2 v es.length (ecells es)) (hU : ∀ i, v.ownBlock = some i → ¬ U i) (hUl : ¬ U Bl) (hUh : ¬ U Bh) (hX : ∀ i, X i → i < W.heap.size) :
    CallsIn Fence.wide nn Tryz.prog 61 #[.func (.yield lp) #[] #[], .pointer (some ⟨Ba, 0, none⟩), .pointer (some ⟨Bl, 0, none⟩), .pointer (some ⟨Bh, 0, none⟩)] W (Told2 (rgL lo hi es).length X J Jx U W) := by
  obtain ⟨W0, hW0⟩ : ∃ W0, W0 = W.alloc (.cells #[.func (.yield lp) #[] #[]] 126) := ⟨_, rfl⟩
  have b0 : Below W.heap.size W W0 := by rw [hW0]; exact (Below.refl _ W).alloc (Nat.le_refl _) _
  have s0 : W0.heap.size = W.heap.size + 1 := by rw [hW0]; simp
  have ky : Ob W0 W.heap.size 126 [.func (.yield lp) #[] #[]] := by rw [hW0]; exact Ob.new W [.func (.yield lp) #[] #[]] 126
  have hlt := H.lt _ _ _ hj
  have y0 := (ha.old b0).cell 0
  simp only [List.getElem?_cons_zero] at y0
  rw [hW0] at y0
  refine callsIn_of_wp_marks Tryz.func61 rfl trivial ?_ rfl
  simp only [Tryz.ntmps61, List.size_toArray, List.length_cons, List.length_nil, Nat.reduceAdd, Nat.reduceSub, Array.replicate_succ, Array.replicate_zero, List.push_toArray, List.append_toArray, List.nil_append, List.cons_append]
  gi_wp2
  rw [← hW0]
  clear hW0 y0
  refine range_two (gf := 62) (lb := #[.pointer (some ⟨Bs, 0, none⟩)]) rfl enter_all1 (fun W2 => (∃ r2, W2.heap[W0.heap.size + 1]? = some (.loop r2)) ∧ ∃ U', J (rgL lo hi es).length U' W2 ∧ Onl U W W2 ∧ ∀ i, U' i → U i ∨ W.heap.size ≤ i) (fun c W2 => c = .ret ∧ (∃ r2, W2.heap[W0.heap.size + 1]? = some (.loop r2)) ∧ ∃ k U', k ≤ (rgL lo hi es).length ∧ Jx k U' W2 ∧ Onl (fun i => U i ∨ X i) W W2 ∧ ∀ i, U' i → U i ∨ W.heap.size ≤ i) ?call ?done ?stop
  case call =>
    intro fn r rd W1 hr' hrd lp1 b1 s1
    have H2 : TellsE es.length (fun k => es.getD k ⟨ByteArray.empty, ByteArray.empty⟩) (W0.heap.size + 1) (W0.heap.size + 2) (fun i => X i ∨ i = W0.heap.size + 1) (RgJ J lo hi es W.heap.size Bl Bh W0.heap.size lp r) (RgX Jx lo hi es W0.heap.size rd) := by
      refine ⟨fun k U A B hj hb => ⟨hj.lp.below hb, H.bel _ _ _ _ hj.j hb, hj.y.old hb, hj.lo.old hb, hj.hi.old hb, hj.u⟩, fun k U A hj => H.lt _ _ _ hj.j, fun k U A l o o' hj hl hA hc => ?_, fun k U A l o o' hj hl hA hc => ?_, fun k U A hj hk nn => ?_⟩
      · have o2 : Onl (fun i => i = l) A (A.putObj l o') := put_onl _
        have hne : ∀ {g t cs}, Ob A g t cs → ¬ (g = l) := fun {g t cs} kk q => by
          have : A.heap[g]? = _ := kk
          rw [q, hA] at this
          cases this
          cases hc
        exact ⟨hj.lp.onl o2 (by omega) (by omega), H.put _ _ _ _ _ _ hj.j (by omega) hA hc, hj.y.onl o2 (hne hj.y), hj.lo.onl o2 (hne hj.lo), hj.hi.onl o2 (hne hj.hi), hj.u⟩
      · obtain ⟨q1, k2, q2, q3⟩ := hj
        have o2 : Onl (fun i => i = l) A (A.putObj l o') := put_onl _
        exact ⟨q1.onl o2 (by omega) (by omega), k2, q2, H.putx _ _ _ _ _ _ q3 (by omega) hA hc⟩
      · obtain ⟨x, hx⟩ : ∃ x, es[k]? = some x := ⟨es[k], List.getElem?_eq_getElem hk⟩
        have hgd : es.getD k ⟨ByteArray.empty, ByteArray.empty⟩ = x := by simp [List.getD_eq_getElem?_getD, hx]
        simp only [hgd]
        obtain ⟨hno, hyes⟩ := rg_at (lo := lo) (hi := hi) hx
        have ha := congrArg Loop.assign hr'
        have hb := congrArg Loop.body hr'
        have hpa := congrArg Loop.params hr'
        have htm := congrArg Loop.tmps hr'
        obtain ⟨rb, hrb⟩ : ∃ rb, rb = { r with state := .busy } := ⟨_, rfl⟩
        have lpA := hj.lp
        obtain ⟨d, hd⟩ : ∃ d, d = W0.heap.size := ⟨_, rfl⟩
        show YieldAt Fence.wide nn Tryz.prog (W0.heap.size + 1) _ A (fun e A' => (e = .returned (.bool true) ∧ RgR U (RgJ J lo hi es W.heap.size Bl Bh W0.heap.size lp r (k + 1)) U A A') ∨ (e = .returned (.bool false) ∧ RgR (fun i => U i ∨ X i ∨ i = W0.heap.size + 1) (RgX Jx lo hi es W0.heap.size rd (k + 1)) U A A'))
        refine yield_two hrb hrd (by rw [hr']; rfl) (by rw [hr']; rfl) ha hb hpa htm hj.lp rfl ?_
        simp only [recL]
        obtain ⟨A2, hA2⟩ : ∃ A2, A2 = A.putObj (W0.heap.size + 1) (.loop rb) := ⟨_, rfl⟩
        have o2 : Onl (fun i => i = W0.heap.size + 1) A A2 := by rw [hA2]; exact put_onl _
        have hlb2 : A2.heap[W0.heap.size + 1]? = some (.loop rb) := by rw [hA2]; exact World.putObj_heap_same (Array.getElem?_eq_some_iff.1 lpA.1).1
        have hne : ∀ {g t cs}, Ob A g t cs → ¬ (g = W0.heap.size + 1) := fun {g t cs} kk q => by
          have : A.heap[g]? = _ := kk
          rw [q, lpA.1] at this
          cases this
        have ky2 := hj.y.onl o2 (hne hj.y)
        have kl2 := hj.lo.onl o2 (hne hj.lo)
        have kh2 := hj.hi.onl o2 (hne hj.hi)
        have jA2 : J (rgC lo hi es k) U A2 := by rw [hA2]; exact H.put _ _ _ _ _ _ hj.j (by omega) lpA.1 rfl
        have hd2 : A2.heap[W0.heap.size]? = some (.deferred (some [])) := (o2.block _ (Array.getElem?_eq_some_iff.1 lpA.2).1 (by omega)).trans lpA.2
        have z1 := ky2.cell 0
        have z2 := kl2.cell 0
        have z3 := kh2.cell 0
        simp only [List.getElem?_cons_zero] at z1 z2 z3
        have hu := hj.u
        have back : ∀ (V : Nat → Prop) (A3 : World) (r3 : Loop) (U3 : Nat → Prop), Onl V A2 A3 → ¬ V W0.heap.size → ¬ V (W0.heap.size + 1) → (∀ i, U3 i → U i ∨ A2.heap.size ≤ i) → A3.heap[W0.heap.size + 1]? = some (.loop rb) ∧ LpAt W0.heap.size r3 (A3.putObj (W0.heap.size + 1) (.loop r3)) ∧ (∀ i, U3 i → U i ∨ A.heap.size ≤ i) := by
          intro V A3 r3 U3 o3 v1 v2 u3
          have e1 := (o3.block _ (Array.getElem?_eq_some_iff.1 hlb2).1 v2).trans hlb2
          have e2 := (o3.block _ (Array.getElem?_eq_some_iff.1 hd2).1 v1).trans hd2
          have o4 : Onl (fun i => i = W0.heap.size + 1) A3 (A3.putObj (W0.heap.size + 1) (.loop r3)) := put_onl _
          refine ⟨e1, ⟨World.putObj_heap_same (Array.getElem?_eq_some_iff.1 e1).1, (o4.block _ (Array.getElem?_eq_some_iff.1 e2).1 (by omega)).trans e2⟩, fun i q => (u3 i q).imp (fun z => z) (fun z => by have := o2.size; omega)⟩
        have HNO := hide hno
        have HYES := hide hyes
        have HJA := hide jA2
        have HBACK := hide back
        have HO2 := hide o2
        have HJJ := hide hj
        have HLPA := hide lpA
        have HK3 := hide (And.intro ky2 (And.intro kl2 kh2))
        have HD := hide hx
        have fin1 : ∀ (a3 : Act) (A3 : World) (U3 : Nat → Prop), Onl U A2 A3 → (∀ i, U3 i → U i ∨ A2.heap.size ≤ i) → J (rgC lo hi es (k + 1)) U3 A3 → TwoP W0.heap.size r rb rd (RgR U (RgJ J lo hi es W.heap.size Bl Bh W0.heap.size lp r (k + 1)) U A) (RgR (fun i => U i ∨ X i ∨ i = W0.heap.size + 1) (RgX Jx lo hi es W0.heap.size rd (k + 1)) U A) .normal a3 A3 := by
          intro a3 A3 U3 o3 u3 j3
          obtain ⟨e1, e2, e4⟩ := HBACK.out U A3 r U3 o3 hu.2.2.2.1 hu.2.2.2.2 u3
          have o4 : Onl (fun i => i = W0.heap.size + 1) A3 (A3.putObj (W0.heap.size + 1) (.loop r)) := put_onl _
          have hn3 : ∀ {g t cs}, Ob A3 g t cs → ¬ (g = W0.heap.size + 1) := fun {g t cs} kk q => by
            have : A3.heap[g]? = _ := kk
            rw [q, e1] at this
            cases this
          obtain ⟨p1, p2, p3⟩ := HK3.out
          have p1' := p1.onl o3 hu.1
          have p2' := p2.onl o3 hu.2.1
          have p3' := p3.onl o3 hu.2.2.1
          refine .inl ⟨rfl, e1, U3, ⟨e2, H.put _ _ _ _ _ _ j3 (by omega) e1 rfl, p1'.onl o4 (hn3 p1'), p2'.onl o4 (hn3 p2'), p3'.onl o4 (hn3 p3'), ?_⟩, ?_, e4⟩
          · have a1 := HJJ.out.y.lt
            have a2 := HJJ.out.lo.lt
            have a3 := HJJ.out.hi.lt
            have a4 := (Array.getElem?_eq_some_iff.1 HLPA.out.1).1
            have nu : ∀ i, i < A.heap.size → ¬ U i → ¬ U3 i := fun i hi hn q => (e4 i q).elim hn (fun z => by omega)
            exact ⟨nu _ a1 hu.1, nu _ a2 hu.2.1, nu _ a3 hu.2.2.1, nu _ (by omega) hu.2.2.2.1, nu _ a4 hu.2.2.2.2⟩
          · exact onl_back (((HO2.out.mono (fun i q => .inr q)).trans (o3.mono (fun i q => .inl q))).trans (o4.mono (fun i q => .inr q))) (e2.1.trans HLPA.out.1.symm)
        have fin2 : ∀ (a3 : Act) (A3 : World) (U3 : Nat → Prop), Onl (fun i => U i ∨ X i) A2 A3 → (∀ i, U3 i → U i ∨ A2.heap.size ≤ i) → (∃ k, k ≤ (rgL lo hi es).length ∧ Jx k U3 A3) → TwoP W0.heap.size r rb rd (RgR U (RgJ J lo hi es W.heap.size Bl Bh W0.heap.size lp r (k + 1)) U A) (RgR (fun i => U i ∨ X i ∨ i = W0.heap.size + 1) (RgX Jx lo hi es W0.heap.size rd (k + 1)) U A) .ret a3 A3 := by
          intro a3 A3 U3 o3 u3 j3
          obtain ⟨e1, e2, e4⟩ := HBACK.out _ A3 (rd .ret) U3 o3 (fun q => q.elim hu.2.2.2.1 (fun z => by have := hX _ z; omega)) (fun q => q.elim hu.2.2.2.2 (fun z => by have := hX _ z; omega)) u3
          obtain ⟨k2, hk2, j3⟩ := j3
          have o4 : Onl (fun i => i = W0.heap.size + 1) A3 (A3.putObj (W0.heap.size + 1) (.loop (rd .ret))) := put_onl _
          refine .inr ⟨.ret, rfl, e1, U3, ⟨e2, k2, hk2, H.putx _ _ _ _ _ _ j3 (by omega) e1 rfl⟩, ?_, e4⟩
          exact ((HO2.out.mono (fun i q => .inr (.inr q))).trans (o3.mono (fun i q => q.imp (fun z => z) .inl))).trans (o4.mono (fun i q => .inr (.inr q)))
        have HF1 := hide fin1
        have HF2 := hide fin2
        have HYO := hide (fun (j : J (rgC lo hi es k) U A2) (hin : inR lo hi x = true) => H.yield _ U A2 j (by have := (List.getElem?_eq_some_iff.1 (hyes hin).2).1; exact this) (nn - 1))
        have HIT := hide (fun (hin : inR lo hi x = true) => hit _ _ (hyes hin).2)
        cases hb1 : sLt x.k lo
        · have hbl : Op.bytesLess x.k.toList lo.toList = false := hb1
          by_cases he : hi = ByteArray.empty
          · have hin : inR lo hi x = true := by simp [inR, hb1, he]
            have hee : hi = ⟨#[]⟩ := he
            have hnx := (HYES.out hin).1
            have C := HYO.out HJA.out hin
            rw [HIT.out hin] at C
            obtain ⟨fn9, tmps9, assign9, body9, hy9, hR9⟩ := C
            have HR9 := hide hR9
            have HNX := hide hnx
            have hle : Hid (rgC lo hi es k + 1 ≤ (rgL lo hi es).length) := hide (by have := (List.getElem?_eq_some_iff.1 (HYES.out hin).2).1; omega)
            clear hR9 hnx hin he
            clear hno hyes jA2 back o2 hj lpA ky2 kl2 kh2 hx fin1 fin2 ha hb hpa htm hr' hrd hrb hgd hb1 hd2 hlb2 hne
            gi_wp2
            rw [← hA2]
            refine ⟨HLPA.out, ?_⟩
            clear hA2
            gi_wp2
            refine ⟨fun q => (by cases q), HR9.out.mono ?_⟩
            rintro e A3 (⟨rfl, U3, j3, o3, u3⟩ | ⟨rfl, U3, j3, o3, u3⟩)
            · have HG := hide (fun a3 => HF1.out a3 A3 U3 o3 u3 (by rw [HNX.out]; exact j3))
              clear j3 o3 u3
              gi_wp2
              exact HG.out _
            · have HG := hide (fun a3 => HF2.out a3 A3 U3 o3 u3 ⟨_, hle.out, j3⟩)
              clear j3 o3 u3
              gi_wp2
              exact HG.out _
          · have hee : ¬ (hi.toList = []) := fun q => he (bytes_of_list (by rw [q]; exact (by simp : ([] : List UInt8) = (⟨#[]⟩ : ByteArray).toList)))
            have hef : hi.toList.isEmpty = false := by rw [List.isEmpty_eq_false_iff]; exact hee
            cases hb3 : sLt x.k hi
            · have hbh : Op.bytesLess x.k.toList hi.toList = false := hb3
              have hin : inR lo hi x = false := by simp [inR, hb1, he, hb3]
              clear he hb3
              have HFF : Hid (∀ a3, TwoP W0.heap.size r rb rd (RgR U (RgJ J lo hi es W.heap.size Bl Bh W0.heap.size lp r (k + 1)) U A) (RgR (fun i => U i ∨ X i ∨ i = W0.heap.size + 1) (RgX Jx lo hi es W0.heap.size rd (k + 1)) U A) .normal a3 A2) := hide (fun a3 => HF1.out a3 A2 U (Onl.refl _ _) (fun i q => .inl q) (by rw [HNO.out hin]; exact HJA.out))
              clear hin
              clear hno hyes jA2 back o2 hj lpA ky2 kl2 kh2 hx fin1 fin2 ha hb hpa htm hr' hrd hrb hgd hb1 hd2 hlb2 hne
              gi_wp2
              rw [← hA2]
              refine ⟨HLPA.out, ?_⟩
              clear hA2
              gi_wp2
              exact HFF.out _
            · have hbh : Op.bytesLess x.k.toList hi.toList = true := hb3
              have hin : inR lo hi x = true := by simp [inR, hb1, hb3]
              clear he hb3
              have hnx := (HYES.out hin).1
              have C := HYO.out HJA.out hin
              rw [HIT.out hin] at C
              obtain ⟨fn9, tmps9, assign9, body9, hy9, hR9⟩ := C
              have HR9 := hide hR9
              have HNX := hide hnx
              have hle : Hid (rgC lo hi es k + 1 ≤ (rgL lo hi es).length) := hide (by have := (List.getElem?_eq_some_iff.1 (HYES.out hin).2).1; omega)
              clear hR9 hnx hin
              clear hno hyes jA2 back o2 hj lpA ky2 kl2 kh2 hx fin1 fin2 ha hb hpa htm hr' hrd hrb hgd hb1 hd2 hlb2 hne
              gi_wp2
              rw [← hA2]
              refine ⟨HLPA.out, ?_⟩
              clear hA2
              gi_wp2
              refine ⟨fun q => (by cases q), HR9.out.mono ?_⟩
              rintro e A3 (⟨rfl, U3, j3, o3, u3⟩ | ⟨rfl, U3, j3, o3, u3⟩)
              · have HG := hide (fun a3 => HF1.out a3 A3 U3 o3 u3 (by rw [HNX.out]; exact j3))
                clear j3 o3 u3
                gi_wp2
                exact HG.out _
              · have HG := hide (fun a3 => HF2.out a3 A3 U3 o3 u3 ⟨_, hle.out, j3⟩)
                clear j3 o3 u3
                gi_wp2
                exact HG.out _
        · have hbl : Op.bytesLess x.k.toList lo.toList = true := hb1
          have hin : inR lo hi x = false := by simp [inR, hb1]
          have HFF : Hid (∀ a3, TwoP W0.heap.size r rb rd (RgR U (RgJ J lo hi es W.heap.size Bl Bh W0.heap.size lp r (k + 1)) U A) (RgR (fun i => U i ∨ X i ∨ i = W0.heap.size + 1) (RgX Jx lo hi es W0.heap.size rd (k + 1)) U A) .normal a3 A2) := hide (fun a3 => HF1.out a3 A2 U (Onl.refl _ _) (fun i q => .inl q) (by rw [HNO.out hin]; exact HJA.out))
          clear hno hyes jA2 back o2 hj lpA ky2 kl2 kh2 hx fin1 fin2 ha hb hpa htm hr' hrd hrb hgd hin hb1 hd2 hlb2 hne
          gi_wp2
          rw [← hA2]
          refine ⟨HLPA.out, ?_⟩
          clear hA2
          gi_wp2
          exact HFF.out _
    have hcn : rgC lo hi es es.length = (rgL lo hi es).length := by unfold rgC; rw [List.take_length]
    have hj1 : RgJ J lo hi es W.heap.size Bl Bh W0.heap.size lp r 0 U W1 := ⟨lp1, H.bel _ _ _ _ (H.bel _ _ _ _ hj b0) b1, ky.old b1, (hl.old b0).old b1, (hh.old b0).old b1, fun q => by have := hlt _ q; omega, hUl, hUh, fun q => by have := hlt _ q; omega, fun q => by have := hlt _ q; omega⟩
    refine (all1_in es hlen H2 (fun i e h => by simp [List.getD_eq_getElem?_getD, h]) (nn - 1) W1 Bs v U hj1 ((hb.old b0).old b1) ((hr.onl (F := fun _ => False) (Onl.ofBelow b0) (fun _ _ q => q)).onl (F := fun _ => False) (Onl.ofBelow b1) (fun _ _ q => q)) hU).mono ?_
    rintro e W2 ⟨hv, ⟨U', j2, o2, u2⟩ | ⟨k, U', hk, ⟨x1, k2, hk2, x2⟩, o2, u2⟩⟩
    · refine ⟨hv, .inl ⟨j2.lp, ⟨_, j2.lp.1⟩, U', by rw [← hcn]; exact j2.j, ((Onl.ofBelow b0).trans (Onl.ofBelow b1)).trans o2, fun i q => (u2 i q).imp (fun z => z) (fun z => by omega)⟩⟩
    · exact ⟨hv, .inr ⟨.ret, x1, rfl, ⟨_, x1.1⟩, k2, U', hk2, x2, ((Onl.ofBelow b0).trans (Onl.ofBelow b1)).more o2 (fun i q => q.elim (fun z => .inl (.inl z)) (fun z => z.elim (fun z => .inl (.inr z)) (fun z => .inr (by omega)))), fun i q => (u2 i q).imp (fun z => z) (fun z => by omega)⟩⟩
  case done =>
    rintro W2 o ⟨⟨r2, l2⟩, U', j2, o2, u2⟩ dd dl
    have hsz := o2.size
    have oa : Onl (fun i => i = W0.heap.size + 1) W2 (W2.putObj (W0.heap.size + 1) o) := put_onl _
    have ed : (W2.putObj (W0.heap.size + 1) o).heap[W0.heap.size]? = some (.deferred (some [])) := (oa.block _ (by omega) (by omega)).trans dd
    have ob : Onl (fun i => i = W0.heap.size) (W2.putObj (W0.heap.size + 1) o) ((W2.putObj (W0.heap.size + 1) o).putObj W0.heap.size (.deferred none)) := put_onl _
    have HF : Hid (Told2 (rgL lo hi es).length X J Jx U W (.returned (.tuple #[])) ((W2.putObj (W0.heap.size + 1) o).putObj W0.heap.size (.deferred none))) := hide ⟨⟨_, rfl⟩, .inl ⟨U', H.put _ _ _ _ _ _ (H.put _ _ _ _ _ _ j2 (by omega) l2 rfl) (by omega) ed rfl, (o2.more oa (fun i q => .inr (by omega))).more ob (fun i q => .inr (by omega)), u2⟩⟩
    have HD := hide ed
    obtain ⟨W3, hW3⟩ : ∃ W3, W3 = W2.putObj (W0.heap.size + 1) o := ⟨_, rfl⟩
    obtain ⟨D, hD⟩ : ∃ D, D = W0.heap.size := ⟨_, rfl⟩
    rw [← hW3, ← hD] at HF HD
    rw [← hW3, ← hD]
    clear hW3 hD s0 j2 o2 u2 l2 r2 dd dl oa ed ob ky b0 hlt hsz
    gi_wp2
    refine ⟨by simp, .inl ⟨_, _, rfl, run_takeDeferred HD.out, ?_⟩⟩
    exact ⟨_, results_none rfl _ _ _, HF.out⟩
  case stop =>
    rintro c W2 o ⟨rfl, ⟨r2, l2⟩, k, U', hk, j2, o2, u2⟩ dd dl
    have hsz := o2.size
    have oa : Onl (fun i => i = W0.heap.size + 1) W2 (W2.putObj (W0.heap.size + 1) o) := put_onl _
    have ed : (W2.putObj (W0.heap.size + 1) o).heap[W0.heap.size]? = some (.deferred (some [])) := (oa.block _ (by omega) (by omega)).trans dd
    have ob : Onl (fun i => i = W0.heap.size) (W2.putObj (W0.heap.size + 1) o) ((W2.putObj (W0.heap.size + 1) o).putObj W0.heap.size (.deferred none)) := put_onl _
    have HF : Hid (Told2 (rgL lo hi es).length X J Jx U W (.returned (.tuple #[])) ((W2.putObj (W0.heap.size + 1) o).putObj W0.heap.size (.deferred none))) := hide ⟨⟨_, rfl⟩, .inr ⟨k, U', hk, H.putx _ _ _ _ _ _ (H.putx _ _ _ _ _ _ j2 (by omega) l2 rfl) (by omega) ed rfl, (o2.more oa (fun i q => .inr (by omega))).more ob (fun i q => .inr (by omega)), u2⟩⟩
    have HD := hide ed
    obtain ⟨W3, hW3⟩ : ∃ W3, W3 = W2.putObj (W0.heap.size + 1) o := ⟨_, rfl⟩
    obtain ⟨D, hD⟩ : ∃ D, D = W0.heap.size := ⟨_, rfl⟩
    rw [← hW3, ← hD] at HF HD
    rw [← hW3, ← hD]
    clear hW3 hD s0 j2 o2 u2 l2 r2 dd dl oa ed ob ky b0 hlt hsz
    gi_wp2
    refine ⟨by simp, .inl ⟨_, _, rfl, run_takeDeferred HD.out, ?_⟩⟩
    exact ⟨_, results_none rfl _ _ _, HF.out⟩
theorem enter_range1 : ∀ args w, (callFunc 61 args).run Tryz.prog w = .ok (.enter 61 args) w := fun _ _ => by kernel_rfl
/-- what Range hands out -/
def RngP (W : World) (lo hi : ByteArray) (es : List En) (e : Ending) (W' : World) : Prop := ∃ Ba Bl Bh Bs v, e = .returned (.func (.func 61) #[] #[.pointer (some ⟨Ba, 0, none⟩), .pointer (some ⟨Bl, 0, none⟩), .pointer (some ⟨Bh, 0, none⟩)]) ∧ W.heap.size ≤ Bl ∧ W.heap.size ≤ Bh ∧ Ob W' Ba 68 [.func (.func 62) #[] #[.pointer (some ⟨Bs, 0, none⟩)]] ∧ Ob W' Bl 9 [.string lo] ∧ Ob W' Bh 9 [.string hi] ∧ Ob W' Bs 22 [v] ∧ Row (fun g => W.heap.size ≤ g) W' 66 2 v es.length (ecells es) ∧ Below W.heap.size W W'
set_option maxRecDepth 100000 in
set_option maxHeartbeats 4000000 in
theorem trange_any {w W : World} {s m : Nat} {O : Nat → Prop} {T : List (List Int)} (h : TSw w W s O T m) (hT : T.length ≤ 16000) (hx : TxOk T) (root : Nat) (ls : List (Nat × List En)) (ht : RootT T root ls) (hpos : ∀ p ∈ ls, 0 < p.2.length) (hsz : (ls.flatMap (fun p => p.2)).length ≤ 1000) (lo hi : ByteArray) :
    Calls Tryz.prog 27 #[.pointer (some ⟨s, 0, none⟩), .int .u64 root, .string lo, .string hi] W (RngP W lo hi (ls.flatMap (fun p => p.2))) := by
  obtain ⟨W2, hW2⟩ : ∃ W2, W2 = (W.alloc (.cells #[.string lo] 9)).alloc (.cells #[.string hi] 9) := ⟨_, rfl⟩
  have b2 : Below W.heap.size W W2 := by rw [hW2]; exact ((Below.refl _ W).alloc (Nat.le_refl _) _).alloc (by simp) _
  have s2 : W2.heap.size = W.heap.size + 2 := by rw [hW2]; simp
  have kl : Ob W2 W.heap.size 9 [.string lo] := by rw [hW2]; exact (Ob.new W [.string lo] 9).alloc _
  have kh : Ob W2 (W.heap.size + 1) 9 [.string hi] := by
    have := Ob.new (W.alloc (.cells #[.string lo] 9)) [.string hi] 9
    rw [World.size_alloc] at this
    rw [hW2]
    exact this
  have C := tall_any (h.below b2) hT hx root ls ht hpos hsz
  obtain ⟨es, hes⟩ : ∃ es, es = ls.flatMap (fun p => p.2) := ⟨_, rfl⟩
  rw [← hes] at C ⊢
  have HC := hide C
  have HK := hide (And.intro kl (And.intro kh b2))
  clear C h hes hsz hpos ht kl kh b2
  go_enter Tryz.func27, Tryz.ntmps27
  go_wp2_with fail
  rw [← hW2]
  clear hW2
  refine HC.out.mono ?_
  rintro e w3 ⟨Bs, v, hBs, rfl, kb, r3, b3⟩
  have hz := b3.size
  obtain ⟨kl, kh, b2⟩ := HK.out
  have b4 : Below w3.heap.size w3 (w3.alloc (.cells #[.func (.func 62) #[] #[.pointer (some ⟨Bs, 0, none⟩)]] 68)) := (Below.refl _ w3).alloc (Nat.le_refl _) _
  have HF : Hid (RngP W lo hi es (.returned (.func (.func 61) #[] #[.pointer (some ⟨w3.heap.size, 0, none⟩), .pointer (some ⟨W.heap.size, 0, none⟩), .pointer (some ⟨W.heap.size + 1, 0, none⟩)])) (w3.alloc (.cells #[.func (.func 62) #[] #[.pointer (some ⟨Bs, 0, none⟩)]] 68))) := by
    refine hide ⟨w3.heap.size, W.heap.size, W.heap.size + 1, Bs, v, rfl, Nat.le_refl _, by omega, Ob.new w3 [.func (.func 62) #[] #[.pointer (some ⟨Bs, 0, none⟩)]] 68, (kl.old b3).old b4, (kh.old b3).old b4, kb.old b4, ⟨(r3.onl (F := fun _ => False) (Onl.ofBelow b4) (fun _ _ q => q)).1, fun g hg => by have := r3.2 g hg; omega⟩, b2.trans ((b3.trans (b4.mono hz)).mono b2.size)⟩
  clear kl kh b2 b3 b4 kb r3 HC HK hBs hz s2
  go_wp2
  go_ret
  exact HF.out
end Go.Proofs.YtlghehidhgiilaaGreat
namespace Go.Proofs.YtlghehidhgiilaaGreat
open Go.RowKit Go.Shelf Apo
attribute [local go_sem] Oper.semAt_some
def LnR (W A : World) : Prop := Below W.heap.size W A ∧ Ob A W.heap.size 22 [.slice none 0 0] ∧ Ob A (W.heap.size + 1) 32 [.int .i64 3]
set_option maxRecDepth 100000 in
set_option maxHeartbeats 8000000 in
theorem tlistnone_any {w W : World} {s m : Nat} {O : Nat → Prop} {T : List (List Int)} (h : TSw w W s O T m) (hT : T.length ≤ 16000) (hx : TxOk T) (root : Nat) (hr0 : T.length < root) (hrt : root < 18446744073709551616) :
    Calls Tryz.prog 29 #[.pointer (some ⟨s, 0, none⟩), .int .u64 root] W fun e W' => e = .returned (.tuple #[.slice none 0 0, .int .i64 3]) ∧ Below W.heap.size W W' := by
  refine (callsIn_wide (n := 1)).1 ?_
  obtain ⟨W5, hW5⟩ : ∃ W5, W5 = ((((W.alloc (.cells #[.slice none 0 0] 22)).alloc (.cells #[.int .i64 0] 32)).alloc (.cells #[.slice none 0 0] 22)).alloc (.cells #[ldV s] 95)).alloc (.cells #[.int .u64 root] 31) := ⟨_, rfl⟩
  have s5 : W5.heap.size = W.heap.size + 5 := by rw [hW5]; simp
  have HC1 := hide (leaves_fn s root)
  have HH := hide h
  refine callsIn_of_wp_marks Tryz.func29 rfl trivial ?_ rfl
  simp only [Tryz.ntmps29, List.size_toArray, List.length_cons, List.length_nil, Nat.reduceAdd, Nat.reduceSub, Array.replicate_succ, Array.replicate_zero, List.push_toArray, List.append_toArray, List.nil_append, List.cons_append]
  gi_wp2_with fail
  refine ⟨trivial, (callsIn_wide.2 (HC1.out _)).mono ?_⟩
  rintro e w1 ⟨rfl, rfl⟩
  gi_wp2
  rw [← hW5]
  have b5 : Below W.heap.size W W5 := by rw [hW5]; exact (((((Below.refl _ W).alloc (Nat.le_refl _) _).alloc (by simp) _).alloc (by simp; omega) _).alloc (by simp; omega) _).alloc (by simp; omega) _
  have k0 : Ob W5 W.heap.size 22 [.slice none 0 0] := by rw [hW5]; exact ((((Ob.new W [.slice none 0 0] 22).alloc _).alloc _).alloc _).alloc _
  have k1 : Ob W5 (W.heap.size + 1) 32 [.int .i64 0] := by
    have := Ob.new (W.alloc (.cells #[.slice none 0 0] 22)) [.int .i64 0] 32
    rw [World.size_alloc] at this
    rw [hW5]
    exact ((this.alloc _).alloc _).alloc _
  have k2 : Ob W5 (W.heap.size + 2) 22 [.slice none 0 0] := by
    have := Ob.new ((W.alloc (.cells #[.slice none 0 0] 22)).alloc (.cells #[.int .i64 0] 32)) [.slice none 0 0] 22
    rw [World.size_alloc, World.size_alloc] at this
    rw [hW5]
    exact (this.alloc _).alloc _
  have k3 : Ob W5 (W.heap.size + 3) 95 [ldV s] := by
    have := Ob.new (((W.alloc (.cells #[.slice none 0 0] 22)).alloc (.cells #[.int .i64 0] 32)).alloc (.cells #[.slice none 0 0] 22)) [ldV s] 95
    rw [World.size_alloc, World.size_alloc, World.size_alloc] at this
    rw [hW5]
    exact this.alloc _
  have k4 : Ob W5 (W.heap.size + 4) 31 [.int .u64 root] := by
    have := Ob.new ((((W.alloc (.cells #[.slice none 0 0] 22)).alloc (.cells #[.int .i64 0] 32)).alloc (.cells #[.slice none 0 0] 22)).alloc (.cells #[ldV s] 95)) [.int .u64 root] 31
    rw [World.size_alloc, World.size_alloc, World.size_alloc, World.size_alloc] at this
    rw [hW5]
    exact this
  clear hW5
  refine range_stop (gf := 86) (lb := #[.pointer (some ⟨W.heap.size + 4, 0, none⟩), .pointer (some ⟨W.heap.size + 3, 0, none⟩)]) rfl enter_leaves1 (LnR W) ?call ?done
  case call =>
    intro fn r rd W1 hr hrd lp1 b1 s1
    have q3 := (k3.old b1).cell 0
    have q4 := (k4.old b1).cell 0
    simp only [List.getElem?_cons_zero] at q3 q4
    refine (leaves1_bad (R := fun A => LpAt W5.heap.size rd A ∧ LnR W A) (HH.out.below (b5.trans (b1.mono b5.size))) hT hx _ root (W.heap.size + 4) (W.heap.size + 3) hr0 hrt q4 q3 (fun A bA nn => ?_))
    have lp := lp1.below bA
    have hlA := (Array.getElem?_eq_some_iff.1 lp.1).1
    have ha := congrArg Loop.assign hr
    have hb := congrArg Loop.body hr
    have hpa := congrArg Loop.params hr
    have htm := congrArg Loop.tmps hr
    obtain ⟨rb, hrb⟩ : ∃ rb, rb = { r with state := .busy } := ⟨_, rfl⟩
    refine yield_stop hrb hrd (by rw [hr]; rfl) ha hb hpa htm lp rfl ?_
    simp only [recL]
    obtain ⟨A1, hA1⟩ : ∃ A1, A1 = A.alloc (.cells #[.int .u64 0, .slice none 0 0] 98) := ⟨_, rfl⟩
    have bA1 : Below A.heap.size A A1 := by rw [hA1]; exact (Below.refl _ A).alloc (Nat.le_refl _) _
    have sA1 : A1.heap.size = A.heap.size + 1 := by rw [hA1]; simp
    have lpA1 := lp.below bA1
    obtain ⟨A2, hA2⟩ : ∃ A2, A2 = A1.putObj (W5.heap.size + 1) (.loop rb) := ⟨_, rfl⟩
    have o2 : Onl (fun i => i = W5.heap.size + 1) A1 A2 := by rw [hA2]; exact put_onl _
    have hlb2 : A2.heap[W5.heap.size + 1]? = some (.loop rb) := by rw [hA2]; exact World.putObj_heap_same (by omega)
    have d0 := (((k0.old b1).old bA).old bA1).onl o2 (by omega)
    have d1 := (((k1.old b1).old bA).old bA1).onl o2 (by omega)
    have BA2 : Below W.heap.size W A2 := Below.onl (b5.trans ((b1.trans (bA.mono (by omega))).mono b5.size |>.trans (bA1.mono (by omega)))) o2 (fun i q => by omega) (Nat.le_refl _)
    obtain ⟨A4, hA4⟩ : ∃ A4, A4 = (A2.setCell ⟨W.heap.size, 0, none⟩ (.slice none 0 0)).setCell ⟨W.heap.size + 1, 0, none⟩ (.int .i64 3) := ⟨_, rfl⟩
    have o4 : Onl (fun i => i = W.heap.size ∨ i = W.heap.size + 1) A2 A4 := by rw [hA4]; exact ((Onl.refl (fun i => i = W.heap.size ∨ i = W.heap.size + 1) A2).set (p := W.heap.size) (.inl (.inl rfl)) _).set (p := W.heap.size + 1) (.inl (.inr rfl)) _
    have g0 : Ob A4 W.heap.size 22 [.slice none 0 0] := by rw [hA4]; exact (d0.set 0 _).set_other (by omega) _
    have g1 : Ob A4 (W.heap.size + 1) 32 [.int .i64 3] := by rw [hA4]; exact (d1.set_other (by omega) _).set 0 _
    have hlb4 : A4.heap[W5.heap.size + 1]? = some (.loop rb) := (o4.block _ (Array.getElem?_eq_some_iff.1 hlb2).1 (by omega)).trans hlb2
    have o5 : Onl (fun i => i = W5.heap.size + 1) A4 (A4.putObj (W5.heap.size + 1) (.loop rd)) := put_onl _
    have hd4 : A4.heap[W5.heap.size]? = some (.deferred (some [])) := by
      have h1 : A2.heap[W5.heap.size]? = some (.deferred (some [])) := (o2.block _ (Array.getElem?_eq_some_iff.1 lpA1.2).1 (by omega)).trans lpA1.2
      exact (o4.block _ (Array.getElem?_eq_some_iff.1 h1).1 (by omega)).trans h1
    have HFIN : Hid (LpAt W5.heap.size rd (A4.putObj (W5.heap.size + 1) (.loop rd)) ∧ LnR W (A4.putObj (W5.heap.size + 1) (.loop rd))) := by
      refine hide ⟨⟨World.putObj_heap_same (Array.getElem?_eq_some_iff.1 hlb4).1, (o5.block _ (Array.getElem?_eq_some_iff.1 hd4).1 (by omega)).trans hd4⟩, ?_, g0.onl o5 (by omega), g1.onl o5 (by omega)⟩
      exact Below.onl (Below.onl BA2 o4 (fun i q => by omega) (Nat.le_refl _)) o5 (fun i q => by omega) (Nat.le_refl _)
    have c0 := d0.cell 0
    have c1 := d1.cell 0
    have f0 := d0.frozen 0
    have f1 := d1.frozen 0
    have e1 := (d1.set_other (i := 0) (show W.heap.size + 1 ≠ W.heap.size by omega) (.slice none 0 0)).cell 0
    have e2 := (d1.set_other (i := 0) (show W.heap.size + 1 ≠ W.heap.size by omega) (.slice none 0 0)).frozen 0
    simp only [List.getElem?_cons_zero] at c0 c1 e1
    have HLP1 := hide lpA1
    have HLB4 := hide hlb4
    rw [hA4] at HFIN HLB4
    clear hr hrd ha hb hpa htm hrb lp lpA1 bA1 o2 hlb2 d0 d1 BA2 o4 g0 g1 hlb4 o5 hd4 hA4 s5 q3 q4
    gi_wp2
    rw [← hA1, ← hA2]
    refine ⟨HLP1.out, ?_⟩
    clear hA1 hA2
    gi_wp2
    exact ⟨HLB4.out, HFIN.out⟩
  case done =>
    rintro W2 o ⟨d1, d2, d3⟩ dd dl
    obtain ⟨W3, hW3⟩ : ∃ W3, W3 = W2.putObj (W5.heap.size + 1) o := ⟨_, rfl⟩
    have o3 : Onl (fun i => i = W5.heap.size + 1) W2 W3 := by rw [hW3]; exact put_onl _
    have ed : W3.heap[W5.heap.size]? = some (.deferred (some [])) := (o3.block _ (by omega) (by omega)).trans dd
    have e0 := d2.onl o3 (by omega)
    have e1 := d3.onl o3 (by omega)
    have o5 : Onl (fun i => i = W5.heap.size) W3 (W3.putObj W5.heap.size (.deferred none)) := put_onl _
    have HG := hide (And.intro (e0.onl o5 (by omega)) (e1.onl o5 (by omega)))
    have HF := hide (Below.onl (Below.onl d1 o3 (fun i q => by omega) (Nat.le_refl _)) o5 (fun i q => by omega) (Nat.le_refl _))
    have HD := hide ed
    rw [← hW3]
    clear hW3 d1 d2 d3 dd dl o3 ed e0 e1 o5 k0 k1 k2 k3 k4 b5
    obtain ⟨D, hD⟩ : ∃ D, D = W5.heap.size := ⟨_, rfl⟩
    rw [← hD] at HF HG HD ⊢
    clear hD s5
    gi_wp2
    refine ⟨by simp, .inl ⟨_, _, rfl, run_takeDeferred HD.out, ?_⟩⟩
    exact ⟨_, fin_list HG.out.1 HG.out.2 rfl rfl, rfl, HF.out⟩
end Go.Proofs.YtlghehidhgiilaaGreat
