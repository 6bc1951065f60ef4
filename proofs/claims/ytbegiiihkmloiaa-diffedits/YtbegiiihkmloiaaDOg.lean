/- diff.Of, over the translation: its loop. -/
import Derived.Test.YtbegiiihkmloiaaDOf
namespace Go.Proofs.Ytbegiiihkmloiaa
open Go.RowKit Apo
attribute [local go_sem ↓] app_exec
open Classical in
set_option maxRecDepth 100000 in
theorem neqSd (b b' : Bool) (v v' : ByteArray) (w : World) : (binOp .neq 49 (.agg #[.bool b, .string v]) (.agg #[.bool b', .string v'])).run Try.prog w = .ok (.bool (!decide ((b, v) = (b', v')))) w := by
  have u9 := Try.underlying9
  have u4 := Try.underlying4
  have hS : Try.prog.underlying 49 = some (.struct (Try.prog.fieldsOf 49)) := by kernel_rfl
  have hp : Try.prog.stoodInHeld 49 = false := by kernel_rfl
  rw [run_neq_struct, show (10000 : Nat) = 9999 + 1 from rfl, run_equalIn_agg w 9999 49 _ _ hS hp]
  simp only [Program.fieldsOf, Try.underlying49]
  go_simp
  by_cases h1 : b = b'
  · by_cases h2 : v = v'
    · simp [h1, h2]
    · have h2' : ¬ v.toList = v'.toList := fun e => h2 (bytes_of_list e)
      simp [h1, h2, h2']
  · simp [h1]
def lenC (w : World) (p : Nat) : Nat := match w.cell? ⟨p, 0, none⟩ with
  | some (.slice _ n _) => n
  | _ => 0
theorem Cur.len {B : Nat} {w : World} {p : Nat} {es : List En} (h : Cur B w p es) : lenC w p = es.length := by
  obtain ⟨_, a, c, k, _⟩ := h
  have := k.cell 0
  simp only [List.getElem?_cons_zero] at this
  unfold lenC
  rw [this]
theorem least_none {es fs : List En} (h : (leastK es fs).2 = false) : es = [] ∧ fs = [] := by
  cases es with
  | nil => cases fs with
    | nil => exact ⟨rfl, rfl⟩
    | cons f fs => cases h
  | cons e es => cases fs with
    | nil => cases h
    | cons f fs => simp only [leastK] at h; split at h <;> cases h
theorem take_len (es : List En) (key : ByteArray) : (takeK es key).2.length ≤ es.length := by
  cases es with
  | nil => exact Nat.le_refl _
  | cons e es =>
    simp only [takeK]
    split
    · simp
    · exact Nat.le_refl _
/-- a round takes one at least -/
theorem take_less {es fs : List En} {key : ByteArray} (h : leastK es fs = (key, true)) : (takeK es key).2.length + (takeK fs key).2.length < es.length + fs.length := by
  have l1 := take_len es key
  have l2 := take_len fs key
  have cut : ∀ (e : En) (l : List En), e.k = key → (takeK (e :: l) key).2.length < (e :: l).length := fun e l he => by
    have : takeK (e :: l) key = ((true, e.v), l) := if_pos he
    rw [this]
    simp
  cases es with
  | nil => cases fs with
    | nil => cases h
    | cons f fs =>
      have : f.k = key := by cases h; rfl
      have := cut f fs this
      omega
  | cons e es => cases fs with
    | nil =>
      have : e.k = key := by cases h; rfl
      have := cut e es this
      omega
    | cons f fs =>
      simp only [leastK] at h
      split at h
      · have : f.k = key := by cases h; rfl
        have := cut f fs this
        omega
      · have : e.k = key := by cases h; rfl
        have := cut e es this
        omega
/-- changes in an own row -/
def ChP (R : List Ch → Prop) (w : World) (e : Ending) (w' : World) : Prop := ∃ (cs : List Ch) (va : Option Addr) (vc : Nat), e = .returned (.slice va cs.length vc) ∧ R cs ∧ Row (fun g => w.heap.size ≤ g) w' 35 5 (.slice va cs.length vc) cs.length (gcells cCh cs) ∧ Below w.heap.size w w'
def OfJ (w : World) (es fs es' fs' : List En) (cs : List Ch) (va : Option Addr) (vc : Nat) (wr : World) : Prop :=
  Row (fun g => w.heap.size + 2 ≤ g) wr 35 5 (.slice va cs.length vc) cs.length (gcells cCh cs) ∧ Cur w.heap.size wr w.heap.size es' ∧ Cur w.heap.size wr (w.heap.size + 1) fs' ∧ Below w.heap.size w wr ∧ (∀ ds, OfR es' fs' ds → OfR es fs (cs ++ ds)) ∧ cs.length + es'.length + fs'.length ≤ es.length + fs.length
set_option maxRecDepth 100000 in
set_option maxHeartbeats 8000000 in
theorem dof_any (w : World) (a b : Option Addr) (ca cb : Nat) (es fs : List En) (ha : RdEn w a es) (hb : RdEn w b fs) (hla : es.length ≤ 1000) (hlb : fs.length ≤ 1000) (hca : es.length ≤ ca) (hcb : fs.length ≤ cb) (hma : ca ≤ maxLen) (hmb : cb ≤ maxLen) :
    Calls Try.prog 9 #[.slice a es.length ca, .slice b fs.length cb] w (ChP (OfR es fs) w) := by
  obtain ⟨n, hn⟩ : ∃ n, n = es.length := ⟨_, rfl⟩
  obtain ⟨m, hm⟩ : ∃ m, m = fs.length := ⟨_, rfl⟩
  obtain ⟨W0, hW0⟩ : ∃ W0, W0 = (w.alloc (.cells #[.slice a n ca] 43)).alloc (.cells #[.slice b m cb] 43) := ⟨_, rfl⟩
  have b1 : Below w.heap.size w (w.alloc (.cells #[.slice a n ca] 43)) := (Below.refl _ w).alloc (Nat.le_refl _) _
  have b0 : Below w.heap.size w W0 := by rw [hW0]; exact b1.alloc b1.size _
  have s0 : W0.heap.size = w.heap.size + 2 := by rw [hW0]; simp
  have k0 : Ob W0 w.heap.size 43 [.slice a n ca] := by rw [hW0]; exact (Ob.new w [.slice a n ca] 43).alloc _
  have k1 : Ob W0 (w.heap.size + 1) 43 [.slice b m cb] := by
    rw [hW0]
    have := Ob.new (w.alloc (.cells #[.slice a n ca] 43)) [.slice b m cb] 43
    rw [World.size_alloc] at this
    exact this
  have lo : ∀ {x : Option Addr} {l : List En}, RdEn w x l → ∀ y, x = some y → l ≠ [] → y.block < w.heap.size := fun {x l} r y hy hl => by
    cases l with
    | nil => exact absurd rfl hl
    | cons e l =>
      obtain ⟨g, o, e1, e2, _⟩ := r 0 e rfl
      rw [hy] at e1
      cases e1
      exact World.block_lt_of_cell? _ _ e2
  have hJ0 : OfJ w es fs es fs [] none 0 W0 := ⟨Row.nil _ _ _ _, ⟨Nat.le_refl _, a, ca, by rw [← hn]; exact k0, ha.below b0, hca, hma, lo ha⟩, ⟨by omega, b, cb, by rw [← hm]; exact k1, hb.below b0, hcb, hmb, lo hb⟩, b0, fun ds h => h, by simp⟩
  have HJ0 := hide hJ0
  have HL := hide (And.intro hla hlb)
  rw [← hn, ← hm]
  clear ha hb hn hm k0 k1 b0 b1 s0 lo hJ0 hla hlb hca hcb hma hmb
  go_enter Try.func9, Try.ntmps9
  go_wp2
  rw [← hW0]
  clear hW0
  go_loopw [9] (fun v wr => ∃ (es' fs' : List En) (cs : List Ch) (va : Option Addr) (vc nk : Nat), v = .slice va nk vc ∧ Hid (nk = cs.length) ∧ Hid (OfJ w es fs es' fs' cs va vc wr)) (fun _ wr => lenC wr w.heap.size + lenC wr (w.heap.size + 1))
  case atStart => exact ⟨es, fs, [], none, 0, 0, rfl, hide rfl, HJ0⟩
  case round =>
    obtain ⟨es', fs', cs, va, vc, nk, rfl, HNK, HJ⟩ := hrel
    obtain ⟨hrow, hp, hq, hbel, hof, hcnt⟩ := HJ.out
    have CL := dleast_any hp hq
    have HM := hide (show lenC wr w.heap.size + lenC wr (w.heap.size + 1) = es'.length + fs'.length by rw [hp.len, hq.len])
    obtain ⟨⟨key, is⟩, hki⟩ : ∃ ki, ki = leastK es' fs' := ⟨_, rfl⟩
    rw [← hki] at CL
    have HCL := hide CL
    cases is with
    | false =>
      obtain ⟨rfl, rfl⟩ := least_none (es := es') (fs := fs') (by rw [← hki])
      have HF : Hid (ChP (OfR es fs) w (.returned (.slice va nk vc)) wr) := by
        refine hide ⟨cs, va, vc, by rw [HNK.out], ?_, hrow.mono (fun i hi => by omega), hbel⟩
        have := hof [] OfR.done
        rwa [List.append_nil] at this
      clear hrow hp hq hbel hof hcnt CL HM hki HJ
      go_wp2_with fail
      refine HCL.out.mono ?_
      rintro e' w2 ⟨rfl, rfl⟩
      go_wp2
      go_ret
      exact HF.out
    | true =>
      have CT := dtake_any hp key (by have := HL.out; omega)
      unfold TkP at CT
      have HLS := hide (take_less hki.symm)
      obtain ⟨⟨⟨b1, v1⟩, es2⟩, ht1⟩ : ∃ x, x = takeK es' key := ⟨_, rfl⟩
      obtain ⟨⟨⟨b2, v2⟩, fs2⟩, ht2⟩ : ∃ x, x = takeK fs' key := ⟨_, rfl⟩
      have HST : Hid (∀ ds, OfR es2 fs2 ds → OfR es' fs' (chOf key (b1, v1) (b2, v2) ++ ds)) := hide (fun ds h => by
        have := OfR.step (cs := ds) hki.symm (by rw [← ht1, ← ht2]; exact h)
        rw [← ht1, ← ht2] at this
        exact this)
      rw [← ht1] at CT
      rw [← ht1, ← ht2] at HLS
      have HCT := hide CT
      have CU : ∀ W, Cur w.heap.size W (w.heap.size + 1) fs' → Calls Try.prog 19 #[.pointer (some ⟨w.heap.size + 1, 0, none⟩), .string key] W (TkP w.heap.size W (w.heap.size + 1) fs' key) := fun W h => dtake_any h key (by have := HL.out; omega)
      unfold TkP at CU
      rw [← ht2] at CU
      have HCU := hide CU
      have HJ' := hide (And.intro hrow (And.intro hq (And.intro hbel (And.intro hof hcnt))))
      simp only at HCL HCT HCU HLS
      clear hrow hp hq hbel hof hcnt CL CT CU hki ht1 ht2 HJ
      go_wp2_with fail
      refine HCL.out.mono ?_
      rintro e' w2 ⟨rfl, rfl⟩
      go_wp2_with fail
      refine HCT.out.mono ?_
      rintro e' w3 ⟨rfl, c3, o3⟩
      have q3 := HJ'.out.2.1.onl o3 (by omega) (fun i hi => by omega)
      have HCU3 := hide (HCU.out w3 q3)
      have H3 := hide (And.intro c3 o3)
      clear c3 o3 q3 HCU
      go_wp2_with fail
      refine HCU3.out.mono ?_
      rintro e' w4 ⟨rfl, c4, o4⟩
      obtain ⟨c3, o3⟩ := H3.out
      obtain ⟨hrow, hq, hbel, hof, hcnt⟩ := HJ'.out
      have hB := hbel.size
      have c3' := c3.onl o4 (by omega) (fun i hi => by omega)
      have hb4 : Below w.heap.size w w4 := Below.onl (Below.onl hbel o3 (fun i hi => by omega) (Nat.le_refl _)) o4 (fun i hi => by omega) (Nat.le_refl _)
      have row4 := (hrow.onl o3 (fun g hg q => by have := hrow.2 g hg; omega)).onl o4 (fun g hg q => by have := hrow.2 g hg; omega)
      obtain ⟨w5, hw5⟩ : ∃ w5, w5 = (w4.alloc (.cells #[.bool b1, .string v1] 49)).alloc (.cells #[.bool b2, .string v2] 49) := ⟨_, rfl⟩
      have bb5 : Below w4.heap.size w4 w5 := by rw [hw5]; exact ((Below.refl _ w4).alloc (Nat.le_refl _) _).alloc (by simp) _
      have s5 : w5.heap.size = w4.heap.size + 2 := by rw [hw5]; simp
      have k5 : Ob w5 w4.heap.size 49 [.bool b1, .string v1] := by rw [hw5]; exact (Ob.new w4 [.bool b1, .string v1] 49).alloc _
      have k6 : Ob w5 (w4.heap.size + 1) 49 [.bool b2, .string v2] := by
        rw [hw5]
        have := Ob.new (w4.alloc (.cells #[.bool b1, .string v1] 49)) [.bool b2, .string v2] 49
        rw [World.size_alloc] at this
        exact this
      have o5 : Onl (fun _ => False) w4 w5 := Onl.ofBelow bb5
      have hJ5 : OfJ w es fs es2 fs2 cs va vc w5 → True := fun _ => trivial
      have c5 := c3'.onl o5 (fun q => q) (fun _ q => q.elim)
      have d5 := c4.onl o5 (fun q => q) (fun _ q => q.elim)
      have row5 := row4.onl o5 (fun _ _ q => q)
      have hb5 := Below.onl hb4 o5 (fun _ q => q.elim) (Nat.le_refl _)
      have y0 := k5.cell 0
      have y1 := k5.cell 1
      have x0 := k6.cell 0
      have x1 := k6.cell 1
      simp only [List.getElem?_cons_zero, List.getElem?_cons_succ] at y0 y1 x0 x1
      have hcmp := neqSd b1 b2 v1 v2
      have hgd : Try.prog.eqGuardType Try.prog.depth 49 = false := by kernel_rfl
      have HW5 := hide hw5
      by_cases heq : (b1, v1) = (b2, v2)
      · rw [decide_eq_true heq] at hcmp
        simp only [Bool.not_true] at hcmp
        have HF : Hid (OfJ w es fs es2 fs2 cs va vc w5) := hide ⟨row5, c5, d5, hb5, fun ds h => by
            have := hof _ (HST.out ds h)
            rwa [chOf, if_pos heq, List.nil_append] at this, by have := HLS.out; omega⟩
        have HM5 := hide (show lenC w5 w.heap.size + lenC w5 (w.heap.size + 1) < es'.length + fs'.length by rw [c5.len, d5.len]; exact HLS.out)
        rw [HW5.out] at y0 y1 x0 x1 HF HM5
        clear HW5 hw5 hJ5 k5 k6 bb5 s5 o5 c5 d5 row5 hb5 c3 o3 hrow hq hbel hof hcnt c3' hb4 row4 c4 o4 heq
        go_wp2
        go_roundw
        case rel => exact ⟨es2, fs2, cs, va, vc, nk, rfl, HNK, HF⟩
        case measure => rw [HM.out]; exact HM5.out
      · rw [decide_eq_false heq] at hcmp
        simp only [Bool.not_false] at hcmp
        obtain ⟨x, hx⟩ : ∃ x : Ch, x = ⟨key, b1, v1, b2, v2⟩ := ⟨_, rfl⟩
        obtain ⟨w6, hw6⟩ : ∃ w6, w6 = w5.alloc (.cells (cCh x).toArray 35) := ⟨_, rfl⟩
        have bb6 : Below w5.heap.size w5 w6 := by rw [hw6]; exact (Below.refl _ w5).alloc (Nat.le_refl _) _
        have row6 := row5.onl (F := fun _ => False) (Onl.ofBelow bb6) (fun _ _ q => q)
        have rd6 : RdG cCh 5 w6 (some ⟨w5.heap.size, 0, none⟩) [x] := by rw [hw6]; exact rd_lit _ _ x
        obtain ⟨v8, w8, RR, r8, o8, ow8⟩ := app_ch (cp := 1) row6 (by have := HL.out; simp; omega) rd6
        obtain ⟨va8, vc8, hva8, _⟩ := r8.form
        obtain ⟨n8, hn8⟩ : ∃ n8, n8 = (cs ++ [x]).length := ⟨_, rfl⟩
        rw [hva8] at r8 RR
        rw [show [x].length = 1 from rfl, ← hn8, ← HNK.out] at RR
        have hs6 : w6.heap.size = w4.heap.size + 3 := by rw [hw6, World.size_alloc]; omega
        have hs4 := hb4.size
        have hv8 : ∀ i, (Value.slice va cs.length vc).ownBlock = some i → w.heap.size + 2 ≤ i := fun i hi => hrow.2 i hi
        have hs3 := o3.size
        have hs4' := o4.size
        have hp1 : w.heap.size + 1 < w4.heap.size := by obtain ⟨_, _, _, kk, _⟩ := c4; exact kk.lt
        have c8 := (c5.onl (O := fun _ => False) (Onl.ofBelow bb6) (fun q => q) (fun _ q => q.elim)).onl o8 (fun q => by have := hv8 _ q; omega) (fun i q => by have := hv8 _ q; omega)
        have d8 := (d5.onl (O := fun _ => False) (Onl.ofBelow bb6) (fun q => q) (fun _ q => q.elim)).onl o8 (fun q => by have := hv8 _ q; omega) (fun i q => by have := hv8 _ q; omega)
        have hb8 : Below w.heap.size w w8 := Below.onl (hb5.trans (bb6.mono hb5.size)) o8 (fun i q => by have := hv8 _ q; omega) (Nat.le_refl _)
        have HF : Hid (OfJ w es fs es2 fs2 (cs ++ [x]) va8 vc8 w8) := hide ⟨⟨r8.1, fun g hg => (r8.2 g hg).elim (fun z => z) (fun z => by omega)⟩, c8, d8, hb8, fun ds h => by
            have := hof _ (HST.out ds h)
            rwa [chOf, if_neg heq, ← List.append_assoc, ← hx] at this, by have := HLS.out; simp; omega⟩
        have HM8 := hide (show lenC w8 w.heap.size + lenC w8 (w.heap.size + 1) < es'.length + fs'.length by rw [c8.len, d8.len]; exact HLS.out)
        have HN8 := hide hn8
        rw [hw6, hx] at RR
        simp only [cCh] at RR
        rw [hw5] at RR y0 y1 x0 x1
        simp only [World.size_alloc] at RR
        obtain ⟨z1, z2, z3⟩ := app_runs RR
        clear HW5 hw5 hJ5 k5 k6 bb5 s5 o5 c5 d5 row5 hb5 c3 o3 hrow hq hbel hof hcnt c3' hb4 row4 c4 o4 heq hw6 bb6 row6 rd6 r8 o8 ow8 hva8 hn8 hs6 hs4 hv8 hs3 hs4' hp1 c8 d8 hb8 RR HST
        go_wp2
        go_roundw
        case rel => exact ⟨es2, fs2, cs ++ [x], va8, vc8, n8, rfl, HN8, HF⟩
        case measure => rw [HM.out]; exact HM8.out
end Go.Proofs.Ytbegiiihkmloiaa
