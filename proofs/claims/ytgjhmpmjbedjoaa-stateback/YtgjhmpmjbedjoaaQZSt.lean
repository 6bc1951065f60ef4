/- state's reader: the whole state. Over the translation. -/
import Derived.Deep.RegionHeld3
import Derived.Test.YtgjhmpmjbedjoaaQZLi
namespace Go.Proofs.Ytgjhmpmjbedjoaa
open Go.RowKit Apo
def Lt6 (st : St) : Prop := ∀ l, st = some l → l.length ≤ 1000000
theorem lt6_none : Lt6 none := fun l h => by cases h
theorem lt6_num {st : St} (h : Lt6 st) (m : Int) : Lt6 (rnum st m).2 := by
  cases st with
  | none => exact lt6_none
  | some l =>
    have hl := h l rfl
    unfold rnum
    rcases num1_cases l with ⟨n, r, _, e, q⟩ | ⟨_, q⟩
    · simp only [q]
      split
      · intro z hz
        injection hz with hz
        rw [← hz]
        have := congrArg List.length e
        rw [List.length_append] at this
        omega
      · exact lt6_none
    · simp only [q]
      exact lt6_none
theorem lt6_text {st : St} (h : Lt6 st) (m : Int) : Lt6 (rtext st m).2 := by
  have h2 := lt6_num h m
  unfold rtext
  split
  · exact lt6_none
  · split
    · rename_i n r q
      rw [q] at h2
      have := h2 r rfl
      split
      · intro z hz
        injection hz with hz
        rw [← hz, List.length_drop]
        omega
      · exact lt6_none
    · exact lt6_none
theorem lt6_flag {st : St} (h : Lt6 st) : Lt6 (rflag st).2 := lt6_num h 1
theorem lt6_rf {st : St} (h : Lt6 st) : Lt6 (rfS st).2 := lt6_num (lt6_flag (lt6_text h 20)) _
theorem lt6_md {st : St} (h : Lt6 st) : Lt6 (mdS st).2 := lt6_num (lt6_num h _) _
theorem lt6_each {α : Type} {f : St → α × St} (hf : ∀ st, Lt6 st → Lt6 (f st).2) {st : St} (h : Lt6 st) : ∀ k, Lt6 (eachK f st k).2
  | 0 => h
  | k + 1 => hf _ (lt6_each hf h k)
/-- more than there is can't be read -/
theorem text_big {st : St} (h : Lt6 st) : rtext st 9223372036854775807 = rtext st 1048576 := by
  cases st with
  | none => rfl
  | some l =>
    have hl := h l rfl
    unfold rtext rnum
    rw [if_neg (by omega), if_neg (by omega)]
    rcases num1_cases l with ⟨n, r, _, e, q⟩ | ⟨_, q⟩
    · have hr := congrArg List.length e
      rw [List.length_append] at hr
      simp only [q]
      by_cases h1 : (n : Int) ≤ 1048576
      · rw [if_pos (show (n : Int) ≤ 9223372036854775807 by omega), if_pos h1]
      · rw [if_neg h1]
        by_cases h2 : (n : Int) ≤ 9223372036854775807
        · rw [if_pos h2]
          simp only
          rw [if_neg (by omega)]
        · rw [if_neg h2]
    · simp only [q]
/-- what is read of bytes, ahead of the last questions -/
noncomputable def rawV (b : List Int) : Sv × Int × St :=
  let a1 := rtext (some b) 20
  let a2 := rnum a1.2 fullS
  let a3 := rnum a2.2 fullS
  let a4 := rnum a3.2 fullS
  let a5 := rnum a4.2 40
  let a6 := eachK rfS a5.2 a5.1.toNat
  let a7 := rnum a6.2 200
  let a8 := eachK mdS a7.2 a7.1.toNat
  let a9 := rtext a8.2 1048576
  let cl := ofC (nums (strOfNums a9.1))
  (⟨strOfNums a1.1, a2.1, a3.1, a4.1, a6.1, a8.1, cl.1⟩, cl.2, a9.2)
theorem ofS_raw (b : List Int) : ofS b = finS (rawV b).1 (rawV b).2.1 (rawV b).2.2 := rfl
/-- the reader's box is block w.heap.size, the answer's cell the one behind it; the state that comes about is at qs -/
structure StI (w W : World) (p g qs : Nat) (st : St) (x : SvA) : Prop where
  rr : Rr W p 99 g st
  kb : Ob W w.heap.size 79 [.pointer (some ⟨p, 0, none⟩)]
  zo : Ob W (w.heap.size + 1) 27 (cSv zeroA17)
  ob : Ob W qs 27 (cSv x)
  ro : Row (fun i => qs < i) W 57 3 (.slice x.ra x.s.rf.length x.rc) x.s.rf.length (gcells cRf x.s.rf)
  mo : Row (fun i => qs < i) W 60 2 (.slice x.ma x.s.md.length x.mc) x.s.md.length (gcells cMk x.s.md)
  gr : w.grownBy W (some p)
  lt : p < w.heap.size ∧ g < w.heap.size ∧ w.heap.size + 1 < qs ∧ qs < W.heap.size
section
variable {w W W' : World} {p g qs : Nat} {st st' : St} {x : SvA}
theorem StI.old (h : StI w W p g qs st x) (b : Below W.heap.size W W') : StI w W' p g qs st x := by
  obtain ⟨l1, l2, l3, l4⟩ := h.lt
  exact ⟨h.rr.old b, h.kb.old b, h.zo.old b, h.ob.old b, h.ro.onl (F := fun _ => False) (Onl.ofBelow b) (fun _ _ z => z), h.mo.onl (F := fun _ => False) (Onl.ofBelow b) (fun _ _ z => z), grew_trans h.gr (grew_below (some p) b), l1, l2, l3, Nat.lt_of_lt_of_le l4 b.size⟩
theorem StI.read (h : StI w W p g qs st x) (r : Rr W' p 99 g st') (gr : W.grownBy W' (some p)) : StI w W' p g qs st' x := by
  obtain ⟨l1, l2, l3, l4⟩ := h.lt
  have o := grown_onl gr
  exact ⟨r, h.kb.onl o (by omega), h.zo.onl o (by omega), h.ob.onl o (by omega), h.ro.onl o (fun i hi z => by have := h.ro.2 i hi; omega), h.mo.onl o (fun i hi z => by have := h.mo.2 i hi; omega), grew_trans h.gr gr, l1, l2, l3, Nat.lt_of_lt_of_le l4 gr.size⟩
theorem StI.set {y : SvA} (h : StI w W p g qs st x) (j : Nat) (v : Value) (hy : cSv y = (cSv x).set j v)
    (hr : Row (fun i => qs < i) W 57 3 (.slice y.ra y.s.rf.length y.rc) y.s.rf.length (gcells cRf y.s.rf)) (hm : Row (fun i => qs < i) W 60 2 (.slice y.ma y.s.md.length y.mc) y.s.md.length (gcells cMk y.s.md)) :
    StI w (W.setCell ⟨qs, j, none⟩ v) p g qs st y := by
  obtain ⟨l1, l2, l3, l4⟩ := h.lt
  have o : Onl (fun i => i = qs) W (W.setCell ⟨qs, j, none⟩ v) := (Onl.refl (fun i => i = qs) W).set (p := qs) (.inl rfl) _
  have hob : Ob (W.setCell ⟨qs, j, none⟩ v) qs 27 (cSv y) := by rw [hy]; exact h.ob.set j v
  exact ⟨h.rr.onl o (by omega) (by omega), h.kb.onl o (by omega), h.zo.onl o (by omega), hob, hr.onl o (fun i hi z => by have := hr.2 i hi; omega), hm.onl o (fun i hi z => by have := hm.2 i hi; omega), grew_onl h.gr o (fun i z => by omega), l1, l2, l3, Nat.lt_of_lt_of_le l4 o.size⟩
theorem StI.number (h : StI w W p g qs st x) :
    Calls Try.prog 59 #[.agg #[.pointer (some ⟨p, 0, none⟩)]] W fun e w' => e = .returned (.int .u64 (rnum st fullS).1) ∧ StI w w' p g qs (rnum st fullS).2 x :=
  (number_p p g st W h.rr).mono (by rintro e w' ⟨rfl, r, gr⟩; exact ⟨rfl, h.read r gr⟩)
theorem StI.num (h : StI w W p g qs st x) (most : Int) :
    Calls Try.prog 61 #[.pointer (some ⟨p, 0, none⟩), .int .u64 most] W fun e w' => e = .returned (.int .u64 (rnum st most).1) ∧ StI w w' p g qs (rnum st most).2 x :=
  (rdnum_any p g st most W h.rr).mono (by rintro e w' ⟨rfl, r, gr⟩; exact ⟨rfl, h.read r gr⟩)
theorem StI.text (h : StI w W p g qs st x) (most : Int) (hm : most ≤ 9223372036854775807) :
    Calls Try.prog 58 #[.pointer (some ⟨p, 0, none⟩), .int .i64 most] W fun e w' => e = .returned (.string (strOfNums (rtext st most).1)) ∧ StI w w' p g qs (rtext st most).2 x :=
  (rdtext_any p g st most W h.rr hm).mono (by rintro e w' ⟨rfl, r, gr⟩; exact ⟨rfl, h.read r gr⟩)
theorem StI.nums3 (h : StI w W p g qs st x) :
    Calls Try.prog 59 #[.agg #[.pointer (some ⟨p, 0, none⟩)]] W fun e w3 => e = .returned (.int .u64 (rnum st fullS).1) ∧ w3.cell? ⟨w.heap.size, 0, none⟩ = some (.pointer (some ⟨p, 0, none⟩)) ∧
      Hid (Calls Try.prog 59 #[.agg #[.pointer (some ⟨p, 0, none⟩)]] w3 fun e w4 => e = .returned (.int .u64 (rnum (rnum st fullS).2 fullS).1) ∧ w4.cell? ⟨w.heap.size, 0, none⟩ = some (.pointer (some ⟨p, 0, none⟩)) ∧
      Hid (Calls Try.prog 59 #[.agg #[.pointer (some ⟨p, 0, none⟩)]] w4 fun e w5 => e = .returned (.int .u64 (rnum (rnum (rnum st fullS).2 fullS).2 fullS).1) ∧ w5.cell? ⟨w.heap.size, 0, none⟩ = some (.pointer (some ⟨p, 0, none⟩)) ∧
        Hid (StI w w5 p g qs (rnum (rnum (rnum st fullS).2 fullS).2 fullS).2 x))) := by
  refine h.number.mono ?_
  rintro e w3 ⟨rfl, h3⟩
  refine ⟨rfl, h3.kb.cell 0, hide ?_⟩
  refine h3.number.mono ?_
  rintro e w4 ⟨rfl, h4⟩
  refine ⟨rfl, h4.kb.cell 0, hide ?_⟩
  refine h4.number.mono ?_
  rintro e w5 ⟨rfl, h5⟩
  exact ⟨rfl, h5.kb.cell 0, hide h5⟩
theorem StI.refs2 (h : StI w W p g qs st x) (CT : Nat) (hCT : (CT : Int) = (rnum st 40).1) :
    Calls Try.prog 61 #[.pointer (some ⟨p, 0, none⟩), .int .u64 40] W fun e w3 => e = .returned (.int .u64 CT) ∧ w3.cell? ⟨w.heap.size, 0, none⟩ = some (.pointer (some ⟨p, 0, none⟩)) ∧
      Hid (Calls Try.prog 60 #[.int .u64 CT, .func (.func 62) #[.agg #[.pointer (some ⟨p, 0, none⟩)]] #[]] w3 fun e w4 => ∃ va n vc, e = .returned (.slice va n vc) ∧ w4.cell? ⟨w.heap.size, 0, none⟩ = some (.pointer (some ⟨p, 0, none⟩)) ∧
        Hid (n = (eachK rfS (rnum st 40).2 CT).1.length ∧ Row (fun i => qs < i) w4 57 3 (.slice va n vc) n (gcells cRf (eachK rfS (rnum st 40).2 CT).1) ∧ StI w w4 p g qs (eachK rfS (rnum st 40).2 CT).2 x)) := by
  have hb := rnum_bdS st (most := 40) (by omega)
  refine (h.num 40).mono ?_
  rintro e w3 ⟨rfl, h3⟩
  rw [← hCT]
  refine ⟨rfl, h3.kb.cell 0, hide ?_⟩
  obtain ⟨l1, l2, l3, l4⟩ := h3.lt
  refine (listref_p p g (rnum st 40).2 CT w3 h3.rr (Nat.lt_of_lt_of_le l2 h3.gr.size) (by omega)).mono ?_
  rintro e w4 ⟨v, rfl, r4, q4, g4⟩
  obtain ⟨va, vc, hv, _⟩ := r4.form
  subst hv
  have h4 := h3.read q4 g4
  exact ⟨va, _, vc, rfl, h4.kb.cell 0, hide ⟨rfl, r4.mono (fun i hi => by omega), h4⟩⟩
theorem StI.mades2 (h : StI w W p g qs st x) (CT : Nat) (hCT : (CT : Int) = (rnum st 200).1) :
    Calls Try.prog 61 #[.pointer (some ⟨p, 0, none⟩), .int .u64 200] W fun e w3 => e = .returned (.int .u64 CT) ∧ w3.cell? ⟨w.heap.size, 0, none⟩ = some (.pointer (some ⟨p, 0, none⟩)) ∧
      Hid (Calls Try.prog 63 #[.int .u64 CT, .func (.func 64) #[.agg #[.pointer (some ⟨p, 0, none⟩)]] #[]] w3 fun e w4 => ∃ va n vc, e = .returned (.slice va n vc) ∧ w4.cell? ⟨w.heap.size, 0, none⟩ = some (.pointer (some ⟨p, 0, none⟩)) ∧
        Hid (n = (eachK mdS (rnum st 200).2 CT).1.length ∧ Row (fun i => qs < i) w4 60 2 (.slice va n vc) n (gcells cMk (eachK mdS (rnum st 200).2 CT).1) ∧ StI w w4 p g qs (eachK mdS (rnum st 200).2 CT).2 x)) := by
  have hb := rnum_bdS st (most := 200) (by omega)
  refine (h.num 200).mono ?_
  rintro e w3 ⟨rfl, h3⟩
  rw [← hCT]
  refine ⟨rfl, h3.kb.cell 0, hide ?_⟩
  obtain ⟨l1, l2, l3, l4⟩ := h3.lt
  refine (listmade_p p g (rnum st 200).2 CT w3 h3.rr (Nat.lt_of_lt_of_le l2 h3.gr.size) (by omega)).mono ?_
  rintro e w4 ⟨v, rfl, r4, q4, g4⟩
  obtain ⟨va, vc, hv, _⟩ := r4.form
  subst hv
  have h4 := h3.read q4 g4
  exact ⟨va, _, vc, rfl, h4.kb.cell 0, hide ⟨rfl, r4.mono (fun i hi => by omega), h4⟩⟩
end
set_option maxRecDepth 100000 in
theorem fin_Rs {W : World} {g : Nat} {c0 c1 c2 c3 c4 c5 c6 er : Value} {tmps : Array Value} {Q : Ending → World → Prop} (k : Ob W g 27 [c0, c1, c2, c3, c4, c5, c6]) (h2 : tmps.getD 2 undef = .pointer (some ⟨g, 0, none⟩)) (h3 : tmps.getD 3 undef = er) (hq : Q (.returned (.tuple #[.agg #[c0, c1, c2, c3, c4, c5, c6], er])) W) :
    bodyPost Try.prog Try.f42 Q Exit.ret { tmps := tmps, defers := [] } W := by
  have hl := run_loadVar_row (P := Try.prog) W g 27 27 #[c0, c1, c2, c3, c4, c5, c6] (0, 0) _ k Try.underlying27 rfl (by rw [size_State]; rfl)
  have h2' : tmps[2]?.getD undef = .pointer (some ⟨g, 0, none⟩) := by simpa using h2
  have h3' : tmps[3]?.getD undef = er := by simpa using h3
  refine bodyPost_ret (v := .tuple #[.agg #[c0, c1, c2, c3, c4, c5, c6], er]) ?_ rfl hq
  simp [results, Try.results42, asAddr, h2', h3', hl]
end Go.Proofs.Ytgjhmpmjbedjoaa
