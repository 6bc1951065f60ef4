/- The document's graph, pure: commits by Id, rising. Rows of commits in memory; a commit put amid. The document's Graph in memory: At, Get. Over the translation. The document's Get. Over the translation. -/
import Derived.Test.YtmkafoidfgaokaaQA2
import Derived.Test.YtmkafoidfgaokaaQA3
import Derived.Test.YtmkafoidfgaokaaQA5
namespace Go.Proofs.Ytmkafoidfgaokaa
open Go.RowKit Apo
/-- a commit of a list -/
def getG (l : List Cm) (id : Int) : Option Cm := l.find? (fun c => c.id == id)
/-- its place; -1: nowhere -/
def atG (l : List Cm) (id : Int) : Int := match l.findIdx? (fun c => c.id == id) with | some i => (i : Int) | none => -1
/-- the greatest Gen of parents, from g on; none: one isn't there -/
def genUp (l : List Cm) : List Int → Int → Option Int
  | [], g => some g
  | p :: ps, g => match getG l p with
    | none => none
    | some x => genUp l ps (if g < x.gen then x.gen else g)
/-- where a commit is to stand -/
def insAt (l : List Cm) (id : Int) : Nat := (l.takeWhile (fun c => decide (c.id < id))).length
def addE (l : List Cm) (c : Cm) : Int :=
  if cmE c ≠ 0 then cmE c else if (getG l c.id).isSome then 112 else match genUp l c.ps 0 with
    | none => 120
    | some g => if c.gen = (g + 1) % 18446744073709551616 then 0 else 120
def addL (l : List Cm) (c : Cm) : List Cm := if addE l c = 0 then l.take (insAt l c.id) ++ c :: l.drop (insAt l c.id) else l
theorem insAt_le (l : List Cm) (id : Int) : insAt l id ≤ l.length := by
  unfold insAt
  exact (List.takeWhile_sublist _).length_le
theorem getG_at {l : List Cm} {id : Int} {k : Nat} {c : Cm} (h : l[k]? = some c) (hc : c.id = id) (hb : ∀ j x, j < k → l[j]? = some x → x.id ≠ id) : getG l id = some c ∧ atG l id = (k : Int) := by
  unfold getG atG
  have h1 : l.findIdx? (fun c => c.id == id) = some k := by
    rw [List.findIdx?_eq_some_iff_getElem]
    obtain ⟨hlt, hv⟩ := List.getElem?_eq_some_iff.1 h
    refine ⟨hlt, by simp [hv, hc], fun j hj => ?_⟩
    have := hb j l[j] hj (List.getElem?_eq_getElem _)
    simpa using this
  refine ⟨?_, by rw [h1]⟩
  rw [List.find?_eq_some_iff_getElem]
  obtain ⟨hlt, hv⟩ := List.getElem?_eq_some_iff.1 h
  refine ⟨by simp [hc], k, hlt, hv, fun j hj => ?_⟩
  have := hb j l[j] hj (List.getElem?_eq_getElem _)
  simpa using this
theorem getG_no {l : List Cm} {id : Int} (hb : ∀ x ∈ l, x.id ≠ id) : getG l id = none ∧ atG l id = -1 := by
  unfold getG atG
  have h1 : l.findIdx? (fun c => c.id == id) = none := by
    rw [List.findIdx?_eq_none_iff]
    intro x hx
    simpa using hb x hx
  refine ⟨?_, by rw [h1]⟩
  rw [List.find?_eq_none]
  intro x hx
  simpa using hb x hx
theorem insAt_is {l : List Cm} {id : Int} {k : Nat} (hk : k ≤ l.length) (hb : ∀ j x, j < k → l[j]? = some x → x.id < id) (hn : ∀ x, l[k]? = some x → ¬ x.id < id) : insAt l id = k := by
  have hs : l = l.take k ++ l.drop k := (List.take_append_drop k l).symm
  have h1 : ∀ x ∈ l.take k, decide (x.id < id) = true := by
    intro x hx
    obtain ⟨j, hj, hv⟩ := List.getElem_of_mem hx
    rw [List.getElem_take] at hv
    have hjk : j < k := by simp at hj; omega
    have := hb j x hjk (by rw [← hv]; exact List.getElem?_eq_getElem _)
    simpa using this
  have h2 : (l.drop k).takeWhile (fun c => decide (c.id < id)) = [] := by
    cases hd : l.drop k with
    | nil => rfl
    | cons x r =>
      have hx : l[k]? = some x := by
        have := congrArg (fun z : List Cm => z[0]?) hd
        simpa using this
      have := hn x hx
      rw [List.takeWhile_cons_of_neg (by simpa using this)]
  unfold insAt
  rw [hs, List.takeWhile_append_of_pos h1, h2, List.append_nil, List.length_take]
  omega
end Go.Proofs.Ytmkafoidfgaokaa
namespace Go.Proofs.Ytmkafoidfgaokaa
open Go.RowKit Apo
def cCm (x : CmA) : List Value := [.int .u64 x.c.id, .slice x.a x.c.ps.length x.cap, .int .u64 x.c.gen, .int .u64 x.c.root, .string x.c.tx]
theorem cCm_len (x : CmA) : (cCm x).length = 5 := rfl
theorem cCm_one (x : CmA) : ∀ u ∈ cCm x, u.oneCell' = true := by simp [cCm, Value.oneCell']
theorem rd_cm {w : World} {a : Option Addr} {l : List CmA} (h : RdG cCm 5 w a l) {i : Nat} {x : CmA} (hi : l[i]? = some x) : ∃ g o, a = some ⟨g, o, none⟩ ∧ w.cell? ⟨g, o + i * 5, none⟩ = some (.int .u64 x.c.id) ∧ w.cell? ⟨g, o + i * 5 + 1, none⟩ = some (.slice x.a x.c.ps.length x.cap) ∧ w.cell? ⟨g, o + i * 5 + 2, none⟩ = some (.int .u64 x.c.gen) ∧ w.cell? ⟨g, o + i * 5 + 3, none⟩ = some (.int .u64 x.c.root) ∧ w.cell? ⟨g, o + i * 5 + 4, none⟩ = some (.string x.c.tx) := by
  obtain ⟨g, o, h1, h2⟩ := h i x hi
  exact ⟨g, o, h1, h2 0 _ rfl, h2 1 _ rfl, h2 2 _ rfl, h2 3 _ rfl, h2 4 _ rfl⟩
set_option maxRecDepth 100000 in
theorem info_cm : (Try.prog.info? 32).map (fun i => (i.zero, i.size, i.bytes)) = some (some (.agg #[.int .u64 0, .slice none 0 0, .int .u64 0, .int .u64 0, .string ByteArray.empty]), 5, 64) := by kernel_rfl
theorem app_cm {O : Nat → Prop} {W : World} {v : Value} {l xs : List CmA} {y : Addr} {cp : Nat} (h : Row O W 32 5 v l.length (gcells cCm l)) (hn : l.length + xs.length ≤ 100000000) (hr : RdG cCm 5 W (some y) xs) :
    ∃ v' w', (Builtin.append_ #[22, 22] 22 #[v, .slice (some y) xs.length cp]).run Try.prog W = .ok v' w' ∧ Row (fun g => O g ∨ g = W.heap.size) w' 32 5 v' (l ++ xs).length (gcells cCm (l ++ xs)) ∧ Onl (fun g => v.ownBlock = some g) W w' ∧ ∀ g, v'.ownBlock = some g → v.ownBlock = some g ∨ g = W.heap.size :=
  app_G cCm_len (by decide) cCm_one Try.underlying22 info_cm (by rfl) (by decide) h hn hr
end Go.Proofs.Ytmkafoidfgaokaa
namespace Go.Proofs.Ytmkafoidfgaokaa
open Go.RowKit Apo
/-- the document's Graph at p, over memory that was there ahead (w0) -/
structure Gr (w0 w : World) (p : Nat) (L : List CmA) : Prop where
  b : Below w0.heap.size w0 w
  lo : w0.heap.size ≤ p
  mem : ∃ a cap, Ob w p 58 [.slice a L.length cap] ∧ Row (fun g => w0.heap.size ≤ g ∧ g ≠ p) w 32 5 (.slice a L.length cap) L.length (gcells cCm L)
  cm : ∀ x ∈ L, CmR w0 x.c x.a x.cap
  len : L.length ≤ 1000
theorem Gr.old {w0 w w' : World} {p : Nat} {L : List CmA} (h : Gr w0 w p L) (b : Below w.heap.size w w') : Gr w0 w' p L := by
  obtain ⟨a, cap, h1, h2⟩ := h.mem
  exact { h with b := h.b.trans (b.mono h.b.size), mem := ⟨a, cap, h1.old b, h2.onl (F := fun _ => False) (Onl.ofBelow b) (fun _ _ q => q)⟩ }
theorem Gr.lt {w0 w : World} {p : Nat} {L : List CmA} (h : Gr w0 w p L) : p < w.heap.size := by
  obtain ⟨a, cap, h1, _⟩ := h.mem
  exact h1.lt
set_option maxRecDepth 100000 in
set_option maxHeartbeats 4000000 in
theorem at_any {w0 w : World} {p : Nat} {L : List CmA} (h : Gr w0 w p L) (id : Int) :
    Calls Try.prog 37 #[.pointer (some ⟨p, 0, none⟩), .int .u64 id] w fun e w' => e = .returned (.int .i64 (atG (L.map CmA.c) id)) ∧ Below w.heap.size w w' := by
  obtain ⟨a, cap, k0, row⟩ := h.mem
  obtain ⟨a2, c2, hv, rd, _, _, _, _⟩ := rd_gcells cCm_len row
  injection hv with e1 e2 e3
  subst e1 e3
  have HL := hide h.len
  have x0 := k0.cell 0
  simp only [List.getElem?_cons_zero] at x0
  have HR := hide rd
  obtain ⟨n, hn⟩ : ∃ n, n = L.length := ⟨_, rfl⟩
  rw [← hn] at x0
  have hn1 : n ≤ 1000 := by have := HL.out; omega
  have HN := hide hn
  clear h k0 row rd hn
  go_enter Try.func37, Try.ntmps37
  go_wp2
  clear x0
  go_loopw [12] (fun i wr => ∃ k : Nat, k ≤ n ∧ i = .int .i64 k ∧ Hid (∀ j x, j < k → (L.map CmA.c)[j]? = some x → x.id ≠ id) ∧ Hid (Below w.heap.size w wr)) (fun i _ => n - (intOf i).toNat)
  case atStart => exact ⟨0, Nat.zero_le _, rfl, hide (fun j x hj => by omega), hide (Below.refl _ _)⟩
  case round =>
    obtain ⟨k, hk, rfl, HS, HB⟩ := hrel
    by_cases hkn : k < n
    · obtain ⟨x, hxk⟩ : ∃ x, L[k]? = some x := ⟨L[k]'(by have := HN.out; omega), List.getElem?_eq_getElem _⟩
      obtain ⟨g, o, rfl, q0, q1, q2, q3, q4⟩ := rd_cm (HR.out.below HB.out) hxk
      have hxc : (L.map CmA.c)[k]? = some x.c := by rw [List.getElem?_map, hxk]; rfl
      have HBA := hide (HB.out.alloc HB.out.size (.cells #[.int .u64 x.c.id, .slice x.a x.c.ps.length x.cap, .int .u64 x.c.gen, .int .u64 x.c.root, .string x.c.tx] 32))
      by_cases he : x.c.id = id
      · have HX := hide (getG_at hxc he HS.out).2
        have d : (x.c.id == id) = true := by simpa using he
        clear hxk hxc he
        go_wp2
        go_ret
        exact ⟨by rw [HX.out]; rfl, HBA.out⟩
      · have d : (x.c.id == id) = false := by simpa using he
        have HS2 : Hid (∀ j y, j < k + 1 → (L.map CmA.c)[j]? = some y → y.id ≠ id) := hide (fun j y hj hy => by
          by_cases q : j = k
          · subst q
            rw [hxc] at hy
            injection hy with hy
            rw [← hy]
            exact he
          · exact HS.out j y (by omega) hy)
        clear hxk hxc he
        go_wp2
        go_roundw
        case rel => exact ⟨k + 1, by omega, by simp, HS2, HBA⟩
        case measure => simp [intOf]; omega
    · obtain rfl : k = n := by omega
      have HX : Hid (atG (L.map CmA.c) id = -1) := hide (getG_no (fun x hx => by
        obtain ⟨j, hj, hv⟩ := List.getElem_of_mem hx
        exact HS.out j x (by simp at hj; have := HN.out; omega) (by rw [← hv]; exact List.getElem?_eq_getElem _))).2
      go_wp2
      go_ret
      exact ⟨by rw [HX.out]; rfl, HB.out⟩
end Go.Proofs.Ytmkafoidfgaokaa
namespace Go.Proofs.Ytmkafoidfgaokaa
open Go.RowKit Apo
/-- what Get answers -/
def GtP (L : List CmA) (id : Int) (w : World) (e : Ending) (w' : World) : Prop :=
  ((∃ (i : Nat) (x : CmA), L[i]? = some x ∧ getG (L.map CmA.c) id = some x.c ∧ e = .returned (.tuple #[.agg #[.int .u64 x.c.id, .slice x.a x.c.ps.length x.cap, .int .u64 x.c.gen, .int .u64 x.c.root, .string x.c.tx], .bool true])) ∨
    (getG (L.map CmA.c) id = none ∧ e = .returned (.tuple #[.agg #[.int .u64 0, .slice none 0 0, .int .u64 0, .int .u64 0, .string ⟨#[]⟩], .bool false]))) ∧ Below w.heap.size w w'
theorem at_cases (l : List Cm) (id : Int) : (∃ (i : Nat) (c : Cm), l[i]? = some c ∧ getG l id = some c ∧ atG l id = (i : Int)) ∨ (getG l id = none ∧ atG l id = -1) := by
  cases h : l.findIdx? (fun c => c.id == id) with
  | none =>
    right
    rw [List.findIdx?_eq_none_iff] at h
    exact getG_no (fun x hx => by simpa using h x hx)
  | some k =>
    left
    rw [List.findIdx?_eq_some_iff_getElem] at h
    obtain ⟨hlt, h1, h2⟩ := h
    have := getG_at (id := id) (List.getElem?_eq_getElem hlt) (by simpa using h1) (fun j x hj hx => by
      have := h2 j hj
      obtain ⟨hl, hv⟩ := List.getElem?_eq_some_iff.1 hx
      rw [← hv]
      simpa using this)
    exact ⟨k, l[k], List.getElem?_eq_getElem _, this.1, this.2⟩
set_option maxRecDepth 100000 in
theorem size_CmG : (Try.prog.info? 32).map (·.size) = some 5 := by kernel_rfl
set_option maxRecDepth 100000 in
theorem fin_Get {W : World} {g : Nat} {c0 c1 c2 c3 c4 er : Value} {tmps : Array Value} {Q : Ending → World → Prop} (k : Ob W g 32 [c0, c1, c2, c3, c4]) (h2 : tmps.getD 4 undef = .pointer (some ⟨g, 0, none⟩)) (h3 : tmps.getD 5 undef = er) (hq : Q (.returned (.tuple #[.agg #[c0, c1, c2, c3, c4], er])) W) :
    bodyPost Try.prog Try.f13 Q Exit.ret { tmps := tmps, defers := [] } W := by
  have hl := run_loadVar_row (P := Try.prog) W g 32 32 #[c0, c1, c2, c3, c4] (0, 0) _ k Try.underlying32 rfl (by rw [size_CmG]; rfl)
  have h2' : tmps[4]?.getD undef = .pointer (some ⟨g, 0, none⟩) := by simpa using h2
  have h3' : tmps[5]?.getD undef = er := by simpa using h3
  refine bodyPost_ret (v := .tuple #[.agg #[c0, c1, c2, c3, c4], er]) ?_ rfl hq
  simp [results, Try.results13, asAddr, h2', h3', hl]
set_option maxRecDepth 100000 in
set_option maxHeartbeats 4000000 in
theorem get_any {w0 w : World} {p : Nat} {L : List CmA} (h : Gr w0 w p L) (id : Int) :
    Calls Try.prog 13 #[.pointer (some ⟨p, 0, none⟩), .int .u64 id] w (GtP L id w) := by
  have bA := (Below.refl w.heap.size w).alloc (Nat.le_refl _) (.cells #[.int .u64 0, .slice none 0 0, .int .u64 0, .int .u64 0, .string ⟨#[]⟩] 32)
  have HA := hide (at_any (h.old bA) id)
  have HK := hide (Ob.new w [.int .u64 0, .slice none 0 0, .int .u64 0, .int .u64 0, .string ⟨#[]⟩] 32)
  have HG := hide (h.old bA)
  have HB := hide bA
  clear h bA
  go_enter Try.func13, Try.ntmps13
  go_wp2_with fail
  refine HA.out.mono ?_
  rintro e w1 ⟨rfl, b1⟩
  have HB1 := hide (HB.out.trans (b1.mono HB.out.size))
  have HG1 := hide (HG.out.old b1)
  have k1 := HK.out.old b1
  have y0 := k1.cell 0
  have y1 := k1.cell 1
  have y2 := k1.cell 2
  have y3 := k1.cell 3
  have y4 := k1.cell 4
  have f0 := k1.frozen 0
  have f1 := k1.frozen 1
  have f2 := k1.frozen 2
  have f3 := k1.frozen 3
  have f4 := k1.frozen 4
  simp only [List.getElem?_cons_zero, List.getElem?_cons_succ] at y0 y1 y2 y3 y4
  have HK1 := hide k1
  clear b1 HA HK HG HB k1
  rcases at_cases (L.map CmA.c) id with ⟨i, c, h1, h2, h3⟩ | ⟨h2, h3⟩
  · obtain ⟨x, hx, rfl⟩ : ∃ x, L[i]? = some x ∧ x.c = c := by
      rw [List.getElem?_map] at h1
      cases hq : L[i]? with
      | none => rw [hq] at h1; cases h1
      | some x => rw [hq] at h1; exact ⟨x, rfl, by injection h1⟩
    obtain ⟨a, cap, k0, row⟩ := HG1.out.mem
    obtain ⟨a2, c2, hv, rd, _, _, _, _⟩ := rd_gcells cCm_len row
    injection hv with e1 e2 e3
    subst e1 e3
    obtain ⟨g, o, rfl, q0, q1, q2, q3, q4⟩ := rd_cm rd hx
    have x0 := k0.cell 0
    simp only [List.getElem?_cons_zero] at x0
    have hil : i < L.length := (List.getElem?_eq_some_iff.1 hx).1
    have hlen := HG1.out.len
    have hlo := HG1.out.lo
    have HX : Hid (L[i]? = some x ∧ getG (L.map CmA.c) id = some x.c) := hide ⟨hx, h2⟩
    rw [h3]
    generalize L.length = n at *
    clear h1 h2 h3 row rd k0 hx
    go_wp2
    obtain ⟨WF, hWF⟩ : ∃ WF, WF = (((((w1.setCell ⟨w.heap.size, 0, none⟩ (.int .u64 x.c.id)).setCell ⟨w.heap.size, 1, none⟩ (.slice x.a x.c.ps.length x.cap)).setCell ⟨w.heap.size, 2, none⟩ (.int .u64 x.c.gen)).setCell ⟨w.heap.size, 3, none⟩ (.int .u64 x.c.root)).setCell ⟨w.heap.size, 4, none⟩ (.string x.c.tx)) := ⟨_, rfl⟩
    have kF : Ob WF w.heap.size 32 [.int .u64 x.c.id, .slice x.a x.c.ps.length x.cap, .int .u64 x.c.gen, .int .u64 x.c.root, .string x.c.tx] := by rw [hWF]; exact ((((HK1.out.set 0 (.int .u64 x.c.id)).set 1 (.slice x.a x.c.ps.length x.cap)).set 2 (.int .u64 x.c.gen)).set 3 (.int .u64 x.c.root)).set 4 (.string x.c.tx)
    have oF : Onl (fun i => i = w.heap.size) w1 WF := by rw [hWF]; exact (((((Onl.refl (fun i => i = w.heap.size) w1).set (p := w.heap.size) (.inl rfl) _).set (p := w.heap.size) (.inl rfl) _).set (p := w.heap.size) (.inl rfl) _).set (p := w.heap.size) (.inl rfl) _).set (p := w.heap.size) (.inl rfl) _
    rw [← hWF]
    refine fin_Get kF rfl rfl ?_
    exact ⟨.inl ⟨i, x, HX.out.1, HX.out.2, rfl⟩, Below.onl HB1.out oF (fun i q => by omega) (Nat.le_refl _)⟩
  · rw [h3]
    have HX := hide h2
    clear h2 h3
    go_wp2
    obtain ⟨WF, hWF⟩ : ∃ WF, WF = (((((w1.setCell ⟨w.heap.size, 0, none⟩ (.int .u64 0)).setCell ⟨w.heap.size, 1, none⟩ (.slice none 0 0)).setCell ⟨w.heap.size, 2, none⟩ (.int .u64 0)).setCell ⟨w.heap.size, 3, none⟩ (.int .u64 0)).setCell ⟨w.heap.size, 4, none⟩ (.string ⟨#[]⟩)) := ⟨_, rfl⟩
    have kF : Ob WF w.heap.size 32 [.int .u64 0, .slice none 0 0, .int .u64 0, .int .u64 0, .string ⟨#[]⟩] := by rw [hWF]; exact ((((HK1.out.set 0 (.int .u64 0)).set 1 (.slice none 0 0)).set 2 (.int .u64 0)).set 3 (.int .u64 0)).set 4 (.string ⟨#[]⟩)
    have oF : Onl (fun i => i = w.heap.size) w1 WF := by rw [hWF]; exact (((((Onl.refl (fun i => i = w.heap.size) w1).set (p := w.heap.size) (.inl rfl) _).set (p := w.heap.size) (.inl rfl) _).set (p := w.heap.size) (.inl rfl) _).set (p := w.heap.size) (.inl rfl) _).set (p := w.heap.size) (.inl rfl) _
    rw [← hWF]
    refine fin_Get kF rfl rfl ?_
    exact ⟨.inr ⟨HX.out, rfl⟩, Below.onl HB1.out oF (fun i q => by omega) (Nat.le_refl _)⟩
end Go.Proofs.Ytmkafoidfgaokaa
