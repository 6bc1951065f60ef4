/- The document's Table in memory: At, Get. Over the translation. -/
import Derived.Test.YticofadpbpcejaaRIs
import Derived.Test.YticofadpbpcejaaRNm
namespace Go.Proofs.Yticofadpbpcejaa
open Go.RowKit Apo
/-- a row of refs, and what may stand behind them: in a block of O, or nowhere -/
structure RoT (O : Nat → Prop) (w : World) (a : Option Addr) (n cap : Nat) (L : List Rf) : Prop where
  n : n = L.length
  le : L.length ≤ cap
  mx : cap ≤ maxLen
  nil : a = none → cap = 0
  at' : ∀ ad, a = some ad → ∃ g ex, ad = ⟨g, 0, none⟩ ∧ Ob w g 32 (gcells cRf L ++ ex) ∧ O g
theorem RoT.rd {O : Nat → Prop} {w : World} {a : Option Addr} {n cap : Nat} {L : List Rf} (h : RoT O w a n cap L) : RdG cRf 3 w a L := by
  intro i x hi
  cases a with
  | none =>
    have := h.nil rfl
    have h1 := h.le
    have h2 := (List.getElem?_eq_some_iff.1 hi).1
    omega
  | some ad =>
    obtain ⟨g, ex, rfl, ob, _⟩ := h.at' ad rfl
    refine ⟨g, 0, rfl, fun j u hu => ?_⟩
    rw [ob.cell, Nat.zero_add]
    have h1 := gcells_at cRf_len L hi hu
    rw [List.getElem?_append_left (List.getElem?_eq_some_iff.1 h1).1]
    exact h1
theorem RoT.mono {O O' : Nat → Prop} {w : World} {a : Option Addr} {n cap : Nat} {L : List Rf} (h : RoT O w a n cap L) (hO : ∀ g, O g → g < w.heap.size → O' g) : RoT O' w a n cap L :=
  { h with at' := fun ad e => by obtain ⟨g, ex, h1, h2, h3⟩ := h.at' ad e; exact ⟨g, ex, h1, h2, hO g h3 h2.lt⟩ }
theorem RoT.onl {O F : Nat → Prop} {w w' : World} {a : Option Addr} {n cap : Nat} {L : List Rf} (h : RoT O w a n cap L) (o : Onl F w w') (hF : ∀ g, O g → ¬ F g) : RoT O w' a n cap L :=
  { h with at' := fun ad e => by obtain ⟨g, ex, h1, h2, h3⟩ := h.at' ad e; exact ⟨g, ex, h1, h2.onl o (hF g h3), h3⟩ }
theorem RoT.old {O : Nat → Prop} {w w' : World} {a : Option Addr} {n cap : Nat} {L : List Rf} (h : RoT O w a n cap L) (b : Below w.heap.size w w') : RoT O w' a n cap L :=
  h.onl (F := fun _ => False) (Onl.ofBelow b) (fun _ _ q => q)
/-- an own row is one -/
theorem RoT.of {O : Nat → Prop} {w : World} {a : Option Addr} {n cap : Nat} {L : List Rf} (h : Row O w 32 3 (.slice a n cap) L.length (gcells cRf L)) (hn : n = L.length) : RoT O w a n cap L := by
  rcases h.1.2 with ⟨hv, hz⟩ | ⟨g, c, cur, hv, _, hb, hnc, hcm, hs, ht⟩
  · injection hv with e1 e2 e3
    subst e1 e3
    exact ⟨hn, by omega, by unfold maxLen; omega, fun _ => rfl, fun ad e => by cases e⟩
  · injection hv with e1 e2 e3
    subst e1 e3
    have hcur : cur.toList = gcells cRf L ++ cur.toList.drop (L.length * 3) := by rw [← ht, List.take_append_drop]
    refine ⟨hn, hnc, hcm, fun e => (by cases e), fun ad e => ?_⟩
    injection e with e
    subst e
    refine ⟨g, cur.toList.drop (L.length * 3), rfl, ?_, h.2 g rfl⟩
    unfold Ob
    rw [← hcur]
    exact hb
/-- the document's Table at p, its blocks of O -/
structure TbR (O : Nat → Prop) (w : World) (p : Nat) (L : List Rf) : Prop where
  op : O p
  lt : ∀ k, O k → k < w.heap.size
  mem : ∃ a n cap, Ob w p 46 [.slice a n cap] ∧ RoT (fun g => O g ∧ g ≠ p) w a n cap L
  len : L.length ≤ 40
theorem TbR.onl {O F : Nat → Prop} {w w' : World} {p : Nat} {L : List Rf} (h : TbR O w p L) (b : Onl F w w') (hF : ∀ k, O k → ¬ F k) : TbR O w' p L := by
  obtain ⟨a, n, cap, h1, h2⟩ := h.mem
  exact { h with lt := fun k hk => Nat.lt_of_lt_of_le (h.lt k hk) b.size, mem := ⟨a, n, cap, h1.onl b (hF p h.op), h2.onl b (fun g hg => hF g hg.1)⟩ }
theorem TbR.old {O : Nat → Prop} {w w' : World} {p : Nat} {L : List Rf} (h : TbR O w p L) (b : Below w.heap.size w w') : TbR O w' p L :=
  h.onl (F := fun _ => False) (Onl.ofBelow b) (fun _ _ q => q)
set_option maxRecDepth 100000 in
set_option maxHeartbeats 4000000 in
theorem rat_any {O : Nat → Prop} {w : World} {p : Nat} {L : List Rf} (h : TbR O w p L) (n : ByteArray) :
    Calls Try.prog 25 #[.pointer (some ⟨p, 0, none⟩), .string n] w fun e w' => e = .returned (.int .i64 (atR L n)) ∧ Below w.heap.size w w' := by
  obtain ⟨a, m0, cap, k0, row⟩ := h.mem
  have rd := row.rd
  obtain rfl := row.n
  have HL := hide h.len
  have x0 := k0.cell 0
  simp only [List.getElem?_cons_zero] at x0
  have HR := hide rd
  obtain ⟨m, hm⟩ : ∃ m, m = L.length := ⟨_, rfl⟩
  rw [← hm] at x0
  have hm1 : m ≤ 40 := by have := HL.out; omega
  have HN := hide hm
  clear h k0 row rd hm
  go_enter Try.func25, Try.ntmps25
  go_wp2
  clear x0
  go_loopw [12] (fun i wr => ∃ k : Nat, k ≤ m ∧ i = .int .i64 k ∧ Hid (∀ j x, j < k → L[j]? = some x → x.n ≠ n) ∧ Hid (Below w.heap.size w wr)) (fun i _ => m - (intOf i).toNat)
  case atStart => exact ⟨0, Nat.zero_le _, rfl, hide (fun j x hj => by omega), hide (Below.refl _ _)⟩
  case round =>
    obtain ⟨k, hk, rfl, HS, HB⟩ := hrel
    by_cases hkn : k < m
    · obtain ⟨x, hxk⟩ : ∃ x, L[k]? = some x := ⟨L[k]'(by have := HN.out; omega), List.getElem?_eq_getElem _⟩
      obtain ⟨g, o, rfl, q0, q1, q2⟩ := rd_rf (HR.out.below HB.out) hxk
      have HBA := hide (HB.out.alloc HB.out.size (.cells #[.string x.n, .bool x.t, .int .u64 x.i] 32))
      by_cases he : x.n = n
      · have HX := hide (getR_at hxk he HS.out).2
        have d : (x.n.toList == n.toList) = true := by rw [he]; simp
        clear hxk he
        go_wp2
        go_ret
        exact ⟨by rw [HX.out]; rfl, HBA.out⟩
      · have d : (x.n.toList == n.toList) = false := by
          rw [beq_eq_false_iff_ne]
          exact fun e => he (bytes_of_list e)
        have HS2 : Hid (∀ j y, j < k + 1 → L[j]? = some y → y.n ≠ n) := hide (fun j y hj hy => by
          by_cases q : j = k
          · subst q
            rw [hxk] at hy
            injection hy with hy
            rw [← hy]
            exact he
          · exact HS.out j y (by omega) hy)
        clear hxk he
        go_wp2
        go_roundw
        case rel => exact ⟨k + 1, by omega, by simp, HS2, HBA⟩
        case measure => simp [intOf]; omega
    · obtain rfl : k = m := by omega
      have HX : Hid (atR L n = -1) := hide (getR_no (fun x hx => by
        obtain ⟨j, hj, hv⟩ := List.getElem_of_mem hx
        exact HS.out j x (by have := HN.out; omega) (by rw [← hv]; exact List.getElem?_eq_getElem _))).2
      go_wp2
      go_ret
      exact ⟨by rw [HX.out]; rfl, HB.out⟩
/-- what Get answers -/
def RtG (L : List Rf) (n : ByteArray) (w : World) (e : Ending) (w' : World) : Prop :=
  ((∃ x, x ∈ L ∧ getR L n = some x ∧ e = .returned (.tuple #[.agg #[.string x.n, .bool x.t, .int .u64 x.i], .bool true])) ∨
    (getR L n = none ∧ e = .returned (.tuple #[.agg #[.string ⟨#[]⟩, .bool false, .int .u64 0], .bool false]))) ∧ Below w.heap.size w w'
set_option maxRecDepth 100000 in
theorem size_Rf : (Try.prog.info? 32).map (·.size) = some 3 := by kernel_rfl
set_option maxRecDepth 100000 in
theorem fin_GetR {W : World} {g : Nat} {c0 c1 c2 er : Value} {tmps : Array Value} {Q : Ending → World → Prop} (k : Ob W g 32 [c0, c1, c2]) (h2 : tmps.getD 4 undef = .pointer (some ⟨g, 0, none⟩)) (h3 : tmps.getD 5 undef = er) (hq : Q (.returned (.tuple #[.agg #[c0, c1, c2], er])) W) :
    bodyPost Try.prog Try.f21 Q Exit.ret { tmps := tmps, defers := [] } W := by
  have hl := run_loadVar_row (P := Try.prog) W g 32 32 #[c0, c1, c2] (0, 0) _ k Try.underlying32 rfl (by rw [size_Rf]; rfl)
  have h2' : tmps[4]?.getD undef = .pointer (some ⟨g, 0, none⟩) := by simpa using h2
  have h3' : tmps[5]?.getD undef = er := by simpa using h3
  refine bodyPost_ret (v := .tuple #[.agg #[c0, c1, c2], er]) ?_ rfl hq
  simp [results, Try.results21, asAddr, h2', h3', hl]
theorem ob_store3 {W WF : World} {g : Nat} {t : TypeId} {d0 d1 d2 c0 c1 c2 : Value} (k : Ob W g t [d0, d1, d2]) (hW : WF = ((W.setCell ⟨g, 0, none⟩ c0).setCell ⟨g, 1, none⟩ c1).setCell ⟨g, 2, none⟩ c2) :
    Ob WF g t [c0, c1, c2] ∧ Onl (fun i => i = g) W WF := by
  subst hW
  exact ⟨((k.set 0 c0).set 1 c1).set 2 c2, (((Onl.refl (fun i => i = g) W).set (p := g) (.inl rfl) _).set (p := g) (.inl rfl) _).set (p := g) (.inl rfl) _⟩
set_option maxRecDepth 100000 in
set_option maxHeartbeats 4000000 in
theorem rtget_any {O : Nat → Prop} {w : World} {p : Nat} {L : List Rf} (h : TbR O w p L) (n : ByteArray) :
    Calls Try.prog 21 #[.pointer (some ⟨p, 0, none⟩), .string n] w (RtG L n w) := by
  have bA := (Below.refl w.heap.size w).alloc (Nat.le_refl _) (.cells #[.string ⟨#[]⟩, .bool false, .int .u64 0] 32)
  have HA := hide (rat_any (h.old bA) n)
  have HK := hide (Ob.new w [.string ⟨#[]⟩, .bool false, .int .u64 0] 32)
  have HG := hide (h.old bA)
  have HB := hide bA
  have hpl := h.lt p h.op
  clear h bA
  go_enter Try.func21, Try.ntmps21
  go_wp2_with fail
  refine HA.out.mono ?_
  rintro e w1 ⟨rfl, b1⟩
  have HB1 := hide (HB.out.trans (b1.mono HB.out.size))
  have HG1 := hide (HG.out.old b1)
  have k1 := HK.out.old b1
  have y0 := k1.cell 0
  have y1 := k1.cell 1
  have y2 := k1.cell 2
  have f0 := k1.frozen 0
  have f1 := k1.frozen 1
  have f2 := k1.frozen 2
  simp only [List.getElem?_cons_zero, List.getElem?_cons_succ] at y0 y1 y2
  have HK1 := hide k1
  clear b1 HA HK HG HB k1
  rcases at_casesR L n with ⟨i, x, hx, hxn, hxb, h2, h3⟩ | ⟨h2, h3, hxb⟩
  · obtain ⟨a, m0, cap, k0, row⟩ := HG1.out.mem
    have rd := row.rd
    obtain rfl := row.n
    obtain ⟨g, o, rfl, q0, q1, q2⟩ := rd_rf rd hx
    have x0 := k0.cell 0
    simp only [List.getElem?_cons_zero] at x0
    have hil : i < L.length := (List.getElem?_eq_some_iff.1 hx).1
    have hlen := HG1.out.len
    have HX : Hid (x ∈ L ∧ getR L n = some x) := hide ⟨List.mem_of_getElem? hx, h2⟩
    rw [h3]
    generalize L.length = m at *
    clear h2 h3 row rd k0 hx hxn hxb
    go_wp2
    obtain ⟨WF, hWF⟩ : ∃ WF, WF = ((w1.setCell ⟨w.heap.size, 0, none⟩ (.string x.n)).setCell ⟨w.heap.size, 1, none⟩ (.bool x.t)).setCell ⟨w.heap.size, 2, none⟩ (.int .u64 x.i) := ⟨_, rfl⟩
    obtain ⟨kF, oF⟩ := ob_store3 HK1.out hWF
    rw [← hWF]
    refine fin_GetR kF rfl rfl ?_
    exact ⟨.inl ⟨x, HX.out.1, HX.out.2, rfl⟩, Below.onl HB1.out oF (fun i q => by omega) (Nat.le_refl _)⟩
  · rw [h3]
    have HX := hide h2
    clear h2 h3 hxb
    go_wp2
    obtain ⟨WF, hWF⟩ : ∃ WF, WF = ((w1.setCell ⟨w.heap.size, 0, none⟩ (.string ⟨#[]⟩)).setCell ⟨w.heap.size, 1, none⟩ (.bool false)).setCell ⟨w.heap.size, 2, none⟩ (.int .u64 0) := ⟨_, rfl⟩
    obtain ⟨kF, oF⟩ := ob_store3 HK1.out hWF
    rw [← hWF]
    refine fin_GetR kF rfl rfl ?_
    exact ⟨.inr ⟨HX.out, rfl⟩, Below.onl HB1.out oF (fun i q => by omega) (Nat.le_refl _)⟩
end Go.Proofs.Yticofadpbpcejaa
