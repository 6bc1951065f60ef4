/- Few of law 16, Light of law 17. Over the translation. -/
import Derived.Test.YtgjhmpmjbedjoaaQA3
import Derived.Test.YtgjhmpmjbedjoaaQCLw
import Derived.Test.YtgjhmpmjbedjoaaQSDa
namespace Go.Proofs.Ytgjhmpmjbedjoaa
open Go.RowKit Apo
/-- whether refs are few and small -/
def fewR (l : List Rf) : Bool := l.all (fun x => decide (x.n.size ≤ 40)) && decide (l.length ≤ 45)
theorem fewR_ok {l : List Rf} (h : fewR l = true) : (∀ x ∈ l, x.n.size ≤ 40) ∧ l.length ≤ 45 := by
  unfold fewR at h
  simpa using h
set_option maxRecDepth 100000 in
set_option maxHeartbeats 4000000 in
theorem few16 (w : World) (f : RfA) (h : OkRfA w f) : Calls Try.prog 19 #[.slice f.a f.l.length f.c] w fun e w' => e = .returned (.bool (fewR f.l)) ∧ Below w.heap.size w w' := by
  obtain ⟨a, c, l⟩ := f
  have HR := hide h.rd
  have HSZ := hide h.sz
  have hl := h.len
  have hb := h.big
  simp only at HR HSZ hl hb ⊢
  obtain ⟨n, hn⟩ : ∃ n, n = l.length := ⟨_, rfl⟩
  have HN := hide hn
  rw [← hn] at hl ⊢
  have hnb : n ≤ 9223372036854775807 := by unfold maxLen at hb; omega
  clear h hn hl hb
  go_enter Try.func19, Try.ntmps19
  go_wp2
  go_loopw [7] (fun v wr => ∃ k : Nat, k ≤ n ∧ v = .int .i64 k ∧ Hid (∀ y ∈ l.take k, y.n.size ≤ 40) ∧ Hid (Below w.heap.size w wr)) (fun v _ => n - (intOf v).toNat)
  case atStart => exact ⟨0, Nat.zero_le _, rfl, hide (by simp), hide (Below.refl _ _)⟩
  case round =>
    obtain ⟨k, hk, rfl, HS, HB⟩ := hrel
    by_cases hlt : k < n
    · obtain ⟨x, hx⟩ : ∃ x, l[k]? = some x := ⟨l[k]'(by have := HN.out; omega), List.getElem?_eq_getElem _⟩
      obtain ⟨g, o, rfl, r0, r1, r2⟩ := rd_rf (HR.out.below HB.out) hx
      have hsz : x.n.size ≤ 9223372036854775807 := by have := HSZ.out x (List.mem_of_getElem? hx); unfold maxLen at this; omega
      have HBA := hide (HB.out.alloc HB.out.size (.cells #[.string x.n, .bool x.t, .int .u64 x.i] 57))
      by_cases hq : x.n.size ≤ 40
      · have HS2 : Hid (∀ y ∈ l.take (k + 1), y.n.size ≤ 40) := hide (fun y hy => by
          rw [List.take_add_one, hx, List.mem_append] at hy
          rcases hy with r | r
          · exact HS.out y r
          · simp only [Option.toList_some, List.mem_singleton] at r
            rw [r]; exact hq)
        have d1 : decide ((40 : Int) < (x.n.size : Int)) = false := by simp; omega
        clear hx HS
        go_wp2
        go_roundw
        case rel => exact ⟨k + 1, by omega, by simp, HS2, HBA⟩
        case measure => simp [intOf]; omega
      · have HX : Hid (fewR l = false) := hide (by
          unfold fewR
          have : l.all (fun x => decide (x.n.size ≤ 40)) = false := by
            rw [List.all_eq_false]
            exact ⟨x, List.mem_of_getElem? hx, by simpa using hq⟩
          rw [this, Bool.false_and])
        have d1 : decide ((40 : Int) < (x.n.size : Int)) = true := by simp; omega
        clear hx HS
        go_wp2
        go_ret
        rw [HX.out]
        exact ⟨rfl, HBA.out⟩
    · obtain rfl : k = n := by omega
      have HX : Hid (fewR l = decide ((k : Int) ≤ 45)) := hide (by
        unfold fewR
        have : l.all (fun x => decide (x.n.size ≤ 40)) = true := by
          rw [List.all_eq_true]
          intro y hy
          have := HS.out y (by rw [HN.out, List.take_length]; exact hy)
          simpa using this
        rw [this, Bool.true_and, ← HN.out]
        by_cases q : k ≤ 45
        · simp [q]; omega
        · simp [q]; omega)
      clear HS
      go_wp2
      go_ret
      rw [HX.out]
      exact ⟨rfl, HB.out⟩
/-- whether a state is small -/
def lightS (s : Sv) : Bool := decide (s.hd.size ≤ 40) && (fewR s.rf && (decide (s.md.length ≤ 210) && lightC s.cl))
theorem lightS_ok {s : Sv} (h : lightS s = true) : s.hd.size ≤ 40 ∧ fewR s.rf = true ∧ s.md.length ≤ 210 ∧ lightC s.cl = true := by
  unfold lightS at h
  simpa using h
set_option maxRecDepth 100000 in
set_option maxHeartbeats 4000000 in
theorem light17 (w : World) (x : SvA) (h : SvR w x) : Calls Try.prog 7 #[.agg #[.string x.s.hd, .int .u64 x.s.wk, .int .u64 x.s.nx, .int .u64 x.s.pd, .slice x.ra x.s.rf.length x.rc, .slice x.ma x.s.md.length x.mc, .slice x.ca x.s.cl.length x.cc]] w fun e w' => e = .returned (.bool (lightS x.s)) ∧ Below w.heap.size w w' := by
  obtain ⟨⟨hd, wk, nx, pd, rf, md, cl⟩, ra, rc, ma, mc, ca, cc⟩ := x
  have HR := hide h
  have hz := h.hz
  have hml := h.ml
  unfold maxLen at hz hml
  simp only at hz hml HR ⊢
  obtain ⟨W, hW⟩ : ∃ W, W = w.alloc (.cells #[.string hd, .int .u64 wk, .int .u64 nx, .int .u64 pd, .slice ra rf.length rc, .slice ma md.length mc, .slice ca cl.length cc] 27) := ⟨_, rfl⟩
  have bW : Below w.heap.size w W := by rw [hW]; exact (Below.refl _ _).alloc (Nat.le_refl _) _
  have kW := Ob.new w [.string hd, .int .u64 wk, .int .u64 nx, .int .u64 pd, .slice ra rf.length rc, .slice ma md.length mc, .slice ca cl.length cc] 27
  rw [show w.alloc (.cells [.string hd, .int .u64 wk, .int .u64 nx, .int .u64 pd, .slice ra rf.length rc, .slice ma md.length mc, .slice ca cl.length cc].toArray 27) = W from hW.symm] at kW
  have HF := hide (few16 W ⟨ra, rc, rf⟩ ⟨h.rr.below bW, h.rz, h.rl.1, h.rl.2⟩)
  simp only at HF
  have HBW := hide bW
  have HKW := hide kW
  have HW := hide hW
  rw [hW] at HF
  have HLS : Hid (lightS ⟨hd, wk, nx, pd, rf, md, cl⟩ = (decide (hd.size ≤ 40) && (fewR rf && (decide (md.length ≤ 210) && lightC cl)))) := hide rfl
  obtain ⟨nr, hnr⟩ : ∃ nr, nr = rf.length := ⟨_, rfl⟩
  obtain ⟨nm, hnm⟩ : ∃ nm, nm = md.length := ⟨_, rfl⟩
  obtain ⟨nc, hnc⟩ : ∃ nc, nc = cl.length := ⟨_, rfl⟩
  rw [← hnr, ← hnm, ← hnc] at HKW HW HF ⊢
  rw [← hnm] at HLS hml
  have HNC := hide hnc
  clear h bW kW hW hnr hnm hnc
  go_enter Try.func7, Try.ntmps7
  by_cases h1 : hd.size ≤ 40
  · have d1 : decide ((hd.size : Int) ≤ 40) = true := by simp; omega
    have g1 : decide (hd.size ≤ 40) = true := by simpa using h1
    rw [g1, Bool.true_and] at HLS
    clear h1 g1
    go_wp2_with fail
    refine HF.out.mono ?_
    rintro e w2 ⟨rfl, b2⟩
    rw [← HW.out] at b2
    have k2 := HKW.out.old b2
    have HB2 := hide (HBW.out.trans (b2.mono HBW.out.size))
    have u5 := k2.cell 5
    have u6 := k2.cell 6
    simp only [List.getElem?_cons_succ, List.getElem?_cons_zero] at u5 u6
    have HL := hide (light13 w2 ca cc cl (HR.out.cr.below HB2.out) (by have := HR.out.cl; simp only at this; unfold maxLen at this; omega) HR.out.cz)
    rw [← HNC.out] at HL
    clear k2 b2
    cases hq : fewR rf with
    | true =>
      rw [hq, Bool.true_and] at HLS
      clear hq
      by_cases h3 : nm ≤ 210
      · have d3 : decide ((nm : Int) ≤ 210) = true := by simp; omega
        have g3 : decide (nm ≤ 210) = true := by simpa using h3
        rw [g3, Bool.true_and] at HLS
        clear h3 g3
        go_wp2_with fail
        refine HL.out.mono ?_
        rintro e w3 ⟨rfl, b3⟩
        go_wp2
        go_ret
        rw [HLS.out]
        exact ⟨rfl, HB2.out.trans (b3.mono HB2.out.size)⟩
      · have d3 : decide ((nm : Int) ≤ 210) = false := by simp; omega
        have g3 : decide (nm ≤ 210) = false := by simpa using h3
        rw [g3, Bool.false_and] at HLS
        clear h3 g3
        go_wp2
        go_ret
        rw [HLS.out]
        exact ⟨rfl, HB2.out⟩
    | false =>
      rw [hq, Bool.false_and] at HLS
      clear hq
      go_wp2
      go_ret
      rw [HLS.out]
      exact ⟨rfl, HB2.out⟩
  · have d1 : decide ((hd.size : Int) ≤ 40) = false := by simp; omega
    have g1 : decide (hd.size ≤ 40) = false := by simpa using h1
    rw [g1, Bool.false_and] at HLS
    clear h1 g1
    go_wp2
    go_ret
    rw [HLS.out]
    exact ⟨rfl, by rw [← HW.out]; exact HBW.out⟩
end Go.Proofs.Ytgjhmpmjbedjoaa
