/- Commits as they come in. Over the translation. Law 15's Few; law 14's Light. Over the translation. -/
import Derived.Deep.Slices
import Derived.ProofKit
import Derived.OpenShut
import Derived.Test.YtmkafoidfgaokaaRows
import Derived.Test.YtmkafoidfgaokaaQB1
import Derived.Test.YtmkafoidfgaokaaQA3
namespace Go.Proofs.Ytmkafoidfgaokaa
open Go.RowKit Apo Go.ChangeShapes Go.WideShapes Go.Deep
instance : Inhabited CmA := ⟨zeroA⟩
/-- commits in a slice that came in -/
structure CsA where
  a : Option Addr
  c : Nat
  l : List CmA
structure OkCs (w : World) (x : CsA) : Prop where
  rd : RdG cCm 5 w x.a x.l
  cm : ∀ y ∈ x.l, CmR w y.c y.a y.cap ∧ (y.a = none → y.cap = 0)
  len : x.l.length ≤ x.c
  big : x.c ≤ maxLen
theorem OkCs.below {w w' : World} {x : CsA} (h : OkCs w x) (b : Below w.heap.size w w') : OkCs w' x := { h with rd := h.rd.below b, cm := fun y hy => ⟨(h.cm y hy).1.below b, (h.cm y hy).2⟩ }
section
variable {H : Type} {enc : TypeId × Value → H} {w : World} {base : Nat} {spare : Nat → Bool} {held : Bool}
/-- with it: a nil row of parents has no room -/
theorem open_cm2 {fuel : Nat} {cs : List Value} {x : DataW H × List MemPlace} (hc : cs.length = 5) (h : DataW.trod enc Try.prog w base spare held fuel 32 cs = some x) :
    ∃ s : CmA, cs = cCm s ∧ CmR w s.c s.a s.cap ∧ (s.a = none → s.cap = 0) := by
  obtain ⟨s, hs, hr⟩ := open_cm hc h
  refine ⟨s, hs, hr, ?_⟩
  obtain ⟨xs, k, hk, hxy, _, hxl, hf⟩ := DataW.trod_struct Try.underlying32 h
  match xs, hxl with
  | [y0, y1, y2, y3, y4], _ =>
    have c23 : Try.prog.cellsOf 30 = 1 := by kernel_rfl
    have g1 := hf 1 _ rfl
    rw [hs] at g1
    simp [c23] at g1
    rcases open_ints Try.underlying30 Try.underlying23 (by kernel_rfl) g1 with ⟨hcs, _⟩ | ⟨ad, len, c, zs, hcs, _⟩
    · simp only [List.cons.injEq, and_true, Value.slice.injEq] at hcs
      exact fun _ => hcs.2.2
    · simp only [List.cons.injEq, and_true, Value.slice.injEq] at hcs
      intro e
      rw [e] at hcs
      exact absurd hcs.1 (by simp)
set_option maxRecDepth 100000 in
theorem open_cms {fuel : Nat} {v : Value} {x : DataW H × List MemPlace} (h : DataW.trod enc Try.prog w base spare held fuel 22 [v] = some x) :
    ∃ (a : Option Addr) (cap : Nat) (fs : List CmA), v = .slice a fs.length cap ∧ RdG cCm 5 w a fs ∧ (∀ f ∈ fs, CmR w f.c f.a f.cap ∧ (f.a = none → f.cap = 0)) ∧ fs.length ≤ cap ∧ cap ≤ maxLen := by
  rcases open_slice Try.underlying22 h with ⟨hcs, _⟩ | ⟨ad, len, cap, m, n, D, Pl, hcs, hb, hl, hm, hmm, _, hx⟩
  · simp only [List.cons.injEq, and_true] at hcs
    exact ⟨none, 0, [], hcs, (fun i e hi => by simp at hi), by simp, by simp, by omega⟩
  · simp only [List.cons.injEq, and_true] at hcs
    have hlm : len ≤ m := by rw [hmm]; split <;> omega
    have ce : Try.prog.cellsOf 32 = 5 := by kernel_rfl
    have each : ∀ i, i < len → ∃ f : CmA, (∀ j u, (cCm f)[j]? = some u → w.cell? (ad.add (i * 5 + j)) = some u) ∧ CmR w f.c f.a f.cap ∧ (f.a = none → f.cap = 0) := by
      intro i hi
      obtain ⟨cs', h1, h2⟩ := hx i (by omega)
      rw [ce] at h1
      obtain ⟨_, hlen, hcell⟩ := World.cells?_some h1
      obtain ⟨s, hs, hr, hn⟩ := open_cm2 hlen h2
      refine ⟨s, fun j u hu => ?_, hr, hn⟩
      have hj : j < 5 := by have := (List.getElem?_eq_some_iff.1 hu).1; rw [cCm_len] at this; exact this
      have := hcell j hj
      rw [add_add] at this
      rw [this]
      subst hs
      exact hu
    obtain ⟨F, hF⟩ := choose_lt each
    refine ⟨some ad, cap, (List.range len).map F, by simpa using hcs, ?_, ?_, by simp; omega, by omega⟩
    · intro i f hi
      obtain ⟨hlt, hv⟩ := List.getElem?_eq_some_iff.1 hi
      have hil : i < len := by simpa using hlt
      have hfi : F i = f := by simpa using hv
      have hF1 := (hF i hil).1
      rw [hfi] at hF1
      have z0 := (hF 0 (by omega)).1 0 _ rfl
      obtain ⟨b, off, spot⟩ := ad
      have hspot : spot = none := by simpa [Addr.add] using World.cell?_spot z0
      subst hspot
      refine ⟨b, off, rfl, fun j u hu => ?_⟩
      have := hF1 j u hu
      rw [add_plain] at this
      simpa [Nat.add_assoc] using this
    · intro f hf
      obtain ⟨i, hi, rfl⟩ := List.mem_map.1 hf
      exact ⟨(hF i (by simpa using hi)).2.1, (hF i (by simpa using hi)).2.2⟩
set_option maxRecDepth 100000 in
theorem cms_in {r : Reach} {b0 : Nat} {v : Value} {d : DataW H} {ps : List MemPlace} (hval : Value.okWide Try.prog w r b0 22 v) (h : DataW.Trod enc Try.prog w base spare held 22 v d ps) : ∃ t : CsA, v = .slice t.a t.l.length t.c ∧ OkCs w t := by
  obtain ⟨a, l, c, rfl⟩ := okWide_slice Try.underlying22 hval
  obtain ⟨fuel, hf⟩ := h
  obtain ⟨a', c', fs, e, h1, h2, h3, h4⟩ := open_cms hf
  exact ⟨⟨a', c', fs⟩, e, ⟨h1, h2, h3, h4⟩⟩
end
end Go.Proofs.Ytmkafoidfgaokaa
namespace Go.Proofs.Ytmkafoidfgaokaa
open Go.RowKit Apo
def lightM (c : Cm) : Bool := decide (c.ps.length ≤ 5) && decide (c.tx.size ≤ 100)
theorem lightM_ok {c : Cm} (h : lightM c = true) : c.ps.length ≤ 5 ∧ c.tx.size ≤ 100 := by
  unfold lightM at h
  simpa using h
set_option maxRecDepth 100000 in
set_option maxHeartbeats 4000000 in
theorem light14 (c : Cm) (a : Option Addr) (cap : Nat) (w : World) (h : CmR w c a cap) :
    Calls Try.prog 29 #[cmV c.id a c.ps.length cap c.gen c.root c.tx] w fun e w' => e = .returned (.bool (lightM c)) ∧ Below w.heap.size w w' := by
  have ht := h.txt
  have hl := Nat.le_trans h.len h.big
  obtain ⟨id, ps, gen, root, tx⟩ := c
  simp only at ht hl ⊢
  have HE : Hid (lightM ⟨id, ps, gen, root, tx⟩ = (decide (ps.length ≤ 5) && decide (tx.size ≤ 100))) := hide rfl
  generalize ps.length = n at *
  clear h
  have HB := hide ((Below.refl w.heap.size w).alloc (Nat.le_refl _) (.cells #[.int .u64 id, .slice a n cap, .int .u64 gen, .int .u64 root, .string tx] 32))
  by_cases h1 : n ≤ 5
  · have d1 : decide ((n : Int) ≤ 5) = true := by simp; omega
    have d1n : decide (n ≤ 5) = true := by simp; omega
    have hdd : decide ((tx.size : Int) ≤ 100) = decide (tx.size ≤ 100) := by
      by_cases q : tx.size ≤ 100
      · simp [q]; omega
      · simp [q]; omega
    have HX : Hid (lightM ⟨id, ps, gen, root, tx⟩ = decide (tx.size ≤ 100)) := hide (by rw [HE.out, d1n, Bool.true_and])
    clear HE
    go_enter Try.func29, Try.ntmps29
    go_wp2
    go_ret
    exact ⟨by rw [HX.out, ← hdd]; rfl, HB.out⟩
  · have d1 : decide ((n : Int) ≤ 5) = false := by simp; omega
    have d1n : decide (n ≤ 5) = false := by simp; omega
    have HX : Hid (lightM ⟨id, ps, gen, root, tx⟩ = false) := hide (by rw [HE.out, d1n, Bool.false_and])
    clear HE
    go_enter Try.func29, Try.ntmps29
    go_wp2
    go_ret
    exact ⟨by rw [HX.out]; rfl, HB.out⟩
/-- whether commits are few and small -/
def fewM (l : List Cm) : Bool := l.all lightM && decide (l.length ≤ 25)
set_option maxRecDepth 100000 in
set_option maxHeartbeats 4000000 in
theorem few15 (w : World) (f : CsA) (h : OkCs w f) : Calls Try.prog 10 #[.slice f.a f.l.length f.c] w fun e w' => e = .returned (.bool (fewM (f.l.map CmA.c))) ∧ Below w.heap.size w w' := by
  obtain ⟨a, c, l⟩ := f
  have HR := hide h.rd
  have HCM := hide h.cm
  have hl := h.len
  have hb := h.big
  simp only at HR HCM hl hb ⊢
  obtain ⟨L, hL⟩ : ∃ L, L = l.map CmA.c := ⟨_, rfl⟩
  have HL := hide hL
  obtain ⟨n, hn⟩ : ∃ n, n = l.length := ⟨_, rfl⟩
  have HN := hide hn
  rw [← hn] at hl ⊢
  rw [← hL]
  have hnb : n ≤ 9223372036854775807 := by unfold maxLen at hb; omega
  clear h hL hn hl hb
  go_enter Try.func10, Try.ntmps10
  go_wp2
  go_loopw [7] (fun v wr => ∃ k : Nat, k ≤ n ∧ v = .int .i64 k ∧ Hid (∀ y ∈ L.take k, lightM y = true) ∧ Hid (Below w.heap.size w wr)) (fun v _ => n - (intOf v).toNat)
  case atStart => exact ⟨0, Nat.zero_le _, rfl, hide (by simp), hide (Below.refl _ _)⟩
  case round =>
    obtain ⟨k, hk, rfl, HS, HB⟩ := hrel
    by_cases hlt : k < n
    · obtain ⟨x, hx⟩ : ∃ x, l[k]? = some x := ⟨l[k]'(by have := HN.out; omega), List.getElem?_eq_getElem _⟩
      obtain ⟨g, o, rfl, r0, r1, r2, r3, r4⟩ := rd_cm (HR.out.below HB.out) hx
      have hxc : L[k]? = some x.c := by rw [HL.out, List.getElem?_map, hx]; rfl
      have bA : Below wr.heap.size wr (wr.alloc (.cells #[.int .u64 x.c.id, .slice x.a x.c.ps.length x.cap, .int .u64 x.c.gen, .int .u64 x.c.root, .string x.c.tx] 32)) := (Below.refl _ _).alloc (Nat.le_refl _) _
      have hcm := ((HCM.out x (List.mem_of_getElem? hx)).1.below HB.out).below bA
      have HC := hide (light14 x.c x.a x.cap _ hcm)
      have HBA := hide (HB.out.trans (bA.mono HB.out.size))
      cases hq : lightM x.c with
      | false =>
        rw [hq] at HC
        have HX : Hid (fewM L = false) := hide (by
          unfold fewM
          have : L.all lightM = false := by
            rw [List.all_eq_false]
            exact ⟨x.c, List.mem_of_getElem? hxc, by rw [hq]; decide⟩
          rw [this, Bool.false_and])
        clear hx hxc bA hcm hq
        go_wp2_with fail
        refine HC.out.mono ?_
        rintro e w1 ⟨rfl, b1⟩
        have HF := hide (HBA.out.trans (b1.mono HBA.out.size))
        clear b1
        go_wp2
        go_ret
        rw [HX.out]
        exact ⟨rfl, HF.out⟩
      | true =>
        rw [hq] at HC
        have HS2 : Hid (∀ y ∈ L.take (k + 1), lightM y = true) := hide (fun y hy => by
          rw [List.take_add_one, hxc, List.mem_append] at hy
          rcases hy with r | r
          · exact HS.out y r
          · simp only [Option.toList_some, List.mem_singleton] at r
            rw [r]; exact hq)
        clear hx hxc bA hcm hq HS
        go_wp2_with fail
        refine HC.out.mono ?_
        rintro e w1 ⟨rfl, b1⟩
        have HF := hide (HBA.out.trans (b1.mono HBA.out.size))
        clear b1
        go_wp2
        go_roundw
        case rel => exact ⟨k + 1, by omega, by simp, HS2, HF⟩
        case measure => simp [intOf]; omega
    · obtain rfl : k = n := by omega
      have HX : Hid (fewM L = decide ((k : Int) ≤ 25)) := hide (by
        have hLl : L.length = k := by rw [HL.out, List.length_map]; exact HN.out.symm
        unfold fewM
        have : L.all lightM = true := by
          rw [List.all_eq_true]
          intro y hy
          exact HS.out y (by rw [← hLl, List.take_length]; exact hy)
        rw [this, Bool.true_and, hLl]
        by_cases q : k ≤ 25
        · simp [q]; omega
        · simp [q]; omega)
      clear HS
      go_wp2
      go_ret
      rw [HX.out]
      exact ⟨rfl, HB.out⟩
end Go.Proofs.Ytmkafoidfgaokaa
