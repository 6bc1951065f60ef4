/- The document's SameChanges, over the translation; what Of tells. -/
import Derived.Test.YtbegiiihkmloiaaDDf
namespace Go.Proofs.Ytbegiiihkmloiaa
open Go.RowKit Apo
open Classical in
set_option maxRecDepth 100000 in
theorem neqCh (f g : Ch) (w : World) : (binOp .neq 35 (.agg #[.string f.k, .bool f.had, .string f.was, .bool f.has, .string f.now]) (.agg #[.string g.k, .bool g.had, .string g.was, .bool g.has, .string g.now])).run Try.prog w = .ok (.bool (!decide (f = g))) w := by
  have u9 := Try.underlying9
  have u4 := Try.underlying4
  have hS : Try.prog.underlying 35 = some (.struct (Try.prog.fieldsOf 35)) := by kernel_rfl
  have hp : Try.prog.stoodInHeld 35 = false := by kernel_rfl
  rw [run_neq_struct, show (10000 : Nat) = 9999 + 1 from rfl, run_equalIn_agg w 9999 35 _ _ hS hp]
  simp only [Program.fieldsOf, Try.underlying35]
  go_simp
  obtain ⟨fk, fh, fw, fs, fn⟩ := f
  obtain ⟨gk, gh, gw, gs, gn⟩ := g
  simp only
  by_cases h1 : fk = gk
  · by_cases h2 : fh = gh
    · by_cases h3 : fw = gw
      · by_cases h4 : fs = gs
        · by_cases h5 : fn = gn
          · simp [h1, h2, h3, h4, h5]
          · have h5' : ¬ fn.toList = gn.toList := fun e => h5 (bytes_of_list e)
            simp [h1, h2, h3, h4, h5, h5']
        · simp [h1, h2, h3, h4]
      · have h3' : ¬ fw.toList = gw.toList := fun e => h3 (bytes_of_list e)
        simp [h1, h2, h3, h3']
    · simp [h1, h2]
  · have h1' : ¬ fk.toList = gk.toList := fun e => h1 (bytes_of_list e)
    simp [h1, h1']
open Classical in
set_option maxRecDepth 100000 in
set_option maxHeartbeats 1000000 in
theorem sameCh_any (a : Option Addr) (acap : Nat) (l : List Ch) (b : Option Addr) (bcap : Nat) (m : List Ch) (w : World) (ha : RdG cCh 5 w a l) (hb : RdG cCh 5 w b m) (hl : l.length ≤ 9223372036854775807) :
    Calls Try.prog 8 #[.slice a l.length acap, .slice b m.length bcap] w fun e w' => e = .returned (.bool (decide (l = m))) ∧ Below w.heap.size w w' := by
  have hA := hide ha
  have hB := hide hb
  clear ha hb
  by_cases hlen : l.length = m.length
  · rw [← hlen]
    have HL := hide hlen
    clear hlen
    go_enter Try.func8, Try.ntmps8
    go_wp2
    go_loopw [13] (fun i wr => ∃ k : Nat, k ≤ l.length ∧ i = .int .i64 k ∧ Hid (l.take k = m.take k) ∧ Below w.heap.size w wr) (fun i _ => l.length - (intOf i).toNat)
    case atStart => exact ⟨0, Nat.zero_le _, rfl, rfl, Below.refl _ _⟩
    case round =>
      obtain ⟨k, hk, rfl, hE, hbr⟩ := hrel
      by_cases hlt : k < l.length
      · have hz : l[k]? = some l[k] := List.getElem?_eq_getElem hlt
        have hlt2 : k < m.length := by rw [← HL.out]; exact hlt
        have hy : m[k]? = some m[k] := List.getElem?_eq_getElem hlt2
        generalize l[k] = f at hz
        generalize m[k] = g at hy
        obtain ⟨p, off, rfl, c0, c1, c2, c3, c4⟩ := (hA.out.below hbr).ch hz
        obtain ⟨p', off', rfl, d0, d1, d2, d3, d4⟩ := (hB.out.below hbr).ch hy
        have HZ := hide hz
        have HY := hide hy
        clear hz hy
        have hm : Try.prog.eqGuardType Try.prog.depth 35 = false := by kernel_rfl
        have hcmp := neqCh f g
        by_cases hfg : f = g
        · subst hfg
          simp only [decide_true, Bool.not_true] at hcmp
          have hE' : Hid (l.take (k + 1) = m.take (k + 1)) := by
            show _ = _
            rw [List.take_add_one, List.take_add_one, HZ.out, HY.out, hE.out]
          go_wp2
          go_quiet (fail)
          go_wp2
          go_roundw
          case rel => exact ⟨k + 1, by omega, by go_num, hE', below_drewN hbr _⟩
          case measure => simp [intOf]; omega
        · have hd : decide (f = g) = false := by simp [hfg]
          simp only [hd, Bool.not_false] at hcmp
          have hE' : Hid (l ≠ m) := by
            intro e
            have h1 := HZ.out
            rw [e, HY.out] at h1
            exact hfg (by cases h1; rfl)
          go_wp2
          go_quiet (fail)
          go_wp2
          go_ret
          exact ⟨by simp [hE'.out], below_drewN hbr _⟩
      · have hE' : Hid (l = m) := by
          have h1 := hE.out
          rw [List.take_of_length_le (by omega), List.take_of_length_le (by rw [← HL.out]; omega)] at h1
          exact h1
        go_wp2
        go_ret
        exact ⟨by simp [hE'.out], hbr⟩
  · have hne : l ≠ m := fun e => hlen (by rw [e])
    have hN := hide hne
    have hlb : ((l.length : Int) == (m.length : Int)) = false := by simp; omega
    clear hne
    go_enter Try.func8, Try.ntmps8
    go_wp2
    go_ret
    exact ⟨by simp [hN.out], Below.refl _ _⟩
/-- what a side has of the least key -/
theorem take_gets {es : List En} {key : ByteArray} (hr : RiseE es) (hk : ∀ e r, es = e :: r → sLt e.k key = false) : Gets es key (takeK es key).1.2 (takeK es key).1.1 ∧ (∀ e ∈ (takeK es key).2, sLt key e.k = true) ∧ RiseE (takeK es key).2 ∧ ∀ k v b, sLt key k = true → (Gets es k v b ↔ Gets (takeK es key).2 k v b) := by
  cases es with
  | nil => exact ⟨.inr ⟨rfl, rfl, by simp⟩, by simp [takeK], hr, fun k v b _ => Iff.rfl⟩
  | cons e r =>
    unfold RiseE at hr
    rw [List.pairwise_cons] at hr
    by_cases q : e.k = key
    · have ht : takeK (e :: r) key = ((true, e.v), r) := if_pos q
      rw [ht]
      refine ⟨.inl ⟨rfl, e, by simp, q, rfl⟩, fun x hx => by rw [← q]; exact hr.1 x hx, hr.2, fun k v b hkk => ?_⟩
      have hne : e.k ≠ k := fun z => by rw [q] at z; rw [z, sLt_irr] at hkk; cases hkk
      unfold Gets
      constructor
      · rintro (⟨h1, x, hx, h2, h3⟩ | ⟨h1, h2, h3⟩)
        · rcases List.mem_cons.1 hx with z | z
          · rw [z] at h2; exact absurd h2 hne
          · exact .inl ⟨h1, x, z, h2, h3⟩
        · exact .inr ⟨h1, h2, fun x hx => h3 x (by simp [hx])⟩
      · rintro (⟨h1, x, hx, h2, h3⟩ | ⟨h1, h2, h3⟩)
        · exact .inl ⟨h1, x, by simp [hx], h2, h3⟩
        · refine .inr ⟨h1, h2, fun x hx => ?_⟩
          rcases List.mem_cons.1 hx with z | z
          · rw [z]; exact hne
          · exact h3 x z
    · have ht : takeK (e :: r) key = ((false, ⟨#[]⟩), e :: r) := if_neg q
      have hlt : sLt key e.k = true := by
        cases z : sLt key e.k with
        | true => rfl
        | false => exact absurd (sLt_conn (hk e r rfl) z) q
      have hall : ∀ x ∈ e :: r, sLt key x.k = true := fun x hx => by
        rcases List.mem_cons.1 hx with z | z
        · rw [z]; exact hlt
        · exact sLt_trans hlt (hr.1 x z)
      rw [ht]
      refine ⟨.inr ⟨rfl, rfl, fun x hx z => ?_⟩, hall, List.pairwise_cons.2 hr, fun k v b _ => Iff.rfl⟩
      have := hall x hx
      rw [z, sLt_irr] at this
      cases this
theorem least_le {es fs : List En} {key : ByteArray} (h : leastK es fs = (key, true)) : (∀ e r, es = e :: r → sLt e.k key = false) ∧ ∀ e r, fs = e :: r → sLt e.k key = false := by
  cases es with
  | nil => cases fs with
    | nil => cases h
    | cons f fs =>
      have : f.k = key := by cases h; rfl
      exact ⟨(fun e r q => by cases q), fun e r q => by cases q; rw [this]; exact sLt_irr _⟩
  | cons e es => cases fs with
    | nil =>
      have : e.k = key := by cases h; rfl
      exact ⟨fun x r q => (by cases q; rw [this]; exact sLt_irr _), fun x r q => by cases q⟩
    | cons f fs =>
      simp only [leastK] at h
      split at h
      · rename_i hl
        have hk : f.k = key := by cases h; rfl
        refine ⟨fun x r q => ?_, fun x r q => by cases q; rw [hk]; exact sLt_irr _⟩
        cases q
        rw [← hk]
        cases z : sLt e.k f.k with
        | false => rfl
        | true =>
          have := sLt_trans z hl
          rw [sLt_irr] at this
          cases this
      · rename_i hl
        have hk : e.k = key := by cases h; rfl
        refine ⟨fun x r q => (by cases q; rw [hk]; exact sLt_irr _), fun x r q => ?_⟩
        cases q
        rw [← hk]
        simpa using hl
/-- what Of tells are the changes -/
theorem OfR.is {es fs : List En} {cs : List Ch} (h : OfR es fs cs) : RiseE es → RiseE fs → DiffC es fs cs := by
  induction h with
  | done =>
    intro _ _
    refine ⟨List.Pairwise.nil, fun c => ⟨fun q => by simp at q, fun q => ?_⟩⟩
    obtain ⟨h1, h2, h3⟩ := q
    rcases h1 with ⟨_, x, hx, _⟩ | ⟨a1, a2, _⟩
    · simp at hx
    · rcases h2 with ⟨_, x, hx, _⟩ | ⟨a3, a4, _⟩
      · simp at hx
      · exact absurd (by rw [a1, a2, a3, a4]) h3
  | @step es fs key cs hl hr ih =>
    intro r1 r2
    obtain ⟨l1, l2⟩ := least_le hl
    obtain ⟨g1, a1, s1, t1⟩ := take_gets r1 l1
    obtain ⟨g2, a2, s2, t2⟩ := take_gets r2 l2
    obtain ⟨i1, i2⟩ := ih s1 s2
    have hgt : ∀ c ∈ cs, sLt key c.k = true := fun c hc => by
      obtain ⟨h1, h2, h3⟩ := (i2 c).1 hc
      rcases h1 with ⟨_, x, hx, q, _⟩ | ⟨b1, b2, _⟩
      · rw [← q]; exact a1 x hx
      · rcases h2 with ⟨_, x, hx, q, _⟩ | ⟨b3, b4, _⟩
        · rw [← q]; exact a2 x hx
        · exact absurd (by rw [b1, b2, b3, b4]) h3
    have hiff : ∀ c : Ch, sLt key c.k = true → (IsCh es fs c ↔ c ∈ cs) := fun c hc => by
      rw [i2 c]
      unfold IsCh
      rw [t1 _ _ _ hc, t2 _ _ _ hc]
    have hkey : ∀ c : Ch, IsCh es fs c → c.k = key ∨ sLt key c.k = true := fun c hc => by
      by_cases q : c.k = key
      · exact .inl q
      · right
        have hin : ∀ {l : List En}, RiseE l → (∀ e r, l = e :: r → sLt e.k key = false) → ∀ x ∈ l, x.k = key ∨ sLt key x.k = true := fun {l} hr hh x hx => by
          cases l with
          | nil => simp at hx
          | cons e r =>
            unfold RiseE at hr
            rw [List.pairwise_cons] at hr
            have he := hh e r rfl
            have hle : e.k = key ∨ sLt key e.k = true := by
              cases z : sLt key e.k with
              | true => exact .inr rfl
              | false => exact .inl (sLt_conn he z)
            rcases List.mem_cons.1 hx with z | z
            · rw [z]; exact hle
            · right
              rcases hle with y | y
              · rw [← y]; exact hr.1 x z
              · exact sLt_trans y (hr.1 x z)
        obtain ⟨h1, h2, h3⟩ := hc
        rcases h1 with ⟨_, x, hx, z, _⟩ | ⟨b1, b2, _⟩
        · rw [← z]; exact (hin r1 l1 x hx).resolve_left (by rw [z]; exact q)
        · rcases h2 with ⟨_, x, hx, z, _⟩ | ⟨b3, b4, _⟩
          · rw [← z]; exact (hin r2 l2 x hx).resolve_left (by rw [z]; exact q)
          · exact absurd (by rw [b1, b2, b3, b4]) h3
    by_cases heq : (takeK es key).1 = (takeK fs key).1
    · rw [chOf, if_pos heq, List.nil_append]
      refine ⟨i1, fun c => ⟨fun q => (hiff c (hgt c q)).2 q, fun q => ?_⟩⟩
      rcases hkey c q with z | z
      · exfalso
        obtain ⟨h1, h2, h3⟩ := q
        rw [z] at h1 h2
        obtain ⟨e1, e2⟩ := gets_uniq r1 h1 g1
        obtain ⟨e3, e4⟩ := gets_uniq r2 h2 g2
        exact h3 (by rw [e1, e2, e3, e4]; exact heq)
      · exact (hiff c z).1 q
    · rw [chOf, if_neg heq]
      refine ⟨?_, fun c => ?_⟩
      · unfold Rise
        rw [List.map_append, List.pairwise_append]
        refine ⟨by simp, i1, fun x hx y hy => ?_⟩
        simp only [List.map_cons, List.map_nil, List.mem_singleton] at hx
        subst hx
        obtain ⟨c, hc, rfl⟩ := List.mem_map.1 hy
        exact hgt c hc
      · rw [List.mem_append, List.mem_singleton]
        constructor
        · rintro (rfl | q)
          · exact ⟨g1, g2, heq⟩
          · exact (hiff c (hgt c q)).2 q
        · intro q
          rcases hkey c q with z | z
          · left
            obtain ⟨ck, chad, cwas, chas, cnow⟩ := c
            simp only at z
            subst z
            obtain ⟨h1, h2, h3⟩ := q
            obtain ⟨e1, e2⟩ := gets_uniq r1 h1 g1
            obtain ⟨e3, e4⟩ := gets_uniq r2 h2 g2
            simp only at e1 e2 e3 e4
            rw [e1, e2, e3, e4]
          · exact .inr ((hiff c z).1 q)
end Go.Proofs.Ytbegiiihkmloiaa
