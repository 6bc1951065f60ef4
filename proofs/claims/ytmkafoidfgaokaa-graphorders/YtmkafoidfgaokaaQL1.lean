/- The log told by the way: commits that wait, the greatest first. Pure. A queue of commits: Less and Swap. Over the translation. -/
import Derived.BigQuiet
import Derived.BigRegion
import Derived.Test.YtmkafoidfgaokaaQA7
import Derived.Test.YtmkafoidfgaokaaQA8
namespace Go.Proofs.Ytmkafoidfgaokaa
open Go.RowKit Apo
/-- told (P), waiting (Q), met, and still to be looked at -/
structure WayI (l : List Cm) (id : Int) (P Q : List Cm) (met todo : List Int) : Prop where
  perm : ((P ++ Q).map Cm.id).Perm met
  nod : met.Nodup
  anc : ∀ z ∈ met, Anc l z id
  there : ∀ x ∈ P ++ Q, getG l x.id = some x
  sor : P.Pairwise leC
  le : ∀ x ∈ P, ∀ y ∈ Q, leC x y
  clo : ∀ x ∈ P, ∀ p ∈ x.ps, p ∈ met ∨ p ∈ todo
  ask : ∀ c, getG l id = some c → id ∈ met ∨ id ∈ todo
  tod : ∀ z ∈ todo, ∀ c, getG l z = some c → Anc l z id ∧ ∀ x ∈ P, leC x c
theorem WayI.start (l : List Cm) (id : Int) : WayI l id [] [] [] [id] :=
  ⟨List.Perm.refl _, List.nodup_nil, by simp, by simp, List.Pairwise.nil, by simp, by simp, fun _ _ => .inr (by simp), fun z hz c hc => by
    rw [List.mem_singleton] at hz
    subst hz
    exact ⟨.self c hc, by simp⟩⟩
theorem WayI.skip {l : List Cm} (G : Gok l) {id z : Int} {P Q : List Cm} {met todo : List Int} (h : WayI l id P Q met (z :: todo)) (hz : z ∈ met ∨ getG l z = none) : WayI l id P Q met todo := by
  refine { h with clo := fun x hx p hp => ?_, ask := fun c hc => ?_, tod := fun y hy => h.tod y (List.mem_cons_of_mem _ hy) }
  · rcases h.clo x hx p hp with q | q
    · exact .inl q
    · rcases List.mem_cons.1 q with r | r
      · subst r
        rcases hz with s | s
        · exact .inl s
        · obtain ⟨hxl, _⟩ := getG_mem (h.there x (List.mem_append_left _ hx))
          obtain ⟨_, d, hd, _⟩ := G.par x hxl p hp
          rw [s] at hd
          cases hd
      · exact .inr r
  · rcases h.ask c hc with q | q
    · exact .inl q
    · rcases List.mem_cons.1 q with r | r
      · rcases hz with s | s
        · exact .inl (by rw [r]; exact s)
        · rw [r, s] at hc
          cases hc
      · exact .inr r
theorem WayI.take {l : List Cm} {id z : Int} {c : Cm} {P Q Q' : List Cm} {met todo : List Int} (h : WayI l id P Q met (z :: todo)) (hc : getG l z = some c) (hz : z ∉ met) (hQ : Q'.Perm (Q ++ [c])) : WayI l id P Q' (met ++ [z]) todo := by
  obtain ⟨ha, hle⟩ := h.tod z (by simp) c hc
  have hcz := (getG_mem hc).2
  have hm : ∀ y, y ∈ Q' ↔ y ∈ Q ∨ y = c := fun y => by rw [hQ.mem_iff]; simp
  refine ⟨?_, ?_, ?_, ?_, h.sor, ?_, ?_, ?_, fun y hy d hd => h.tod y (List.mem_cons_of_mem _ hy) d hd⟩
  · have h1 : ((P ++ Q').map Cm.id).Perm (((P ++ Q).map Cm.id) ++ [z]) := by
      have h2 : (P ++ Q').Perm ((P ++ Q) ++ [c]) := by
        rw [List.append_assoc]
        exact hQ.append_left P
      have := h2.map Cm.id
      rw [List.map_append (l₁ := P ++ Q)] at this
      simpa [hcz] using this
    exact h1.trans (h.perm.append_right [z])
  · rw [List.nodup_append]
    refine ⟨h.nod, by simp, fun a ha b hb e => ?_⟩
    rw [List.mem_singleton] at hb
    rw [hb] at e
    rw [e] at ha
    exact hz ha
  · intro y hy
    rcases List.mem_append.1 hy with q | q
    · exact h.anc y q
    · rw [List.mem_singleton.1 q]; exact ha
  · intro x hx
    rcases List.mem_append.1 hx with q | q
    · exact h.there x (List.mem_append_left _ q)
    · rcases (hm x).1 q with r | r
      · exact h.there x (List.mem_append_right _ r)
      · rw [r, hcz]; exact hc
  · intro x hx y hy
    rcases (hm y).1 hy with r | r
    · exact h.le x hx y r
    · rw [r]; exact hle x hx
  · intro x hx p hp
    rcases h.clo x hx p hp with q | q
    · exact .inl (List.mem_append_left _ q)
    · rcases List.mem_cons.1 q with r | r
      · exact .inl (by rw [r]; simp)
      · exact .inr r
  · intro d hd
    rcases h.ask d hd with q | q
    · exact .inl (List.mem_append_left _ q)
    · rcases List.mem_cons.1 q with r | r
      · exact .inl (by rw [r]; simp)
      · exact .inr r
theorem leC_gen {c d : Cm} (h : d.gen < c.gen) : leC c d := by
  unfold leC aheadB
  simp only [Bool.bne_false, Bool.or_eq_false_iff, Bool.and_eq_false_iff, decide_eq_false_iff_not, beq_eq_false_iff_ne, ne_eq]
  exact ⟨by omega, .inl (by omega)⟩
theorem WayI.pop {l : List Cm} (G : Gok l) {id : Int} {r : Cm} {P Q Q' : List Cm} {met : List Int} (h : WayI l id P Q met []) (hQ : (r :: Q').Perm Q) (hr : ∀ y ∈ Q', leC r y) : WayI l id (P ++ [r]) Q' met r.ps := by
  have hrQ : r ∈ Q := hQ.mem_iff.1 (by simp)
  have hsub : ∀ y ∈ Q', y ∈ Q := fun y hy => hQ.mem_iff.1 (List.mem_cons_of_mem _ hy)
  have hrg := h.there r (List.mem_append_right _ hrQ)
  have hp0 : (P ++ [r] ++ Q').Perm (P ++ Q) := by
    rw [List.append_assoc]
    exact hQ.append_left P
  have hra : Anc l r.id id := h.anc r.id (h.perm.mem_iff.1 (List.mem_map.2 ⟨r, List.mem_append_right _ hrQ, rfl⟩))
  refine ⟨(hp0.map Cm.id).trans h.perm, h.nod, h.anc, fun x hx => h.there x (hp0.mem_iff.1 hx), ?_, ?_, ?_, fun c hc => .inl ((h.ask c hc).elim _root_.id (fun q => by cases q)), ?_⟩
  · rw [List.pairwise_append]
    exact ⟨h.sor, by simp, fun a ha b hb => by rw [List.mem_singleton.1 hb]; exact h.le a ha r hrQ⟩
  · intro x hx y hy
    rcases List.mem_append.1 hx with q | q
    · exact h.le x q y (hsub y hy)
    · rw [List.mem_singleton.1 q]; exact hr y hy
  · intro x hx p hp
    rcases List.mem_append.1 hx with q | q
    · exact .inl ((h.clo x q p hp).elim _root_.id (fun q => by cases q))
    · rw [List.mem_singleton.1 q] at hp
      exact .inr hp
  · intro z hz c hc
    obtain ⟨hrl, _⟩ := getG_mem hrg
    obtain ⟨_, d, hd, hdg⟩ := G.par r hrl z hz
    rw [hc] at hd
    injection hd with hd
    subst hd
    have hle : leC r c := leC_gen hdg
    refine ⟨(Anc.step r.id z r hrg hz (.self c hc)).trans hra, fun x hx => ?_⟩
    rcases List.mem_append.1 hx with q | q
    · exact leC_tr (h.le x q r hrQ) hle
    · rw [List.mem_singleton.1 q]; exact hle
/-- what is an ancestor and isn't met is one of some that waits -/
theorem WayI.waits {l : List Cm} {id : Int} {P Q : List Cm} {met : List Int} (h : WayI l id P Q met []) {z : Int} (hz : z ∉ met) : ∀ m, Anc l z m → m ∈ met → ∃ q ∈ Q, Anc l z q.id := by
  intro m hm
  induction hm with
  | self c hc => exact fun q => absurd q hz
  | step b p c hc hp r ih =>
    intro hb
    by_cases hpm : p ∈ met
    · exact ih hpm
    · obtain ⟨x, hx, hxb⟩ := List.mem_map.1 (h.perm.mem_iff.2 hb)
      rcases List.mem_append.1 hx with q | q
      · exfalso
        have hg := h.there x hx
        rw [hxb, hc] at hg
        injection hg with hg
        rcases h.clo x q p (by rw [← hg]; exact hp) with s | s
        · exact hpm s
        · cases s
      · exact ⟨x, q, by rw [hxb]; exact .step b p c hc hp r⟩
/-- what was told is the log, as far as it goes; it is whole where nothing waits -/
theorem WayI.log {l : List Cm} (G : Gok l) {id : Int} {P Q : List Cm} {met : List Int} (h : WayI l id P Q met []) : P = (sortG l false (reachG l [id])).take P.length ∧ (Q = [] → P = sortG l false (reachG l [id])) := by
  obtain ⟨hS, hSp⟩ := sortG_sorted l (reachG l [id])
  have hids := cmOf_map G [id]
  have hA : (((reachG l [id]).map (cmOf l)).map Cm.id).Nodup := by
    rw [hids]
    exact (reach_rise G.rise [id]).imp (fun q => by omega)
  have hinA : ∀ x, x ∈ (reachG l [id]).map (cmOf l) ↔ getG l x.id = some x ∧ Anc l x.id id := by
    intro x
    rw [List.mem_map]
    constructor
    · rintro ⟨z, hz, rfl⟩
      obtain ⟨i, hi, ha⟩ := (mem_reach G [id] z).1 hz
      rw [List.mem_singleton.1 hi] at ha
      obtain ⟨c, hc⟩ := ha.there.1
      rw [cmOf_is hc, (getG_mem hc).2]
      exact ⟨hc, ha⟩
    · rintro ⟨h1, h2⟩
      exact ⟨x.id, (mem_reach G [id] x.id).2 ⟨id, by simp, h2⟩, cmOf_is h1⟩
  have hmet : ∀ x ∈ P ++ Q, Anc l x.id id := fun x hx => h.anc x.id (h.perm.mem_iff.1 (List.mem_map.2 ⟨x, hx, rfl⟩))
  have hPA : ∀ x ∈ P, x ∈ (reachG l [id]).map (cmOf l) := fun x hx => (hinA x).2 ⟨h.there x (List.mem_append_left _ hx), hmet x (List.mem_append_left _ hx)⟩
  have hndPQ : ((P ++ Q).map Cm.id).Nodup := (h.perm.nodup_iff).2 h.nod
  have hndP : P.Nodup := by
    have h1 : (P.map Cm.id).Nodup := by
      rw [List.map_append, List.nodup_append] at hndPQ
      exact hndPQ.1
    rw [List.nodup_iff_pairwise_ne, List.pairwise_map] at h1
    rw [List.nodup_iff_pairwise_ne]
    exact h1.imp (fun q e => q (by rw [e]))
  have hndA : ((reachG l [id]).map (cmOf l)).Nodup := by
    rw [List.nodup_iff_pairwise_ne, List.pairwise_map] at hA
    rw [List.nodup_iff_pairwise_ne]
    exact hA.imp (fun q e => q (by rw [e]))
  have hbeh : ∀ b, b ∈ (reachG l [id]).map (cmOf l) → b ∉ P → b ∈ Q ∨ ∃ q ∈ Q, leC q b := by
    intro b hb hbP
    obtain ⟨hb1, hb2⟩ := (hinA b).1 hb
    by_cases hm : b.id ∈ met
    · left
      obtain ⟨x, hx, hxb⟩ := List.mem_map.1 (h.perm.mem_iff.2 hm)
      have hg := h.there x hx
      rw [hxb, hb1] at hg
      injection hg with hg
      rw [← hg] at hx
      rcases List.mem_append.1 hx with q | q
      · exact absurd q hbP
      · exact q
    · right
      obtain ⟨c, hc⟩ := hb2.there.2
      have hidm : id ∈ met := (h.ask c hc).elim _root_.id (fun q => by cases q)
      obtain ⟨q, hq, ha⟩ := h.waits hm id hb2 hidm
      refine ⟨q, hq, ?_⟩
      rcases ha.gens G with e | ⟨_, c1, c2, e1, e2, e3⟩
      · exfalso
        exact hm (by rw [e]; exact h.perm.mem_iff.1 (List.mem_map.2 ⟨q, List.mem_append_right _ hq, rfl⟩))
      · rw [hb1] at e1
        rw [h.there q (List.mem_append_right _ hq)] at e2
        injection e1 with e1
        injection e2 with e2
        rw [← e1, ← e2] at e3
        exact leC_gen e3
  classical
  have hPR : (P ++ ((reachG l [id]).map (cmOf l)).filter (fun x => decide (x ∉ P))).Perm ((reachG l [id]).map (cmOf l)) := by
    rw [List.perm_ext_iff_of_nodup _ hndA]
    · intro x
      rw [List.mem_append, List.mem_filter, decide_eq_true_iff]
      constructor
      · rintro (q | q)
        · exact hPA x q
        · exact q.1
      · intro q
        by_cases hx : x ∈ P
        · exact .inl hx
        · exact .inr ⟨q, hx⟩
    · rw [List.nodup_append]
      refine ⟨hndP, List.Pairwise.sublist List.filter_sublist hndA, fun a ha b hb e => ?_⟩
      rw [List.mem_filter, decide_eq_true_iff] at hb
      rw [e] at ha
      exact hb.2 ha
  have hlog := log_of hS hSp hA h.sor (rest := ((reachG l [id]).map (cmOf l)).filter (fun x => decide (x ∉ P))) (fun a ha b hb => by
    rw [List.mem_filter, decide_eq_true_iff] at hb
    rcases hbeh b hb.1 hb.2 with q | ⟨q, hq, hle⟩
    · exact h.le a ha b q
    · exact leC_tr (h.le a ha q hq) hle) hPR
  refine ⟨hlog, fun hQ => ?_⟩
  have hnil : ((reachG l [id]).map (cmOf l)).filter (fun x => decide (x ∉ P)) = [] := by
    rw [List.filter_eq_nil_iff]
    intro b hb hn
    rw [decide_eq_true_iff] at hn
    rcases hbeh b hb hn with q | ⟨q, hq, _⟩
    · rw [hQ] at q; cases q
    · rw [hQ] at hq; cases hq
  rw [hnil, List.append_nil] at hPR
  have hlen : (sortG l false (reachG l [id])).length = P.length := by rw [hSp.length_eq, hPR.length_eq]
  rw [hlog]
  conv => lhs; rw [← hlen]
  exact List.take_length
end Go.Proofs.Ytmkafoidfgaokaa
namespace Go.Proofs.Ytmkafoidfgaokaa
open Go.RowKit Apo
/-- whether a commit is to come out ahead of another one -/
def ltQ (x y : CmA) : Bool := decide (y.c.gen < x.c.gen) || ((x.c.gen == y.c.gen) && decide (y.c.id < x.c.id))
theorem ltQ_ord : Hp.Ord ltQ := by
  constructor
  · intro x y h
    unfold ltQ at h ⊢
    simp only [Bool.or_eq_true, Bool.and_eq_true, decide_eq_true_eq, beq_iff_eq, Bool.or_eq_false_iff, Bool.and_eq_false_iff, decide_eq_false_iff_not] at h ⊢
    refine ⟨by omega, ?_⟩
    by_cases q : y.c.gen = x.c.gen
    · right; omega
    · left; simpa using q
  · intro x y z h1 h2
    unfold ltQ at h1 h2 ⊢
    simp only [Bool.or_eq_false_iff, Bool.and_eq_false_iff, decide_eq_false_iff_not, beq_eq_false_iff_ne, ne_eq] at h1 h2 ⊢
    refine ⟨by omega, ?_⟩
    by_cases q : x.c.gen = z.c.gen
    · right
      have h3 : x.c.gen = y.c.gen := by omega
      have h4 : y.c.gen = z.c.gen := by omega
      rcases h1.2 with e | e
      · exact absurd h3 e
      · rcases h2.2 with f | f
        · exact absurd h4 f
        · omega
    · exact .inl q
set_option maxRecDepth 100000 in
set_option maxHeartbeats 4000000 in
theorem less_q {w : World} {g : Nat} {d : List CmA} {ex : List Value} (h : RoC w g d ex) (n cap : Nat) (hn : n = d.length) {i j : Nat} {x y : CmA} (hi : d[i]? = some x) (hj : d[j]? = some y) :
    Calls Try.prog 106 #[.slice (some ⟨g, 0, none⟩) n cap, .int .i64 i, .int .i64 j] w fun e w' => e = .returned (.bool (ltQ x y)) ∧ ∃ q, w' = w.drewN q := by
  obtain ⟨a0, _, a2, _, _⟩ := h.cells hi
  obtain ⟨b0, _, b2, _, _⟩ := h.cells hj
  have hin : i < n := by rw [hn]; exact (List.getElem?_eq_some_iff.1 hi).1
  have hjn : j < n := by rw [hn]; exact (List.getElem?_eq_some_iff.1 hj).1
  have HE : Hid (ltQ x y = (decide (y.c.gen < x.c.gen) || ((x.c.gen == y.c.gen) && decide (y.c.id < x.c.id)))) := hide rfl
  generalize ltQ x y = R at HE ⊢
  generalize x.c.gen = xg at *
  generalize y.c.gen = yg at *
  generalize x.c.id = xi at *
  generalize y.c.id = yi at *
  clear h hn hi hj
  cases hg : (xg != yg) with
  | true =>
    have HR : Hid (R = decide (yg < xg)) := hide (by
      rw [HE.out]
      have : (xg == yg) = false := by simpa using hg
      rw [this]; simp)
    go_enter Try.func106, Try.ntmps106
    go_wp2
    go_quiet (fail)
    go_wp2
    go_quiet (fail)
    go_wp2
    go_ret
    exact ⟨by rw [HR.out]; rfl, _, World.drewN_drewN ..⟩
  | false =>
    obtain rfl : xg = yg := by simpa using hg
    have HR : Hid (R = decide (yi < xi)) := hide (by
      rw [HE.out]
      simp)
    go_enter Try.func106, Try.ntmps106
    go_wp2
    go_quiet (fail)
    go_wp2
    go_quiet (fail)
    go_wp2
    go_ret
    exact ⟨by rw [HR.out]; rfl, _, World.drewN_drewN ..⟩
attribute [local go_sem ↓] ldQ_exec stQ_exec
set_option maxRecDepth 100000 in
set_option maxHeartbeats 4000000 in
theorem swap_q {w : World} {g : Nat} {d : List CmA} {ex : List Value} (h : RoC w g d ex) (n cap : Nat) (hn : n = d.length) {i j : Nat} (hi : i < n) (hj : j < n) :
    Calls Try.prog 107 #[.slice (some ⟨g, 0, none⟩) n cap, .int .i64 i, .int .i64 j] w fun e w' => e = .returned (.tuple #[]) ∧ RoC w' g (Hp.swL d i j) ex ∧ Onl (fun k => k = g) w w' := by
  obtain ⟨x, y, S1, S2, sw⟩ := h.drew.swap (i := i) (j := j) (by omega) (by omega)
  obtain ⟨l1, l2, l3, l4, s1, s2, s3, s4, ro, on⟩ := sw
  have HF : Hid (RoC S2 g (Hp.swL d i j) ex) := hide ro
  have HO2 : Hid (Onl (fun j => j = g) w S2) := hide (((Onl.refl _ w).drew).trans on)
  unfold aggC at l2 l4 s1 s2 s3 s4
  clear ro on h hn
  go_enter Try.func107, Try.ntmps107
  go_wp2
  go_region
  go_wp2
  go_end0
  exact ⟨rfl, HF.out, HO2.out⟩
end Go.Proofs.Ytmkafoidfgaokaa
