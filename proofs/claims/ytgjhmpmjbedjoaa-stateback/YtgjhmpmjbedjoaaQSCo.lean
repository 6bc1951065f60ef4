/- What the program must be shown to do; a new state; law 17's awake. Over the translation. -/
import Derived.Test.YtgjhmpmjbedjoaaQSSm
import Derived.Test.YtgjhmpmjbedjoaaQSPv
import Derived.Test.YtgjhmpmjbedjoaaQSXo
import Derived.Test.YtgjhmpmjbedjoaaQSBk
import Derived.Test.YtgjhmpmjbedjoaaQSLw
namespace Go.Proofs.Ytgjhmpmjbedjoaa
open Go.RowKit Apo
theorem clashE_nil : clashE [] = 0 := clashE_zero (fun j hj => by simp at hj)
theorem putC_nil : (putC []).2 = 0 := by
  unfold putC
  rw [if_neg (by rw [clashE_nil]; simp), if_neg (by simp)]
/-- a new state -/
def newS : Sv := ⟨⟨#[109, 97, 105, 110]⟩, 0, 1, 0, [⟨⟨#[109, 97, 105, 110]⟩, false, 0⟩], [], []⟩
theorem refB_new : refB newS 0 ⟨⟨#[109, 97, 105, 110]⟩, false, 0⟩ = false := by kernel_rfl
theorem headB_new : headB newS = true := by kernel_rfl
theorem stateE_new : stateE newS = 0 := stateE_ok (fun i r hi => by
    cases i with
    | zero => simp only [newS, List.getElem?_cons_zero, Option.some.injEq] at hi; subst hi; exact refB_new
    | succ i => simp [newS] at hi) (fun i m hi => by simp [newS] at hi) (by
    unfold finB
    rw [headB_new]
    simp only [newS, clashE_nil]
    rfl)
theorem putS_new : (putS newS).2 = 0 := by rw [putS_fine stateE_new putC_nil]
theorem InB.flat {α : Type} {f : α → List Int} {l : List α} (h : ∀ x ∈ l, InB (f x)) : InB (l.flatMap f) := fun z hz => by
  rw [List.mem_flatMap] at hz
  obtain ⟨x, hx, h2⟩ := hz
  exact h x hx z h2
theorem flat_len {α : Type} {f : α → List Int} {K : Nat} : ∀ {l : List α}, (∀ x ∈ l, (f x).length ≤ K) → (l.flatMap f).length ≤ K * l.length
  | [], _ => by simp
  | x :: l, h => by
    have h1 := h x (by simp)
    have h2 := flat_len (f := f) (K := K) (l := l) (fun y hy => h y (by simp [hy]))
    rw [List.flatMap_cons, List.length_append, List.length_cons, Nat.mul_succ]
    omega
theorem u64_enc {z : Int} (h : u64B z) : InB (enc z.toNat) := enc_byte (by obtain ⟨h0, h1⟩ := h; unfold top; omega)
/-- numbers of a state are numbers -/
structure Sv.Nz (s : Sv) : Prop where
  n3 : u64B s.wk ∧ u64B s.nx ∧ u64B s.pd
  ri : ∀ r ∈ s.rf, u64B r.i
  mi : ∀ m ∈ s.md, u64B m.id ∧ u64B m.ch
theorem SvR.numz {w : World} {x : SvA} (h : SvR w x) : x.s.Nz := ⟨h.nz, h.ri, h.mi⟩
theorem newS_nz : newS.Nz := ⟨by simp [newS, u64B], fun r hr => by simp [newS] at hr; subst hr; simp [u64B], fun m hm => by simp [newS] at hm⟩
theorem putS_byte {s : Sv} (z : s.Nz) : InB (putS s).1 := by
  by_cases h : (putS s).2 = 0
  · obtain ⟨h1, h2⟩ := putS_zero h
    obtain ⟨e1, e2, e3, e4, _⟩ := stateE_small h1
    have e6 := putC_zero h2
    have e7 := putC_byte (l := s.cl) (by have := putC_few h2; unfold top; omega)
    rw [putS_fine h1 h2, stB_row]
    have hf : ∀ b, InB (flB b) := fun b => by cases b <;> (intro z hz; simp [flB] at hz; omega)
    exact InB.app (InB.text _ (by unfold top; omega)) (InB.app (u64_enc z.n3.1) (InB.app (u64_enc z.n3.2.1) (InB.app (u64_enc z.n3.2.2) (InB.app (enc_byte (by unfold top; omega)) (InB.app (InB.flat fun r hr => InB.app (InB.app (InB.text _ (by have := e4 r hr; unfold top; omega)) (hf _)) (u64_enc (z.ri r hr))) (InB.app (enc_byte (by unfold top; omega)) (InB.app (InB.flat fun m hm => InB.app (u64_enc (z.mi m hm).1) (u64_enc (z.mi m hm).2)) (InB.app (enc_byte (by unfold top; omega)) e7))))))))
  · rw [putS_no h]
    intro z hz
    simp at hz
theorem putS_small {s : Sv} (hc : (putC s.cl).1.length ≤ 30000) : (putS s).1.length ≤ 100000 := by
  by_cases h : (putS s).2 = 0
  · obtain ⟨h1, h2⟩ := putS_zero h
    obtain ⟨e1, e2, e3, e4, _⟩ := stateE_small h1
    rw [putS_fine h1 h2, stB_row]
    have e := fun n : Nat => (enc_len n).2
    have f1 := flat_len (f := rfB) (K := 50) (l := s.rf) (fun r hr => by
      have := e4 r hr
      have := e r.n.size
      have := e r.i.toNat
      have := nums_length r.n
      unfold rfB
      simp only [List.length_append, flB_len]
      omega)
    have f2 := flat_len (f := mdB) (K := 50) (l := s.md) (fun m hm => by
      have := e m.id.toNat
      have := e m.ch.toNat
      unfold mdB
      simp only [List.length_append]
      omega)
    have := e s.hd.size
    have := e s.wk.toNat
    have := e s.nx.toNat
    have := e s.pd.toNat
    have := e s.rf.length
    have := e s.md.length
    have := e (putC s.cl).1.length
    have := nums_length s.hd
    simp only [List.length_append]
    omega
  · rw [putS_no h]
    simp
theorem ofS_few (b : List Int) : (ofS b).1.cl.length ≤ 1000 := by
  unfold ofS finS
  dsimp only
  split
  · exact (ofC_sz _).2
  · simp [zeroSv]
theorem stB_new : (putS newS).1.length ≤ 100000 := putS_small (by
  have h := putC_small (l := []) (by simp) (fun c hc => by simp at hc)
  exact h)
/-- the program's new state -/
def NsP (w : World) (e : Ending) (w' : World) : Prop := ∃ x : SvA, e = .returned (.agg (cSv x).toArray) ∧ x.s = newS ∧ SvR w' x ∧ Below w.heap.size w w'
open Classical in
/-- what the program must be shown to do -/
structure StDo : Prop where
  new : ∀ w, Calls Try.prog 18 #[] w (NsP w)
  right : ∀ (x : SvA) (w : World), SvR w x → x.s.cl.length ≤ 1000000 → Calls Try.prog 12 #[.agg (cSv x).toArray] w fun e w' => e = .returned (.int .i64 (stateE x.s)) ∧ Below w.heap.size w w'
  find : ∀ (x : SvA) (id : Int) (w : World), SvR w x → Calls Try.prog 10 #[.agg (cSv x).toArray, .int .u64 id] w fun e w' => e = .returned (.tuple #[.int .u64 (chG x.s.md id), .bool (madeG x.s.md id).isSome]) ∧ Below w.heap.size w w'
  put : ∀ (x : SvA) (w : World), SvR w x → x.s.cl.length ≤ 1000000 → Calls Try.prog 8 #[.agg (cSv x).toArray] w (PdS w x.s)
  of : ∀ (a : Option Addr) (cap : Nat) (b : List Int) (w : World), Rd .u8 w a b → b.length ≤ cap → (a = none → cap = 0) → InB b → b.length ≤ 1000000 → Calls Try.prog 16 #[.slice a b.length cap] w (OsP w b)
  same : ∀ (x y : SvA) (w : World), SvR w x → SvR w y → Calls Try.prog 14 #[.agg (cSv x).toArray, .agg (cSv y).toArray] w fun e w' => e = .returned (.bool (decide (x.s = y.s))) ∧ Below w.heap.size w w'
set_option maxRecDepth 100000 in
set_option maxHeartbeats 4000000 in
theorem awake17 (D : StDo) (w : World) : Calls Try.prog 6 #[] w fun e w' => e = .returned (.bool true) ∧ Below w.heap.size w w' := by
  have HN := hide (D.new w)
  have HD := hide D
  clear D
  go_enter Try.func6, Try.ntmps6
  go_wp2_with fail
  refine HN.out.mono ?_
  rintro e w1 ⟨⟨s, ra, rc, ma, mc, ca, cc⟩, rfl, hx, hr, b1⟩
  simp only at hx
  subst hx
  have HP : Hid (Calls Try.prog 8 #[.agg #[.string ⟨#[109, 97, 105, 110]⟩, .int .u64 0, .int .u64 1, .int .u64 0, .slice ra 1 rc, .slice ma 0 mc, .slice ca 0 cc]] w1 (PdS w1 newS)) := hide (HD.out.put _ w1 hr (by simp [newS]))
  have HB1 := hide b1
  rw [show cSv ⟨newS, ra, rc, ma, mc, ca, cc⟩ = [.string ⟨#[109, 97, 105, 110]⟩, .int .u64 0, .int .u64 1, .int .u64 0, .slice ra 1 rc, .slice ma 0 mc, .slice ca 0 cc] from rfl]
  clear hr b1 HN
  go_wp2_with fail
  refine HP.out.mono ?_
  rintro e w2 ⟨v, rfl, r2, b2⟩
  have HB2 := hide (HB1.out.trans (b2.mono HB1.out.size))
  have hpb := putS_byte newS_nz
  have hps := stB_new
  have HOF := hide (ofS_put newS_nz.n3 newS_nz.ri newS_nz.mi putS_new)
  rw [putS_new]
  obtain ⟨PB, hPB⟩ : ∃ PB, PB = (putS newS).1 := ⟨_, rfl⟩
  rw [← hPB] at r2 HOF hpb hps
  unfold RwB at r2
  obtain ⟨qa, qc, hq, hqc, hqn⟩ := own_form r2.1
  subst hq
  have rd := (Rd.own r2.1).1
  have HO := hide (HD.out.of qa qc PB w2 rd hqc hqn hpb (by omega))
  obtain ⟨pn, hpn⟩ : ∃ pn, pn = PB.length := ⟨_, rfl⟩
  rw [← hpn] at HO ⊢
  clear r2 b2 rd hpb hps hqc hqn HP HB1 hPB hpn HD
  go_wp2_with fail
  refine HO.out.mono ?_
  rintro e w3 ⟨⟨s, ra, rc, ma, mc, ca, cc⟩, rfl, hx, hr, b3⟩
  simp only at hx
  rw [HOF.out] at hx ⊢
  simp only at hx ⊢
  subst hx
  rw [show cSv ⟨newS, ra, rc, ma, mc, ca, cc⟩ = [.string ⟨#[109, 97, 105, 110]⟩, .int .u64 0, .int .u64 1, .int .u64 0, .slice ra 1 rc, .slice ma 0 mc, .slice ca 0 cc] from rfl]
  have hs3 := (HB2.out.trans (b3.mono HB2.out.size)).size
  have HF := hide ((HB2.out.trans (b3.mono HB2.out.size)).alloc hs3 (.cells #[.string ⟨#[109, 97, 105, 110]⟩, .int .u64 0, .int .u64 1, .int .u64 0, .slice ra 1 rc, .slice ma 0 mc, .slice ca 0 cc] 27))
  clear hr b3 HO HOF
  go_wp2
  go_ret
  exact ⟨rfl, HF.out⟩
end Go.Proofs.Ytgjhmpmjbedjoaa
