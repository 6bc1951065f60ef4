/- Edits compared; conflict.All, Find and Without, over the translation. -/
import Derived.Test.YtjmjcmejneljgaaCSu
namespace Apo
open Go Go.RowKit
def howOk (how : Int) : Bool := decide (how = 1 ∨ how = 2 ∨ how = 3)
theorem settle_ok {how : Int} (h : howOk how = true) (c : Cl) : (settleE how c).2 = 0 := by
  simp only [howOk, decide_eq_true_eq] at h
  rcases h with rfl | rfl | rfl <;> rfl
theorem settle_bad {how : Int} (h : howOk how = false) (c : Cl) : settleE how c = (⟨⟨#[]⟩, ⟨#[]⟩, false⟩, 137) := by
  simp only [howOk, decide_eq_false_iff_not, not_or] at h
  unfold settleE sideOf
  rw [if_neg h.1, if_neg h.2.1, if_neg h.2.2]
def allE (how : Int) (l : List Cl) : List Ed × Int := match howOk how, l with
  | true, l => (l.map (fun c => (settleE how c).1), 0)
  | false, [] => ([], 0)
  | false, _ :: _ => ([], 137)
open Classical in
/-- a key's place -/
noncomputable def findC (key : ByteArray) (l : List Cl) : Int := match l.findIdx? (fun c => decide (c.k = key)) with
  | some i => i
  | none => -1
open Classical in
noncomputable def lessC (key : ByteArray) (l : List Cl) : List Cl := l.filter (fun c => !decide (c.k = key))
section
variable {P : Program} {α : Type} {c : α → List Value} {k : Nat}
/-- append(l, x) of a row of one's own -/
theorem push_G (hk : ∀ x, (c x).length = k) (hk0 : 0 < k) (h1 : ∀ x, ∀ u ∈ c x, u.oneCell' = true) {t e : TypeId} {z : Value} {by' : Nat} (hu : P.underlying t = some (.slice e)) (hi : (P.info? e).map (fun i => (i.zero, i.size, i.bytes)) = some (some z, k, by')) (hz : z.cells.size = k) (hby : by' ≤ 1000)
    {B : Nat} {W : World} {va : Option Addr} {vc : Nat} {l : List α} (h : Row (fun g => B ≤ g) W e k (.slice va l.length vc) l.length (gcells c l)) (hB : B ≤ W.heap.size) (hn : l.length + 1 ≤ 100000000) (x : α) :
    ∃ (va' : Option Addr) (vc' : Nat) (W' : World), (Builtin.append_ #[t, t] t #[.slice va l.length vc, .slice (some ⟨W.heap.size, 0, none⟩) 1 1]).run P (W.alloc (.cells (c x).toArray e)) = .ok (.slice va' (l ++ [x]).length vc') W' ∧ Row (fun g => B ≤ g) W' e k (.slice va' (l ++ [x]).length vc') (l ++ [x]).length (gcells c (l ++ [x])) ∧ Below B W W' ∧ (∀ p t ds, Ob W p t ds → t ≠ e → Ob W' p t ds) ∧ ∀ (O : Nat → Prop) (t' : TypeId) (k' n' : Nat) (v' : Value) (xs : List Value), Row O W t' k' v' n' xs → t' ≠ e → Row O W' t' k' v' n' xs := by
  obtain ⟨W1, hW1⟩ : ∃ W1, W1 = W.alloc (.cells (c x).toArray e) := ⟨_, rfl⟩
  have b1 : Below W.heap.size W W1 := by rw [hW1]; exact (Below.refl _ W).alloc (Nat.le_refl _) _
  have h2 := h.onl (w' := W1) (F := fun _ => False) (Onl.ofBelow b1) (fun _ _ q => q)
  have rd : RdG c k W1 (some ⟨W.heap.size, 0, none⟩) [x] := by rw [hW1]; exact rd_lit _ _ x
  obtain ⟨v8, w8, RR, r8, o8, _⟩ := app_G (cp := 1) hk hk0 h1 hu hi hz hby h2 (by simpa using hn) rd
  obtain ⟨va8, vc8, hva8, _⟩ := r8.form
  subst hva8
  have hs : W1.heap.size = W.heap.size + 1 := by rw [hW1, World.size_alloc]
  refine ⟨va8, vc8, w8, ?_, ⟨r8.1, fun g hg => (r8.2 g hg).elim id (fun z => by omega)⟩, Below.onl (b1.mono hB) o8 (fun i q => h2.2 i q) hB, fun p t ds q ht => ?_, fun O t' k' n' v' xs q ht => ?_⟩
  · rw [hW1] at RR
    exact RR
  · exact (q.old b1).onl o8 (Row.apartOb h2 (q.old b1) (fun e => ht e.symm))
  · have q1 := q.onl (w' := W1) (F := fun _ => False) (Onl.ofBelow b1) (fun _ _ q => q)
    exact q1.onl o8 (fun g hg z => absurd z (Row.apart q1 h2 ht g hg))
end
end Apo
namespace Go.Proofs.Ytjmjcmejneljgaa
open Go.RowKit Apo
open Classical in
set_option maxRecDepth 100000 in
theorem neqEd (f g : Ed) (w : World) : (binOp .neq 47 (.agg #[.string f.k, .string f.v, .bool f.g]) (.agg #[.string g.k, .string g.v, .bool g.g])).run Try.prog w = .ok (.bool (!decide (f = g))) w := by
  have u9 := Try.underlying9
  have u4 := Try.underlying4
  have hS : Try.prog.underlying 47 = some (.struct (Try.prog.fieldsOf 47)) := by kernel_rfl
  have hp : Try.prog.stoodInHeld 47 = false := by kernel_rfl
  rw [run_neq_struct, show (10000 : Nat) = 9999 + 1 from rfl, run_equalIn_agg w 9999 47 _ _ hS hp]
  simp only [Program.fieldsOf, Try.underlying47]
  clear hS
  go_simp
  obtain ⟨fk, fv, fg⟩ := f
  obtain ⟨gk, gv, gg⟩ := g
  simp only
  by_cases h1 : fk = gk
  · subst h1
    by_cases h2 : fv = gv
    · subst h2
      by_cases h3 : fg = gg
      · subst h3
        simp
      · simp [h3]
    · have h2' : ¬ fv.toList = gv.toList := fun e => h2 (bytes_of_list e)
      simp [h2, h2']
  · have h1' : ¬ fk.toList = gk.toList := fun e => h1 (bytes_of_list e)
    simp [h1, h1']
open Classical in
set_option maxRecDepth 100000 in
set_option maxHeartbeats 1000000 in
theorem sameEd_any (a : Option Addr) (acap : Nat) (l : List Ed) (b : Option Addr) (bcap : Nat) (m : List Ed) (w : World) (ha : RdG cEd 3 w a l) (hb : RdG cEd 3 w b m) (hl : l.length ≤ 9223372036854775807) :
    Calls Try.prog 18 #[.slice a l.length acap, .slice b m.length bcap] w fun e w' => e = .returned (.bool (decide (l = m))) ∧ Below w.heap.size w w' := by
  have hA := hide ha
  have hB := hide hb
  clear ha hb
  by_cases hlen : l.length = m.length
  · rw [← hlen]
    have HL := hide hlen
    clear hlen
    go_enter Try.func18, Try.ntmps18
    go_wp2
    go_loopw [13] (fun i wr => ∃ k : Nat, k ≤ l.length ∧ i = .int .i64 k ∧ Hid (l.take k = m.take k) ∧ Below w.heap.size w wr) (fun i _ => l.length - (intOf i).toNat)
    case atStart => exact ⟨0, Nat.zero_le _, rfl, rfl, Below.refl _ _⟩
    case round =>
      obtain ⟨k, hk, rfl, hE, hbr⟩ := hrel
      by_cases hlt : k < l.length
      · have hz : l[k]? = some l[k] := List.getElem?_eq_getElem hlt
        have hlt2 : k < m.length := by rw [← HL.out]; exact hlt
        have hy : m[k]? = some m[k] := List.getElem?_eq_getElem hlt2
        generalize l[k] = f at hz
        generalize m[k] = g at hy
        obtain ⟨p, off, rfl, c0, c1, c2⟩ := (hA.out.below hbr).ed hz
        obtain ⟨p', off', rfl, d0, d1, d2⟩ := (hB.out.below hbr).ed hy
        have HZ := hide hz
        have HY := hide hy
        clear hz hy
        have hm : Try.prog.eqGuardType Try.prog.depth 47 = false := by kernel_rfl
        have hcmp := neqEd f g
        by_cases hfg : f = g
        · subst hfg
          simp only [decide_true, Bool.not_true] at hcmp
          have hE' : Hid (l.take (k + 1) = m.take (k + 1)) := by
            show _ = _
            rw [List.take_add_one, List.take_add_one, HZ.out, HY.out, hE.out]
          go_wp2
          go_quiet (fail)
          go_wp2
          go_roundw
          case rel => exact ⟨k + 1, by omega, by go_num, hE', below_drewN hbr _⟩
          case measure => simp [intOf]; omega
        · have hd : decide (f = g) = false := by simp [hfg]
          simp only [hd, Bool.not_false] at hcmp
          have hE' : Hid (l ≠ m) := by
            intro e
            have h1 := HZ.out
            rw [e, HY.out] at h1
            exact hfg (by cases h1; rfl)
          go_wp2
          go_quiet (fail)
          go_wp2
          go_ret
          exact ⟨by simp [hE'.out], below_drewN hbr _⟩
      · have hE' : Hid (l = m) := by
          have h1 := hE.out
          rw [List.take_of_length_le (by omega), List.take_of_length_le (by rw [← HL.out]; omega)] at h1
          exact h1
        go_wp2
        go_ret
        exact ⟨by simp [hE'.out], hbr⟩
  · have hne : l ≠ m := fun e => hlen (by rw [e])
    have hN := hide hne
    have hlb : ((l.length : Int) == (m.length : Int)) = false := by simp; omega
    clear hne
    go_enter Try.func18, Try.ntmps18
    go_wp2
    go_ret
    exact ⟨by simp [hN.out], Below.refl _ _⟩
set_option maxRecDepth 100000 in
theorem push_ed {B : Nat} {W : World} {va : Option Addr} {vc : Nat} {l : List Ed} (h : Row (fun g => B ≤ g) W 47 3 (.slice va l.length vc) l.length (gcells cEd l)) (hB : B ≤ W.heap.size) (hn : l.length + 1 ≤ 100000000) (x : Ed) :
    ∃ (va' : Option Addr) (vc' : Nat) (W' : World), (Builtin.append_ #[39, 39] 39 #[.slice va l.length vc, .slice (some ⟨W.heap.size, 0, none⟩) 1 1]).run Try.prog (W.alloc (.cells #[.string x.k, .string x.v, .bool x.g] 47)) = .ok (.slice va' (l ++ [x]).length vc') W' ∧ Row (fun g => B ≤ g) W' 47 3 (.slice va' (l ++ [x]).length vc') (l ++ [x]).length (gcells cEd (l ++ [x])) ∧ Below B W W' ∧ (∀ p t ds, Ob W p t ds → t ≠ 47 → Ob W' p t ds) ∧ ∀ (O : Nat → Prop) (t' : TypeId) (k' n' : Nat) (v' : Value) (xs : List Value), Row O W t' k' v' n' xs → t' ≠ 47 → Row O W' t' k' v' n' xs :=
  push_G (P := Try.prog) cEd_len (by decide) cEd_one Try.underlying39 info_ed rfl (by decide) h hB hn x
set_option maxRecDepth 100000 in
theorem push_cl {B : Nat} {W : World} {va : Option Addr} {vc : Nat} {l : List Cl} (h : Row (fun g => B ≤ g) W 45 7 (.slice va l.length vc) l.length (gcells cCl l)) (hB : B ≤ W.heap.size) (hn : l.length + 1 ≤ 100000000) (x : Cl) :
    ∃ (va' : Option Addr) (vc' : Nat) (W' : World), (Builtin.append_ #[22, 22] 22 #[.slice va l.length vc, .slice (some ⟨W.heap.size, 0, none⟩) 1 1]).run Try.prog (W.alloc (.cells #[.string x.k, .bool x.a.b, .string x.a.v, .bool x.b.b, .string x.b.v, .bool x.c.b, .string x.c.v] 45)) = .ok (.slice va' (l ++ [x]).length vc') W' ∧ Row (fun g => B ≤ g) W' 45 7 (.slice va' (l ++ [x]).length vc') (l ++ [x]).length (gcells cCl (l ++ [x])) ∧ Below B W W' ∧ (∀ p t ds, Ob W p t ds → t ≠ 45 → Ob W' p t ds) ∧ ∀ (O : Nat → Prop) (t' : TypeId) (k' n' : Nat) (v' : Value) (xs : List Value), Row O W t' k' v' n' xs → t' ≠ 45 → Row O W' t' k' v' n' xs :=
  push_G (P := Try.prog) cCl_len (by decide) cCl_one Try.underlying22 info_cl rfl (by decide) h hB hn x
attribute [local go_sem ↓] Apo.app_exec
/-- what All tells -/
def AlP (how : Int) (l : List Cl) (w : World) (e : Ending) (w' : World) : Prop := ∃ (a : Option Addr) (c : Nat), e = .returned (.tuple #[.slice a (allE how l).1.length c, .int .i64 (allE how l).2]) ∧ Row (fun g => w.heap.size ≤ g) w' 47 3 (.slice a (allE how l).1.length c) (allE how l).1.length (gcells cEd (allE how l).1) ∧ Below w.heap.size w w'
set_option maxRecDepth 100000 in
set_option maxHeartbeats 4000000 in
theorem all_any (w : World) (how : Int) (a : Option Addr) (ac : Nat) (l : List Cl) (h : RdG cCl 7 w a l) (hl : l.length ≤ 1000000) : Calls Try.prog 15 #[.slice a l.length ac, .int .i64 how] w (AlP how l w) := by
  have HP : Hid (∀ (es : List Ed) (er : Int) (x : Option Addr) (c : Nat) (w' : World), allE how l = (es, er) → Row (fun g => w.heap.size ≤ g) w' 47 3 (.slice x es.length c) es.length (gcells cEd es) → Below w.heap.size w w' → AlP how l w (.returned (.tuple #[.slice x es.length c, .int .i64 er])) w') := hide (fun es er x c w' e r b => by
    unfold AlP
    rw [e]
    exact ⟨x, c, rfl, r, b⟩)
  generalize AlP how l w = Q at HP ⊢
  have HR := hide h
  obtain ⟨n, hn⟩ : ∃ n, n = l.length := ⟨_, rfl⟩
  rw [← hn] at hl ⊢
  have HN := hide hn
  clear h hn
  cases q : howOk how with
  | true =>
    have HOK := hide q
    clear q
    go_enter Try.func15, Try.ntmps15
    go_wp2
    go_loopw [6, 13] (fun v i wr => ∃ (k m : Nat) (x : Option Addr) (c : Nat), k ≤ n ∧ i = .int .i64 k ∧ v = .slice x m c ∧ Hid (m = k) ∧ Hid (Row (fun g => w.heap.size ≤ g) wr 47 3 (.slice x m c) m (gcells cEd ((l.take k).map (fun c => (settleE how c).1)))) ∧ Hid (Below w.heap.size w wr)) (fun _ i _ => n - (intOf i).toNat)
    case atStart => exact ⟨0, 0, none, 0, Nat.zero_le _, rfl, rfl, hide rfl, hide (by simpa [gcells] using Row.nil _ _ _ _), hide (Below.refl _ _)⟩
    case round =>
      obtain ⟨k, m, x, c, hk, rfl, rfl, HM, HRow, HB⟩ := hrel
      have hs := HB.out.size
      by_cases hlt : k < n
      · obtain ⟨f, hz⟩ : ∃ f, l[k]? = some f := ⟨l[k]'(by have := HN.out; omega), List.getElem?_eq_getElem _⟩
        obtain ⟨p, off, rfl, c0, c1, c2, c3, c4, c5, c6⟩ := (HR.out.below (HB.out.mono (Nat.le_refl _))).cl hz
        obtain ⟨W1, hW1⟩ : ∃ W1, W1 = wr.alloc (.cells #[.string f.k, .bool f.a.b, .string f.a.v, .bool f.b.b, .string f.b.v, .bool f.c.b, .string f.c.v] 45) := ⟨_, rfl⟩
        have b1 : Below wr.heap.size wr W1 := by rw [hW1]; exact (Below.refl _ wr).alloc (Nat.le_refl _) _
        have HC := hide (settle_any how f W1)
        simp only [Cl.val] at HC
        have hst := settle_ok HOK.out f
        have HZ := hide hz
        have HB1 := hide b1
        clear hz b1
        rw [hW1] at HC
        go_wp2_with fail
        refine HC.out.mono ?_
        rintro e w2 ⟨rfl, u2⟩
        rw [hst]
        obtain ⟨E, hE⟩ : ∃ E, E = (settleE how f).1 := ⟨_, rfl⟩
        rw [← hE]
        have HE := hide hE
        obtain ⟨W3, hW3⟩ : ∃ W3, W3 = w2.alloc (.cells #[.string E.k, .string E.v, .bool E.g] 47) := ⟨_, rfl⟩
        rw [← hW1] at u2
        have u3 : Below wr.heap.size wr W3 := by rw [hW3]; exact (HB1.out.trans (u2.mono HB1.out.size)).alloc (HB1.out.trans (u2.mono HB1.out.size)).size _
        have r3 := HRow.out.onl (w' := W3) (F := fun _ => False) (Onl.ofBelow u3) (fun _ _ q => q)
        have hmm : m = ((l.take k).map (fun c => (settleE how c).1)).length := by rw [HM.out, List.length_map, List.length_take, ← HN.out]; omega
        rw [hmm] at r3
        obtain ⟨va', vc', W4, RR, r4, b4, -⟩ := push_ed r3 (by have := u3.size; omega) (by rw [← hmm]; have := HM.out; omega) E
        have hlen : (((l.take k).map (fun c => (settleE how c).1)) ++ [E]).length = k + 1 := by rw [List.length_append, ← hmm, HM.out]; rfl
        rw [hlen] at RR r4
        rw [← hmm] at RR
        obtain ⟨s1, s2, s3⟩ := app_runs RR
        have HR4 : Hid (Row (fun g => w.heap.size ≤ g) W4 47 3 (.slice va' (k + 1) vc') (k + 1) (gcells cEd ((l.take (k + 1)).map (fun c => (settleE how c).1)))) := by
          refine hide ?_
          rw [List.take_add_one, HZ.out, List.map_append]
          simp only [Option.toList_some, List.map_cons, List.map_nil, ← HE.out]
          exact r4
        have HB4 : Hid (Below w.heap.size w W4) := hide ((HB.out.trans (u3.mono hs)).trans b4)
        clear u2 HC hst hE RR r4 b4 r3 u3 hmm hlen
        rw [hW3] at s1 s2 s3
        simp only [World.size_alloc] at s1 s2 s3
        clear hW3 W3
        go_wp2
        go_roundw
        case rel => exact ⟨k + 1, k + 1, va', vc', by omega, by go_num, rfl, hide rfl, HR4, HB4⟩
        case measure => simp [intOf]; omega
      · obtain rfl : k = n := by omega
        have et : l.take k = l := by rw [HN.out]; exact List.take_length
        rw [et] at HRow
        have HF : Hid (Q (.returned (.tuple #[.slice x m c, .int .i64 0])) wr) := by
          have hmm : m = (l.map (fun c => (settleE how c).1)).length := by rw [HM.out, List.length_map, HN.out]
          have r := HRow.out
          rw [hmm] at r ⊢
          refine hide (HP.out _ 0 x c wr ?_ r HB.out)
          unfold allE
          rw [HOK.out]
        go_wp2
        exact HF.out
  | false =>
    cases hl0 : l with
    | nil =>
      have hn0 : n = 0 := by rw [HN.out, hl0]; rfl
      subst hn0
      have HF : Hid (Q (.returned (.tuple #[.slice none 0 0, .int .i64 0])) w) := hide (HP.out [] 0 none 0 w (by unfold allE; rw [q, hl0]) (Row.nil _ _ _ _) (Below.refl _ _))
      clear hl0 HN HR
      go_enter Try.func15, Try.ntmps15
      go_wp2
      go_loopw [6, 13] (fun v i wr => v = .slice none 0 0 ∧ i = .int .i64 0 ∧ wr = w) (fun _ _ _ => 0)
      case atStart => exact ⟨rfl, rfl, rfl⟩
      case round =>
        obtain ⟨rfl, rfl, rfl⟩ := hrel
        go_wp2
        exact HF.out
    | cons f l' =>
      have hz : l[0]? = some f := by rw [hl0]; rfl
      have hn0 : 0 < n := by rw [HN.out, hl0]; simp
      obtain ⟨p, off, rfl, c0, c1, c2, c3, c4, c5, c6⟩ := HR.out.cl hz
      have HQ : Hid (∀ w', Below w.heap.size w w' → Q (.returned (.tuple #[.slice none 0 0, .int .i64 137])) w') := hide (fun w' b => HP.out [] 137 none 0 w' (by unfold allE; rw [q, hl0]) (Row.nil _ _ _ _) b)
      have HST := hide (settle_bad q)
      clear hl0 hz q
      go_enter Try.func15, Try.ntmps15
      go_wp2
      go_loopw [13] (fun i wr => i = .int .i64 0 ∧ wr = w) (fun _ _ => 0)
      case atStart => exact ⟨rfl, rfl⟩
      case round =>
        obtain ⟨rfl, rfl⟩ := hrel
        simp only [Nat.zero_mul, Nat.add_zero] at c0 c1 c2 c3 c4 c5 c6
        have b1 := (Below.refl _ wr).alloc (Nat.le_refl _) (.cells #[.string f.k, .bool f.a.b, .string f.a.v, .bool f.b.b, .string f.b.v, .bool f.c.b, .string f.c.v] 45)
        have HC := hide (settle_any how f (wr.alloc (.cells #[.string f.k, .bool f.a.b, .string f.a.v, .bool f.b.b, .string f.b.v, .bool f.c.b, .string f.c.v] 45)))
        simp only [Cl.val] at HC
        have HB1 := hide b1
        clear b1
        go_wp2_with fail
        refine HC.out.mono ?_
        rintro e w2 ⟨rfl, u2⟩
        rw [HST.out f]
        have u3 := HB1.out.trans (u2.mono HB1.out.size)
        have HF := hide (HQ.out _ (u3.alloc u3.size (.cells #[.string ⟨#[]⟩, .string ⟨#[]⟩, .bool false] 47)))
        clear u2 u3 HC
        go_wp2
        exact HF.out
open Classical in
theorem findC_end {key : ByteArray} {l : List Cl} (h : ∀ c ∈ l, c.k ≠ key) : findC key l = -1 := by
  unfold findC
  rw [List.findIdx?_eq_none_iff.2 (fun c hc => by simp [h c hc])]
open Classical in
theorem findC_at {key : ByteArray} {l : List Cl} {i : Nat} {c : Cl} (h : l[i]? = some c) (hk : c.k = key) (hp : ∀ c ∈ l.take i, c.k ≠ key) : findC key l = i := by
  obtain ⟨hi, hc⟩ := List.getElem?_eq_some_iff.1 h
  have : l.findIdx? (fun c => decide (c.k = key)) = some i := by
    rw [List.findIdx?_eq_some_iff_getElem]
    refine ⟨hi, by simp [hc, hk], fun j hj => ?_⟩
    have hm : l[j] ∈ l.take i := by
      rw [List.mem_take_iff_getElem]
      exact ⟨j, by omega, rfl⟩
    simp [hp _ hm]
  unfold findC
  rw [this]
open Classical in
set_option maxRecDepth 100000 in
set_option maxHeartbeats 4000000 in
theorem find_any (w : World) (a : Option Addr) (ac : Nat) (l : List Cl) (key : ByteArray) (h : RdG cCl 7 w a l) (hl : l.length ≤ 1000000) : Calls Try.prog 19 #[.slice a l.length ac, .string key] w fun e w' => e = .returned (.int .i64 (findC key l)) ∧ Below w.heap.size w w' := by
  have HR := hide h
  obtain ⟨F, hF⟩ : ∃ F, F = findC key l := ⟨_, rfl⟩
  rw [← hF]
  obtain ⟨n, hn⟩ : ∃ n, n = l.length := ⟨_, rfl⟩
  rw [← hn] at hl ⊢
  have HN := hide hn
  have HF := hide hF
  clear h hn hF
  go_enter Try.func19, Try.ntmps19
  go_wp2
  go_loopw [9] (fun i wr => ∃ k : Nat, k ≤ n ∧ i = .int .i64 k ∧ Hid (∀ c ∈ l.take k, c.k ≠ key) ∧ Hid (Below w.heap.size w wr)) (fun i _ => n - (intOf i).toNat)
  case atStart => exact ⟨0, Nat.zero_le _, rfl, hide (by simp), hide (Below.refl _ _)⟩
  case round =>
    obtain ⟨k, hk, rfl, HK, HB⟩ := hrel
    have hs := HB.out.size
    by_cases hlt : k < n
    · obtain ⟨f, hz⟩ : ∃ f, l[k]? = some f := ⟨l[k]'(by have := HN.out; omega), List.getElem?_eq_getElem _⟩
      obtain ⟨p, off, rfl, c0, c1, c2, c3, c4, c5, c6⟩ := (HR.out.below HB.out).cl hz
      have HB1 := hide (HB.out.alloc hs (.cells #[.string f.k, .bool f.a.b, .string f.a.v, .bool f.b.b, .string f.b.v, .bool f.c.b, .string f.c.v] 45))
      by_cases hq : f.k = key
      · have d1 : (f.k.toList == key.toList) = true := by simp [hq]
        have d2 : f.k.toList = key.toList := by rw [hq]
        have HE : Hid (F = (k : Int)) := hide (by rw [HF.out]; exact findC_at hz hq HK.out)
        clear hz hq
        go_wp2
        go_ret
        exact ⟨by rw [HE.out]; rfl, HB1.out⟩
      · have d1 : (f.k.toList == key.toList) = false := by
          rw [beq_eq_false_iff_ne]
          exact fun e => hq (bytes_of_list e)
        have d2 : ¬ f.k.toList = key.toList := fun e => hq (bytes_of_list e)
        have HK1 : Hid (∀ c ∈ l.take (k + 1), c.k ≠ key) := by
          refine hide (fun c hc => ?_)
          rw [List.take_add_one, hz] at hc
          rcases List.mem_append.1 hc with q | q
          · exact HK.out c q
          · simp at q
            rw [q]
            exact hq
        clear hz hq
        go_wp2
        go_roundw
        case rel => exact ⟨k + 1, by omega, by go_num, HK1, HB1⟩
        case measure => simp [intOf]; omega
    · obtain rfl : k = n := by omega
      have HE : Hid (F = -1) := by
        have et : l.take k = l := by rw [HN.out]; exact List.take_length
        have := HK.out
        rw [et] at this
        exact hide (by rw [HF.out]; exact findC_end this)
      go_wp2
      go_ret
      exact ⟨by rw [HE.out]; rfl, HB.out⟩
/-- clashes handed out in a row of their own -/
def CsP (m : List Cl) (w : World) (e : Ending) (w' : World) : Prop := ∃ (a : Option Addr) (c : Nat), e = .returned (.slice a m.length c) ∧ Row (fun g => w.heap.size ≤ g) w' 45 7 (.slice a m.length c) m.length (gcells cCl m) ∧ Below w.heap.size w w'
open Classical in
set_option maxRecDepth 100000 in
set_option maxHeartbeats 4000000 in
theorem without_any (w : World) (a : Option Addr) (ac : Nat) (l : List Cl) (key : ByteArray) (h : RdG cCl 7 w a l) (hl : l.length ≤ 1000000) : Calls Try.prog 20 #[.slice a l.length ac, .string key] w (CsP (lessC key l) w) := by
  have HP : Hid (∀ (x : Option Addr) (c : Nat) (w' : World), Row (fun g => w.heap.size ≤ g) w' 45 7 (.slice x (lessC key l).length c) (lessC key l).length (gcells cCl (lessC key l)) → Below w.heap.size w w' → CsP (lessC key l) w (.returned (.slice x (lessC key l).length c)) w') := hide (fun x c w' r b => ⟨x, c, rfl, r, b⟩)
  generalize CsP (lessC key l) w = Q at HP ⊢
  have HR := hide h
  obtain ⟨n, hn⟩ : ∃ n, n = l.length := ⟨_, rfl⟩
  rw [← hn] at hl ⊢
  have HN := hide hn
  clear h hn
  go_enter Try.func20, Try.ntmps20
  go_wp2
  go_loopw [5, 10] (fun v i wr => ∃ (k m : Nat) (x : Option Addr) (c : Nat), k ≤ n ∧ i = .int .i64 k ∧ v = .slice x m c ∧ Hid (m = (lessC key (l.take k)).length) ∧ Hid (Row (fun g => w.heap.size ≤ g) wr 45 7 (.slice x m c) m (gcells cCl (lessC key (l.take k)))) ∧ Hid (Below w.heap.size w wr)) (fun _ i _ => n - (intOf i).toNat)
  case atStart => exact ⟨0, 0, none, 0, Nat.zero_le _, rfl, rfl, hide rfl, hide (by simpa [gcells, lessC] using Row.nil _ _ _ _), hide (Below.refl _ _)⟩
  case round =>
    obtain ⟨k, m, x, c, hk, rfl, rfl, HM, HRow, HB⟩ := hrel
    have hs := HB.out.size
    by_cases hlt : k < n
    · obtain ⟨f, hz⟩ : ∃ f, l[k]? = some f := ⟨l[k]'(by have := HN.out; omega), List.getElem?_eq_getElem _⟩
      obtain ⟨p, off, rfl, c0, c1, c2, c3, c4, c5, c6⟩ := (HR.out.below HB.out).cl hz
      obtain ⟨W1, hW1⟩ : ∃ W1, W1 = wr.alloc (.cells #[.string f.k, .bool f.a.b, .string f.a.v, .bool f.b.b, .string f.b.v, .bool f.c.b, .string f.c.v] 45) := ⟨_, rfl⟩
      have b1 : Below wr.heap.size wr W1 := by rw [hW1]; exact (Below.refl _ wr).alloc (Nat.le_refl _) _
      have r1 := HRow.out.onl (w' := W1) (F := fun _ => False) (Onl.ofBelow b1) (fun _ _ q => q)
      have B1 := HB.out.trans (b1.mono hs)
      by_cases hq : f.k = key
      · have d1 : (f.k.toList == key.toList) = true := by simp [hq]
        have d2 : f.k.toList = key.toList := by rw [hq]
        have d3 : (f.k.toList != key.toList) = false := by simp [hq]
        have he : lessC key (l.take (k + 1)) = lessC key (l.take k) := by
          rw [List.take_add_one, hz]
          simp [lessC, hq]
        have HM1 : Hid (m = (lessC key (l.take (k + 1))).length) := hide (by rw [he]; exact HM.out)
        rw [← he] at r1
        have HR1 := hide r1
        have HB1 := hide B1
        clear hz hq r1 B1 b1 he
        rw [hW1] at HR1 HB1
        clear hW1
        go_wp2
        go_roundw
        case rel => exact ⟨k + 1, m, x, c, by omega, by go_num, rfl, HM1, HR1, HB1⟩
        case measure => simp [intOf]; omega
      · have d1 : (f.k.toList == key.toList) = false := by
          rw [beq_eq_false_iff_ne]
          exact fun e => hq (bytes_of_list e)
        have d2 : ¬ f.k.toList = key.toList := fun e => hq (bytes_of_list e)
        have d3 : (f.k.toList != key.toList) = true := by simp [d2]
        have he : lessC key (l.take (k + 1)) = lessC key (l.take k) ++ [f] := by
          rw [List.take_add_one, hz]
          simp [lessC, hq]
        have hml : m ≤ n := by
          have h1 := List.length_filter_le (fun c : Cl => !decide (c.k = key)) (l.take k)
          have h2 := HM.out
          unfold lessC at h2
          rw [List.length_take] at h1
          omega
        rw [HM.out] at r1
        obtain ⟨va', vc', W4, RR, r4, b4, -⟩ := push_cl r1 (by have := b1.size; omega) (by have := HM.out; omega) f
        rw [← HM.out] at RR
        rw [← he] at RR r4
        obtain ⟨s1, s2, s3⟩ := app_runs RR
        obtain ⟨m', hm'⟩ : ∃ m', m' = (lessC key (l.take (k + 1))).length := ⟨_, rfl⟩
        rw [← hm'] at s2 r4
        have HM1 := hide hm'
        have HR4 := hide r4
        have HB4 : Hid (Below w.heap.size w W4) := hide (B1.trans b4)
        clear RR r4 b4 r1 B1 b1 he hm' hz hq hml
        rw [hW1] at s1 s2 s3
        simp only [World.size_alloc] at s1 s2 s3
        clear hW1
        go_wp2
        go_roundw
        case rel => exact ⟨k + 1, m', va', vc', by omega, by go_num, rfl, HM1, HR4, HB4⟩
        case measure => simp [intOf]; omega
    · obtain rfl : k = n := by omega
      have et : l.take k = l := by rw [HN.out]; exact List.take_length
      rw [et] at HRow HM
      have HF : Hid (Q (.returned (.slice x m c)) wr) := by
        have r := HRow.out
        rw [HM.out] at r ⊢
        exact hide (HP.out x c wr r HB.out)
      go_wp2
      exact HF.out
end Go.Proofs.Ytjmjcmejneljgaa
