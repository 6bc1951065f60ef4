/- Clashes in memory; the document's SameClashes, over the translation. -/
import Derived.Test.YtoneedobhopkkaaMPr
namespace Apo
open Go Go.RowKit
theorem RdG.cl {w : World} {a : Option Addr} {l : List Cl} (h : RdG cCl 7 w a l) {i : Nat} {x : Cl} (hi : l[i]? = some x) : ∃ g o, a = some ⟨g, o, none⟩ ∧ w.cell? ⟨g, o + i * 7, none⟩ = some (.string x.k) ∧ w.cell? ⟨g, o + i * 7 + 1, none⟩ = some (.bool x.a.b) ∧ w.cell? ⟨g, o + i * 7 + 2, none⟩ = some (.string x.a.v) ∧ w.cell? ⟨g, o + i * 7 + 3, none⟩ = some (.bool x.b.b) ∧ w.cell? ⟨g, o + i * 7 + 4, none⟩ = some (.string x.b.v) ∧ w.cell? ⟨g, o + i * 7 + 5, none⟩ = some (.bool x.c.b) ∧ w.cell? ⟨g, o + i * 7 + 6, none⟩ = some (.string x.c.v) := by
  obtain ⟨g, o, h1, h2⟩ := h i x hi
  exact ⟨g, o, h1, h2 0 _ rfl, h2 1 _ rfl, h2 2 _ rfl, h2 3 _ rfl, h2 4 _ rfl, h2 5 _ rfl, h2 6 _ rfl⟩
end Apo
namespace Go.Proofs.Ytoneedobhopkkaa
open Go.RowKit Apo
set_option maxRecDepth 100000 in
theorem info_cl : (Try.prog.info? 37).map (fun i => (i.zero, i.size, i.bytes)) = some (some (.agg #[.string ByteArray.empty, .bool false, .string ByteArray.empty, .bool false, .string ByteArray.empty, .bool false, .string ByteArray.empty]), 7, 88) := by kernel_rfl
section
variable {O : Nat → Prop} {W : World} {v : Value} {y : Addr} {cp : Nat}
set_option maxRecDepth 100000 in
theorem app_cl {l xs : List Cl} (h : Row O W 37 7 v l.length (gcells cCl l)) (hn : l.length + xs.length ≤ 100000000) (hr : RdG cCl 7 W (some y) xs) :
    ∃ v' w', (Builtin.append_ #[30, 30] 30 #[v, .slice (some y) xs.length cp]).run Try.prog W = .ok v' w' ∧ Row (fun g => O g ∨ g = W.heap.size) w' 37 7 v' (l ++ xs).length (gcells cCl (l ++ xs)) ∧ Onl (fun g => v.ownBlock = some g) W w' ∧ ∀ g, v'.ownBlock = some g → v.ownBlock = some g ∨ g = W.heap.size :=
  app_G cCl_len (by decide) cCl_one Try.underlying30 info_cl rfl (by decide) h hn hr
end
/-- what came, and the clashes, in two rows -/
structure TwR (B : Nat) (W : World) (es : List En) (cs : List Cl) (va : Option Addr) (vc : Nat) (ua : Option Addr) (uc : Nat) : Prop where
  re : Row (fun g => B ≤ g) W 47 2 (.slice va es.length vc) es.length (gcells cEn es)
  rc : Row (fun g => B ≤ g) W 37 7 (.slice ua cs.length uc) cs.length (gcells cCl cs)
section
variable {B : Nat} {W W' : World} {es : List En} {cs : List Cl} {va ua : Option Addr} {vc uc : Nat}
theorem TwR.nil (B : Nat) (W : World) : TwR B W [] [] none 0 none 0 := ⟨Row.nil _ _ _ _, Row.nil _ _ _ _⟩
theorem TwR.below (h : TwR B W es cs va vc ua uc) (b : Below W.heap.size W W') : TwR B W' es cs va vc ua uc := ⟨h.re.onl (F := fun _ => False) (Onl.ofBelow b) (fun _ _ q => q), h.rc.onl (F := fun _ => False) (Onl.ofBelow b) (fun _ _ q => q)⟩
set_option maxRecDepth 100000 in
theorem TwR.en (h : TwR B W es cs va vc ua uc) (hB : B ≤ W.heap.size) (hn : es.length + 1 ≤ 100000000) (x : En) : ∃ (va' : Option Addr) (vc' : Nat) (W' : World), (Builtin.append_ #[28, 28] 28 #[.slice va es.length vc, .slice (some ⟨W.heap.size, 0, none⟩) 1 1]).run Try.prog (W.alloc (.cells #[.string x.k, .string x.v] 47)) = .ok (.slice va' (es ++ [x]).length vc') W' ∧ TwR B W' (es ++ [x]) cs va' vc' ua uc ∧ Below B W W' ∧ ∀ p t ds, Ob W p t ds → t ≠ 47 → Ob W' p t ds := by
  obtain ⟨W1, hW1⟩ : ∃ W1, W1 = W.alloc (.cells (cEn x).toArray 47) := ⟨_, rfl⟩
  have b1 : Below W.heap.size W W1 := by rw [hW1]; exact (Below.refl _ W).alloc (Nat.le_refl _) _
  have h1 := h.below b1
  have rd : RdG cEn 2 W1 (some ⟨W.heap.size, 0, none⟩) [x] := by rw [hW1]; exact rd_lit _ _ x
  obtain ⟨v8, w8, RR, r8, o8, _⟩ := app_en (cp := 1) h1.re (by simpa using hn) rd
  obtain ⟨va8, vc8, hva8, _⟩ := r8.form
  subst hva8
  have hs : W1.heap.size = W.heap.size + 1 := by rw [hW1, World.size_alloc]
  refine ⟨va8, vc8, w8, ?_, ⟨⟨r8.1, fun g hg => (r8.2 g hg).elim id (fun z => by omega)⟩, h1.rc.onl o8 (fun g hg q => absurd q (Row.apart h1.rc h1.re (by decide) g hg))⟩, Below.onl (b1.mono hB) o8 (fun i q => h1.re.2 i q) hB, fun p t ds k ht => ?_⟩
  · rw [hW1] at RR
    exact RR
  · exact (k.old b1).onl o8 (Row.apartOb h1.re (k.old b1) (fun e => ht e.symm))
set_option maxRecDepth 100000 in
theorem TwR.cl (h : TwR B W es cs va vc ua uc) (hB : B ≤ W.heap.size) (hn : cs.length + 1 ≤ 100000000) (x : Cl) : ∃ (ua' : Option Addr) (uc' : Nat) (W' : World), (Builtin.append_ #[30, 30] 30 #[.slice ua cs.length uc, .slice (some ⟨W.heap.size, 0, none⟩) 1 1]).run Try.prog (W.alloc (.cells #[.string x.k, .bool x.a.b, .string x.a.v, .bool x.b.b, .string x.b.v, .bool x.c.b, .string x.c.v] 37)) = .ok (.slice ua' (cs ++ [x]).length uc') W' ∧ TwR B W' es (cs ++ [x]) va vc ua' uc' ∧ Below B W W' ∧ ∀ p t ds, Ob W p t ds → t ≠ 37 → Ob W' p t ds := by
  obtain ⟨W1, hW1⟩ : ∃ W1, W1 = W.alloc (.cells (cCl x).toArray 37) := ⟨_, rfl⟩
  have b1 : Below W.heap.size W W1 := by rw [hW1]; exact (Below.refl _ W).alloc (Nat.le_refl _) _
  have h1 := h.below b1
  have rd : RdG cCl 7 W1 (some ⟨W.heap.size, 0, none⟩) [x] := by rw [hW1]; exact rd_lit _ _ x
  obtain ⟨v8, w8, RR, r8, o8, _⟩ := app_cl (cp := 1) h1.rc (by simpa using hn) rd
  obtain ⟨va8, vc8, hva8, _⟩ := r8.form
  subst hva8
  have hs : W1.heap.size = W.heap.size + 1 := by rw [hW1, World.size_alloc]
  refine ⟨va8, vc8, w8, ?_, ⟨h1.re.onl o8 (fun g hg q => absurd q (Row.apart h1.re h1.rc (by decide) g hg)), ⟨r8.1, fun g hg => (r8.2 g hg).elim id (fun z => by omega)⟩⟩, Below.onl (b1.mono hB) o8 (fun i q => h1.rc.2 i q) hB, fun p t ds k ht => ?_⟩
  · rw [hW1] at RR
    exact RR
  · exact (k.old b1).onl o8 (Row.apartOb h1.rc (k.old b1) (fun e => ht e.symm))
end
open Classical in
set_option maxRecDepth 100000 in
set_option maxHeartbeats 1000000 in
theorem neqCl (f g : Cl) (w : World) : (binOp .neq 37 (.agg #[.string f.k, .bool f.a.b, .string f.a.v, .bool f.b.b, .string f.b.v, .bool f.c.b, .string f.c.v]) (.agg #[.string g.k, .bool g.a.b, .string g.a.v, .bool g.b.b, .string g.b.v, .bool g.c.b, .string g.c.v])).run Try.prog w = .ok (.bool (!decide (f = g))) w := by
  have u9 := Try.underlying9
  have u4 := Try.underlying4
  have hS : Try.prog.underlying 37 = some (.struct (Try.prog.fieldsOf 37)) := by kernel_rfl
  have hp : Try.prog.stoodInHeld 37 = false := by kernel_rfl
  have hS2 : Try.prog.underlying 23 = some (.struct (Try.prog.fieldsOf 23)) := by kernel_rfl
  have hp2 : Try.prog.stoodInHeld 23 = false := by kernel_rfl
  rw [run_neq_struct, show (10000 : Nat) = 9997 + 1 + 1 + 1 from rfl]
  generalize 9997 = n
  have hsd : ∀ (b b' : Bool) (v v' : ByteArray) (w : World), (Op.equalIn (n + 1 + 1) 23 (.agg #[.bool b, .string v]) (.agg #[.bool b', .string v'])).run Try.prog w = .ok (decide ((b, v) = (b', v'))) w := fun b b' v v' w => by
    rw [run_equalIn_agg w (n + 1) 23 _ _ hS2 hp2]
    simp only [Program.fieldsOf, Try.underlying23]
    clear hS hS2
    go_simp
    by_cases h1 : b = b'
    · by_cases h2 : v = v'
      · simp [h1, h2]
      · have h2' : ¬ v.toList = v'.toList := fun e => h2 (bytes_of_list e)
        simp [h1, h2, h2']
    · simp [h1]
  rw [run_equalIn_agg w (n + 1 + 1) 37 _ _ hS hp]
  simp only [Program.fieldsOf, Try.underlying37]
  clear hS hS2 hp2
  go_simp
  obtain ⟨fk, ⟨fa, fa'⟩, ⟨fb, fb'⟩, ⟨fc, fc'⟩⟩ := f
  obtain ⟨gk, ⟨ga, ga'⟩, ⟨gb, gb'⟩, ⟨gc, gc'⟩⟩ := g
  simp only
  by_cases h1 : fk = gk
  · subst h1
    by_cases h2 : fa = ga ∧ fa' = ga'
    · obtain ⟨rfl, rfl⟩ := h2
      by_cases h3 : fb = gb ∧ fb' = gb'
      · obtain ⟨rfl, rfl⟩ := h3
        by_cases h4 : fc = gc ∧ fc' = gc'
        · obtain ⟨rfl, rfl⟩ := h4
          simp
        · rw [if_pos rfl, if_neg (by simp), if_neg (by simp), if_pos (fun q z => h4 ⟨q, z⟩)]
          simp only [Cl.mk.injEq, Si.mk.injEq, true_and]
          rw [decide_eq_false h4]
          rfl
      · rw [if_pos rfl, if_neg (by simp), if_pos (fun q z => h3 ⟨q, z⟩)]
        rw [decide_eq_false (fun e => h3 (by simp only [Cl.mk.injEq, Si.mk.injEq] at e; exact e.2.2.1))]
        rfl
    · rw [if_pos rfl, if_pos (fun q z => h2 ⟨q, z⟩)]
      rw [decide_eq_false (fun e => h2 (by simp only [Cl.mk.injEq, Si.mk.injEq] at e; exact e.2.1))]
      rfl
  · have h1' : ¬ fk.toList = gk.toList := fun e => h1 (bytes_of_list e)
    rw [if_neg h1', decide_eq_false (fun e => h1 (by simp only [Cl.mk.injEq] at e; exact e.1))]
    rfl
open Classical in
set_option maxRecDepth 100000 in
set_option maxHeartbeats 1000000 in
theorem sameCl_any (a : Option Addr) (acap : Nat) (l : List Cl) (b : Option Addr) (bcap : Nat) (m : List Cl) (w : World) (ha : RdG cCl 7 w a l) (hb : RdG cCl 7 w b m) (hl : l.length ≤ 9223372036854775807) :
    Calls Try.prog 15 #[.slice a l.length acap, .slice b m.length bcap] w fun e w' => e = .returned (.bool (decide (l = m))) ∧ Below w.heap.size w w' := by
  have hA := hide ha
  have hB := hide hb
  clear ha hb
  by_cases hlen : l.length = m.length
  · rw [← hlen]
    have HL := hide hlen
    clear hlen
    go_enter Try.func15, Try.ntmps15
    go_wp2
    go_loopw [13] (fun i wr => ∃ k : Nat, k ≤ l.length ∧ i = .int .i64 k ∧ Hid (l.take k = m.take k) ∧ Below w.heap.size w wr) (fun i _ => l.length - (intOf i).toNat)
    case atStart => exact ⟨0, Nat.zero_le _, rfl, rfl, Below.refl _ _⟩
    case round =>
      obtain ⟨k, hk, rfl, hE, hbr⟩ := hrel
      by_cases hlt : k < l.length
      · have hz : l[k]? = some l[k] := List.getElem?_eq_getElem hlt
        have hlt2 : k < m.length := by rw [← HL.out]; exact hlt
        have hy : m[k]? = some m[k] := List.getElem?_eq_getElem hlt2
        generalize l[k] = f at hz
        generalize m[k] = g at hy
        obtain ⟨p, off, rfl, c0, c1, c2, c3, c4, c5, c6⟩ := (hA.out.below hbr).cl hz
        obtain ⟨p', off', rfl, d0, d1, d2, d3, d4, d5, d6⟩ := (hB.out.below hbr).cl hy
        have HZ := hide hz
        have HY := hide hy
        clear hz hy
        have hm : Try.prog.eqGuardType Try.prog.depth 37 = false := by kernel_rfl
        have hcmp := neqCl f g
        by_cases hfg : f = g
        · subst hfg
          simp only [decide_true, Bool.not_true] at hcmp
          have hE' : Hid (l.take (k + 1) = m.take (k + 1)) := by
            show _ = _
            rw [List.take_add_one, List.take_add_one, HZ.out, HY.out, hE.out]
          go_wp2
          go_quiet (fail)
          go_wp2
          go_roundw
          case rel => exact ⟨k + 1, by omega, by go_num, hE', below_drewN hbr _⟩
          case measure => simp [intOf]; omega
        · have hd : decide (f = g) = false := by simp [hfg]
          simp only [hd, Bool.not_false] at hcmp
          have hE' : Hid (l ≠ m) := by
            intro e
            have h1 := HZ.out
            rw [e, HY.out] at h1
            exact hfg (by cases h1; rfl)
          go_wp2
          go_quiet (fail)
          go_wp2
          go_ret
          exact ⟨by simp [hE'.out], below_drewN hbr _⟩
      · have hE' : Hid (l = m) := by
          have h1 := hE.out
          rw [List.take_of_length_le (by omega), List.take_of_length_le (by rw [← HL.out]; omega)] at h1
          exact h1
        go_wp2
        go_ret
        exact ⟨by simp [hE'.out], hbr⟩
  · have hne : l ≠ m := fun e => hlen (by rw [e])
    have hN := hide hne
    have hlb : ((l.length : Int) == (m.length : Int)) = false := by simp; omega
    clear hne
    go_enter Try.func15, Try.ntmps15
    go_wp2
    go_ret
    exact ⟨by simp [hN.out], Below.refl _ _⟩
end Go.Proofs.Ytoneedobhopkkaa
