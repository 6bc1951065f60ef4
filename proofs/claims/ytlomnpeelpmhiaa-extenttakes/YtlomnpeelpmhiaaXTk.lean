/- ExtentTakes, over any extent that does what is meant. Over the translation. -/
import Derived.Test.YtlomnpeelpmhiaaXDs
import Derived.Deep.AppendLies
namespace Go.Proofs.Ytlomnpeelpmhiaa
open Go.RowKit Apo
attribute [local go_sem ↓] Apo.app_exec

/-- rows of the law's own, laid since block B, none of the object's blocks -/
def Rws (B : Nat) (O : Nat → Prop) (w : World) (v : Value) (T : List (Nat × Nat)) : Prop := Row (fun i => ¬ O i ∧ B ≤ i) w 29 2 v T.length (rcells T)
theorem Rws.turn {B : Nat} {O : Nat → Prop} {w w' : World} {v : Value} {T : List (Nat × Nat)} (h : Rws B O w v T) (ho : Onl O w w') : Rws B (Gro O w w') w' v T := by
  have h1 := Row.onl h ho (fun g hg => (h.2 g hg).1)
  exact ⟨h1.1, fun g hg => ⟨fun q => q.elim (h.2 g hg).1 (fun q => absurd (Row.lt h g hg) (Nat.not_lt.2 q.1)), (h.2 g hg).2⟩⟩
theorem Rws.below {B : Nat} {O : Nat → Prop} {w w' : World} {v : Value} {T : List (Nat × Nat)} (h : Rws B O w v T) (hb : Below w.heap.size w w') : Rws B O w' v T := Row.onl h (F := fun _ => False) (Onl.ofBelow hb) (fun _ _ q => q)
theorem Rws.rd {B : Nat} {O : Nat → Prop} {w : World} {a : Option Addr} {n c : Nat} {T : List (Nat × Nat)} (h : Rws B O w (.slice a n c) T) : RdP w a T := (RdP.own h.1).1
theorem give_t {f : Fr} {s : Spn} (h : f.all s false = true) : f.give s = (true, f.put s true) := by unfold Fr.give; rw [if_pos h]
theorem give_f {f : Fr} {s : Spn} (h : f.all s false = false) : f.give s = (false, f) := by unfold Fr.give; rw [if_neg (by rw [h]; decide)]

set_option maxRecDepth 100000 in
set_option maxHeartbeats 16000000 in
theorem xtakes_any {C : Cfr} (E : ExtDo C) (m n : Int) (hm1 : m ≤ 9223372036854775807) (a : Option Addr) (cap : Nat) (l : List Int) (w : World) (hr : Rd .i64 w a l) (hz : ∀ z ∈ l, -9223372036854775808 ≤ z ∧ z ≤ 9223372036854775807) :
    Calls Try.prog 4 #[.int .i64 m, .int .i64 n, .slice a l.length cap] w fun e w' => e = .returned (.bool true) ∧ Below w.heap.size w w' := by
  have HE := hide E
  have HR := hide hr
  have HZ := hide hz
  clear E hr hz
  by_cases hbig : n > 100 ∨ l.length > 20
  · go_enter Try.func4, Try.ntmps4
    go_wp2_with fail
    refine (xawake_any HE.out w).mono ?_
    rintro e w1 ⟨rfl, b1⟩
    have HB1 := hide b1
    clear b1
    rcases hbig with h | h
    all_goals (
      go_wp2
      all_goals (go_ret; exact ⟨rfl, HB1.out⟩))
  have hn : ¬ 100 < n := by omega
  have hl : l.length ≤ 20 := by omega
  clear hbig
  obtain ⟨i0, hi, hz0', hz1, hz2⟩ := info_parts info_span
  go_enter Try.func4, Try.ntmps4
  go_wp2_with fail
  refine (xawake_any HE.out w).mono ?_
  rintro e w2 ⟨rfl, b2⟩
  have HB2 := hide b2
  clear b2
  go_wp2_with fail
  refine (HE.out.new m n w2 hm1).mono ?_
  rintro e w3 ⟨p, rfl, D3, b3⟩
  have z2 := HB2.out.size
  have T3 : OnF C w w3 p (fun i => w2.heap.size ≤ i ∧ i < w3.heap.size) (newFr m n) := ⟨D3, fun i hi => by have := hi.1; omega, fun i hi => hi.2, HB2.out.trans (b3.mono z2)⟩
  have hok0 := newFr_ok m n
  generalize (fun i => w2.heap.size ≤ i ∧ i < w3.heap.size) = O3 at T3
  generalize newFr m n = f0 at T3 hok0
  have HT3 := hide T3
  have HOK0 := hide hok0
  have hrl := rows_len hok0
  have BAr := (Below.refl w3.heap.size w3).alloc (Nat.le_refl _) (.cells #[.slice none 0 0] 37)
  have Tr := T3.below HE.out BAr
  have HRW := hide (rows_any (w := w3) T3.hi (HE.out.spans Tr.c (fun i hi => Tr.hi i hi)) hrl)
  clear T3 D3 b3 HB2 z2 BAr Tr hok0
  go_wp2_with fail
  refine HRW.out.mono ?_
  rintro e w4 ⟨v8, rfl, r8, b8⟩
  obtain ⟨a8, c8, hv8⟩ := own_len2 r8
  subst hv8
  have HT4 := hide (HT3.out.below HE.out b8)
  have HW4 : Hid (Rws w.heap.size O3 w4 (.slice a8 f0.rows.length c8) f0.rows) := ⟨r8.mono (Nat.zero_le _), fun g hg => ⟨fun q => by have h1 := (r8.lt g hg).1; have h2 := HT3.out.hi g q; omega, by have h1 := (r8.lt g hg).1; have := HT3.out.bel.size; omega⟩⟩
  have HN4 : Hid (Rws w.heap.size O3 w4 (.slice none 0 0) []) := ⟨World.ownsRow_nil _ _ _ _, fun g hg => by simp [Value.ownBlock] at hg⟩
  clear r8 b8 HRW HT3
  go_wp2
  go_loopw [9, 35] (fun v i wr => ∃ (k : Nat) (T : List (Nat × Nat)) (O : Nat → Prop) (f : Fr), k ≤ l.length ∧ i = .int .i64 k ∧ T.length ≤ k ∧ Hid (OnF C w wr p O f) ∧ Hid (Tk f0 f T) ∧ Hid (Rws w.heap.size O wr v T) ∧ Hid (Rws w.heap.size O wr (.slice a8 f0.rows.length c8) f0.rows) ∧ Hid (∀ g, (Value.slice a8 f0.rows.length c8).ownBlock = some g → v.ownBlock ≠ some g)) (fun _ i _ => l.length - (intOf i).toNat)
  case atStart => exact ⟨0, [], O3, f0, Nat.zero_le _, rfl, Nat.le_refl _, HT4, Tk.new HOK0.out, HN4, HW4, fun g _ h => by simp [Value.ownBlock] at h⟩
  case round =>
    obtain ⟨k, T, O, f, hk, rfl, hTl, hT, hTk, hRT, hRW, hAp⟩ := hrel
    obtain ⟨a9, c9, hv9⟩ := own_len2 hRT.out.1
    subst hv9
    by_cases hlt : k < l.length
    · obtain ⟨b, off, hab, hc⟩ := HR.out.below hT.out.bel k hlt
      subst hab
      have hgd : l.getD k 0 = l[k] := by simp [List.getD, hlt]
      rw [hgd] at hc
      have hzb := HZ.out l[k] (List.getElem_mem hlt)
      generalize l[k] = z at hc hzb
      clear hgd
      go_wp2_with fail
      refine (HE.out.take hT.out.c hT.out.hi z hzb.1 hzb.2).mono ?_
      rintro e w5 ⟨rfl, d5, o5⟩
      have T5 := hT.out.turn o5 d5
      have R5 := hRT.out.turn o5
      have W5 := hRW.out.turn o5
      generalize Gro O wr w5 = O5 at T5 R5 W5
      clear d5 o5
      cases hf : f.first z with
      | none =>
        have ht : f.take z = ((0, false), f) := by unfold Fr.take; rw [hf]
        rw [ht] at T5 ⊢
        have HT5 := hide T5
        have HR5 := hide R5
        have HW5 := hide W5
        clear ht T5 R5 W5 hT hRT hRW
        by_cases hz1' : 1 ≤ z
        · have hmx := first_max hTk.out.ok hz1' hf
          have HF := hide hf
          clear hf
          go_wp2_with fail
          refine (HE.out.largest HT5.out.c HT5.out.hi).mono ?_
          rintro e w6 ⟨rfl, d6, o6⟩
          have HT6 := hide (HT5.out.turn o6 d6)
          have HR6 := hide (HR5.out.turn o6)
          have HW6 := hide (HW5.out.turn o6)
          clear d6 o6
          have hmb : decide ((maxP f.rows : Int) ≥ z) = false := by simp; omega
          go_wp2
          go_roundw
          case rel => exact ⟨k + 1, T, _, f, hlt, by simp, by omega, HT6, hTk, HR6, HW6, hAp⟩
          case measure => simp [intOf]; omega
        · have HF := hide hf
          clear hf
          go_wp2
          go_roundw
          case rel => exact ⟨k + 1, T, _, f, hlt, by simp, by omega, HT5, hTk, HR5, HW5, hAp⟩
          case measure => simp [intOf]; omega
      | some I =>
        have ht : f.take z = (((I : Int), true), f.put ⟨I, z⟩ false) := by unfold Fr.take; rw [hf]
        rw [ht] at T5 ⊢
        obtain ⟨tk5, sep⟩ := hTk.out.take hf
        obtain ⟨hI1, hall, _⟩ := first_some hf
        obtain ⟨hz1', hz2', hz3', _⟩ := all_iff.1 hall
        have hlen := hTk.out.ok.len
        simp only [Int.toNat_natCast] at hz1' hz2' hz3'
        obtain ⟨Z, rfl⟩ : ∃ Z : Nat, z = Z := ⟨z.toNat, by omega⟩
        simp only [Int.toNat_natCast] at hz3' tk5
        have hZ : I + Z ≤ 16384 := by omega
        have hTe : ∀ t ∈ T, t.1 + t.2 ≤ 16384 := fun t ht => by have := (hTk.out.each t ht).2.2; omega
        have BA := (Below.refl w5.heap.size w5).alloc (Nat.le_refl _) (.cells #[.int .i64 I, .int .i64 Z] 29)
        have k6 : Ob (w5.alloc (.cells #[.int .i64 I, .int .i64 Z] 29)) w5.heap.size 29 [.int .i64 I, .int .i64 Z] := Ob.new w5 [.int .i64 I, .int .i64 Z] 29
        have HT6 := hide (T5.below HE.out BA)
        have HR6 := hide (R5.below BA)
        have HW6 := hide (W5.below BA)
        have HK6 := hide k6
        have HTK := hide tk5
        have HSEP := hide sep
        have HTE := hide hTe
        generalize f.put ⟨(I : Int), (Z : Int)⟩ false = f5 at HT6 HTK
        clear hf ht T5 R5 W5 tk5 sep hI1 hall hz1' hz2' hz3' hlen hTe BA k6 hT hRT hRW
        go_wp2
        go_loopw [60] (fun i wx => ∃ J : Nat, J ≤ T.length ∧ i = .int .i64 J ∧ Hid (OnF C w wx p O5 f5) ∧ Hid (Rws w.heap.size O5 wx (.slice a9 T.length c9) T) ∧ Hid (Rws w.heap.size O5 wx (.slice a8 f0.rows.length c8) f0.rows) ∧ Hid (Ob wx w5.heap.size 29 [.int .i64 I, .int .i64 Z])) (fun i _ => T.length - (intOf i).toNat)
        case atStart => exact ⟨0, Nat.zero_le _, rfl, HT6, HR6, HW6, HK6⟩
        case round =>
          obtain ⟨J, hJ, rfl, hT7, hR7, hW7, hK7⟩ := hrel
          have x0 := hK7.out.cell 0
          have x1 := hK7.out.cell 1
          simp only [List.getElem?_cons_zero, List.getElem?_cons_succ] at x0 x1
          by_cases hJl : J < T.length
          · obtain ⟨t, ht⟩ : ∃ t, T[J]? = some t := ⟨_, List.getElem?_eq_getElem hJl⟩
            obtain ⟨b7, off7, ha7, e0, e1⟩ := hR7.out.rd J t ht
            subst ha7
            have htm := List.mem_of_getElem? ht
            have hs1 := HSEP.out t htm
            have hs2 := HTE.out t htm
            have BA8 := (Below.refl wr.heap.size wr).alloc (Nat.le_refl _) (.cells #[.int .i64 t.1, .int .i64 t.2] 29)
            have k8 : Ob (wr.alloc (.cells #[.int .i64 t.1, .int .i64 t.2] 29)) wr.heap.size 29 [.int .i64 t.1, .int .i64 t.2] := Ob.new wr [.int .i64 t.1, .int .i64 t.2] 29
            have hk7' := hK7.out.old BA8
            have HT8 := hide (hT7.out.below HE.out BA8)
            have HR8 := hide (hR7.out.below BA8)
            have HW8 := hide (hW7.out.below BA8)
            have HK8 := hide hk7'
            generalize hW8 : wr.alloc (.cells #[.int .i64 t.1, .int .i64 t.2] 29) = W8 at HT8 HR8 HW8 HK8 k8 hk7'
            have y0 := k8.cell 0
            have y1 := k8.cell 1
            have z0 := hk7'.cell 0
            have z1 := hk7'.cell 1
            simp only [List.getElem?_cons_zero, List.getElem?_cons_succ] at y0 y1 z0 z1
            clear ht htm BA8 k8 hk7' hT7 hR7 hW7 hK7
            by_cases h1 : (I : Int) < (t.1 : Int) + (t.2 : Int)
            · have h2 : ¬ (t.1 : Int) < (I : Int) + (Z : Int) := fun q => hs1 ⟨h1, q⟩
              have g1 : decide ((I : Int) < (t.1 : Int) + (t.2 : Int)) = true := by simpa using h1
              have g2 : decide ((t.1 : Int) < (I : Int) + (Z : Int)) = false := by simpa using h2
              clear hs1
              go_wp2
              go_roundw
              case rel => exact ⟨J + 1, hJl, by simp, HT8, HR8, HW8, HK8⟩
              case measure => simp [intOf]; omega
            · have g1 : decide ((I : Int) < (t.1 : Int) + (t.2 : Int)) = false := by simpa using h1
              clear hs1
              go_wp2
              go_roundw
              case rel => exact ⟨J + 1, hJl, by simp, HT8, HR8, HW8, HK8⟩
              case measure => simp [intOf]; omega
          · obtain ⟨g9, c10, w9, RR, r9, g10, hlies, hg9⟩ := run_append_lies (P := Try.prog) (wr.alloc (.cells #[.int .i64 I, .int .i64 Z] 29)) 37 37 0 29 i0 _ 2 16 Try.underlying37 hi hz0' hz1 hz2 rfl (by decide) (.slice a9 T.length c9) _ _ (hR7.out.1.alloc _) ⟨wr.heap.size, 0, none⟩ 1 1 [.int .i64 I, .int .i64 Z] rfl (lit2_news wr 29 _ _) (by simp [Value.oneCell']) (by decide) (by unfold maxLen; omega) (by omega) (Nat.zero_le _) (wr.heap.size + 1) (by simp)
            obtain ⟨q1, q2, q3⟩ := app_runs RR
            have o9 : Onl (fun i => (Value.slice a9 T.length c9).ownBlock = some i) wr w9 := ((Onl.refl _ wr).alloc _).grown g10 (fun k hk => .inl hk)
            have hbase := hT7.out.bel.size
            have hR9 : Rws w.heap.size O5 w9 (.slice (some ⟨g9, 0, none⟩) (T.length + 1) c10) (T ++ [(I, Z)]) := by
              refine ⟨?_, fun g hg => ?_⟩
              · rw [rcells_app]
                simpa [rcells] using r9
              · simp only [Value.ownBlock, Option.some.injEq] at hg
                subst hg
                rcases hlies with q | q
                · exact hR7.out.2 g9 q
                · exact ⟨fun o => by have := hT7.out.hi _ o; omega, by omega⟩
            have hT9 : OnF C w w9 p O5 f5 := ⟨HE.out.onl hT7.out.c o9 (fun i hi q => (hR7.out.2 i q).1 hi), hT7.out.lo, fun i hi => Nat.lt_of_lt_of_le (hT7.out.hi i hi) o9.size, Below.onl hT7.out.bel o9 (fun i q => (hR7.out.2 i q).2) (Nat.le_refl _)⟩
            have hW9 : Rws w.heap.size O5 w9 (.slice a8 f0.rows.length c8) f0.rows := Row.onl hW7.out o9 (fun g hg q => hAp.out g hg q)
            have hA9 : ∀ g, (Value.slice a8 f0.rows.length c8).ownBlock = some g → (Value.slice (some ⟨g9, 0, none⟩) (T.length + 1) c10).ownBlock ≠ some g := fun g hg q => by
              simp only [Value.ownBlock, Option.some.injEq] at q
              subst q
              rcases hlies with r | r
              · exact hAp.out g9 hg r
              · have := Row.lt hW7.out g9 hg; omega
            have HT9 := hide hT9
            have HR9 := hide hR9
            have HW9 := hide hW9
            have HA9 := hide hA9
            have hJe : J = T.length := by omega
            clear RR r9 g10 hlies o9 hR9 hT9 hW9 hA9 hT7 hR7 hW7
            go_wp2
            go_roundw
            case rel => exact ⟨k + 1, T ++ [(I, Z)], O5, f5, hlt, by simp, by simp; omega, HT9, HTK, HR9, HW9, HA9⟩
            case measure => simp [intOf]; omega
    · have hTk0 : Tk f0 f (T.drop 0) := hTk.out
      have HTk0 := hide hTk0
      have hTe : ∀ t ∈ T, t.1 + t.2 ≤ 16384 := fun t ht => by have h1 := (hTk.out.each t ht).2.2; have h2 := hTk.out.ok.len; omega
      have HTE := hide hTe
      clear hTk0 hTe hTk hAp
      go_wp2
      go_loopw [90] (fun i wx => ∃ (J : Nat) (O6 : Nat → Prop) (f6 : Fr), J ≤ T.length ∧ i = .int .i64 J ∧ Hid (OnF C w wx p O6 f6) ∧ Hid (Tk f0 f6 (T.drop J)) ∧ Hid (Rws w.heap.size O6 wx (.slice a9 T.length c9) T) ∧ Hid (Rws w.heap.size O6 wx (.slice a8 f0.rows.length c8) f0.rows)) (fun i _ => T.length - (intOf i).toNat)
      case atStart => exact ⟨0, O, f, Nat.zero_le _, rfl, hT, HTk0, hRT, hRW⟩
      case round =>
        obtain ⟨J, O6, f6, hJ, rfl, hT6, hTk6, hR6, hW6⟩ := hrel
        by_cases hJl : J < T.length
        · obtain ⟨t, ht⟩ : ∃ t, T[J]? = some t := ⟨_, List.getElem?_eq_getElem hJl⟩
          obtain ⟨b7, off7, ha7, e0, e1⟩ := hR6.out.rd J t ht
          subst ha7
          have hte := HTE.out t (List.mem_of_getElem? ht)
          have hdr : T.drop J = t :: T.drop (J + 1) := by
            rw [List.drop_eq_getElem_cons hJl]
            rw [List.getElem?_eq_getElem hJl] at ht
            cases ht
            rfl
          have hg := hTk6.out
          rw [hdr] at hg
          obtain ⟨g1, g2, g3, g4⟩ := hg.give
          have okt : Spn.Ok ⟨(t.1 : Int), (t.2 : Int)⟩ := ⟨by simp only; omega, by simp only; omega, by simp only; omega, by simp only; omega⟩
          have gv1 := give_t g2
          have gv2 := give_f g3
          have BA := (Below.refl wr.heap.size wr).alloc (Nat.le_refl _) (.cells #[.int .i64 t.1, .int .i64 t.2] 29)
          have k7 : Ob (wr.alloc (.cells #[.int .i64 t.1, .int .i64 t.2] 29)) wr.heap.size 29 [.int .i64 t.1, .int .i64 t.2] := Ob.new wr [.int .i64 t.1, .int .i64 t.2] 29
          have n7 : ¬ O6 wr.heap.size := fun q => absurd (hT6.out.hi _ q) (Nat.lt_irrefl _)
          have T7 := hT6.out.below HE.out BA
          have R7 := hR6.out.below BA
          have W7 := hW6.out.below BA
          generalize hWW : wr.alloc (.cells #[.int .i64 t.1, .int .i64 t.2] 29) = W0 at k7 T7 R7 W7
          have x0 := k7.cell 0
          have x1 := k7.cell 1
          simp only [List.getElem?_cons_zero, List.getElem?_cons_succ] at x0 x1
          have HK7 := hide k7
          have HN7 := hide n7
          have HT7 := hide T7
          have HR7 := hide R7
          have HW7 := hide W7
          have HG1 := hide g1
          have HGV1 := hide gv1
          have HGV2 := hide gv2
          have HG4 := hide g4
          clear ht hdr hg g1 g2 g3 g4 gv1 gv2 BA k7 n7 T7 R7 W7 hT6 hTk6 hR6 hW6
          go_wp2_with fail
          refine (HE.out.has HT7.out.c HT7.out.hi ⟨t.1, t.2⟩ okt).mono ?_
          rintro e w8 ⟨rfl, d8, o8⟩
          rw [HG1.out]
          have k8 := HK7.out.onl o8 HN7.out
          have n8 : ¬ Gro O6 W0 w8 wr.heap.size := fun q => q.elim HN7.out (fun q => absurd HK7.out.lt (Nat.not_lt.2 q.1))
          have HT8 := hide (HT7.out.turn o8 d8)
          have HR8 := hide (HR7.out.turn o8)
          have HW8 := hide (HW7.out.turn o8)
          generalize Gro O6 W0 w8 = O8 at HT8 HR8 HW8 n8
          have y0 := k8.cell 0
          have y1 := k8.cell 1
          simp only [List.getElem?_cons_zero, List.getElem?_cons_succ] at y0 y1
          have HK8 := hide k8
          have HN8 := hide n8
          clear d8 o8 k8 n8
          go_wp2_with fail
          refine (HE.out.give HT8.out.c HT8.out.hi ⟨t.1, t.2⟩ okt).mono ?_
          rintro e w9 ⟨rfl, d9, o9⟩
          rw [HGV1.out] at d9 ⊢
          have k9 := HK8.out.onl o9 HN8.out
          have HT9 := hide (HT8.out.turn o9 d9)
          have HR9 := hide (HR8.out.turn o9)
          have HW9 := hide (HW8.out.turn o9)
          generalize Gro O8 w8 w9 = O9 at HT9 HR9 HW9
          have u0 := k9.cell 0
          have u1 := k9.cell 1
          simp only [List.getElem?_cons_zero, List.getElem?_cons_succ] at u0 u1
          clear d9 o9 k9
          go_wp2_with fail
          refine (HE.out.give HT9.out.c HT9.out.hi ⟨t.1, t.2⟩ okt).mono ?_
          rintro e w10 ⟨rfl, d10, o10⟩
          rw [HGV2.out] at d10 ⊢
          have HT10 := hide (HT9.out.turn o10 d10)
          have HR10 := hide (HR9.out.turn o10)
          have HW10 := hide (HW9.out.turn o10)
          clear d10 o10
          go_wp2
          go_roundw
          case rel => exact ⟨J + 1, _, _, hJl, by simp, HT10, HG4, HR10, HW10⟩
          case measure => simp [intOf]; omega
        · have hdr : T.drop J = [] := List.drop_eq_nil_of_le (by omega)
          have hg := hTk6.out
          rw [hdr] at hg
          have hf6 := hg.back
          subst hf6
          clear hdr hg hTk6
          have BAr := (Below.refl wr.heap.size wr).alloc (Nat.le_refl _) (.cells #[.slice none 0 0] 37)
          have Tr := hT6.out.below HE.out BAr
          have HRW := hide (rows_any (w := wr) hT6.out.hi (HE.out.spans Tr.c (fun i hi => Tr.hi i hi)) hrl)
          clear BAr Tr
          go_wp2_with fail
          refine HRW.out.mono ?_
          rintro e w7 ⟨v7, rfl, r7, b7⟩
          obtain ⟨a7, c7, hv7⟩ := own_len2 r7
          subst hv7
          have HB7 := hide (hT6.out.below HE.out b7).bel
          have HSM := hide (same_any (w := w7) a7 a8 c7 c8 f6.rows f6.rows (RdP.own r7).1 (hW6.out.below b7).rd (by omega))
          clear r7 b7 HRW
          go_wp2_with fail
          refine HSM.out.mono ?_
          rintro e w9 ⟨rfl, b9⟩
          simp only [decide_true]
          have HB9 := hide (HB7.out.trans (b9.mono HB7.out.size))
          clear b9 HSM
          go_wp2
          go_ret
          exact ⟨rfl, HB9.out⟩
end Go.Proofs.Ytlomnpeelpmhiaa
