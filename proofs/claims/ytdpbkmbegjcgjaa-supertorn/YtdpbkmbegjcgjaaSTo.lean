/- SuperTorn, over any Put and Of that do as the document's. -/
import Derived.Test.YtdpbkmbegjcgjaaSAw
import Derived.Test.YtdpbkmbegjcgjaaApp
import Derived.Test.YtdpbkmbegjcgjaaApn
import Derived.Test.YtdpbkmbegjcgjaaRLs
import Derived.Deep.RegionHeld3
namespace Go.Proofs.Ytdpbkmbegjcgjaa
open Go.RowKit Apo

theorem rd_dropS {k : IntKind} {w : World} {g : Nat} {l : List Int} (h : Rd k w (some ⟨g, 0, none⟩) l) (m cap : Nat) (hc : l.length ≤ cap) : Rd k w (if cap = m then some ⟨g, 0, none⟩ else some ⟨g, m, none⟩) (l.drop m) := by
  intro i hi
  have hi' : i + m < l.length := by simp at hi; omega
  rw [if_neg (by omega)]
  obtain ⟨b, off, ha, hc⟩ := h (i + m) hi'
  cases ha
  refine ⟨g, m, rfl, ?_⟩
  rw [show m + i = 0 + (i + m) by omega, hc]
  congr 2
  simp [List.getD, Nat.add_comm]

attribute [local go_sem ↓] Apo.app_exec
set_option maxHeartbeats 4000000 in
theorem torn_any (hp : PutDoes) (ho : OfDoes) (s t : Sup) (k : Int) (hs : s.Ok) (ht : t.Ok) (w : World) :
    Calls Try.prog 6 #[s.val, t.val, .int .i64 k] w fun e w' => e = .returned (.bool true) ∧ Below w.heap.size w w' := by
  have HP := hide hp
  have HO := hide ho
  clear hp ho
  have HS := hide hs
  have HT := hide ht
  clear hs ht
  rw [show s.val = .agg #[.int .u64 s.e, .int .u32 s.st, .int .u32 s.pg, .int .u32 s.sz] from rfl, show t.val = .agg #[.int .u64 t.e, .int .u32 t.st, .int .u32 t.pg, .int .u32 t.sz] from rfl]
  have k0 : Ob (w.alloc (.cells #[.int .u64 s.e, .int .u32 s.st, .int .u32 s.pg, .int .u32 s.sz] 25)) w.heap.size 25 [.int .u64 s.e, .int .u32 s.st, .int .u32 s.pg, .int .u32 s.sz] := Ob.new w [.int .u64 s.e, .int .u32 s.st, .int .u32 s.pg, .int .u32 s.sz] 25
  have B0 : Below w.heap.size w (w.alloc (.cells #[.int .u64 s.e, .int .u32 s.st, .int .u32 s.pg, .int .u32 s.sz] 25)) := (Below.refl _ w).alloc (Nat.le_refl _) _
  generalize hW0 : w.alloc (.cells #[.int .u64 s.e, .int .u32 s.st, .int .u32 s.pg, .int .u32 s.sz] 25) = W0 at k0 B0
  have k1 := k0.old ((Below.refl W0.heap.size W0).alloc (Nat.le_refl _) (.cells #[.int .u64 t.e, .int .u32 t.st, .int .u32 t.pg, .int .u32 t.sz] 25))
  have B1 : Below w.heap.size w (W0.alloc (.cells #[.int .u64 t.e, .int .u32 t.st, .int .u32 t.pg, .int .u32 t.sz] 25)) := B0.alloc B0.size _
  have j1 : Ob (W0.alloc (.cells #[.int .u64 t.e, .int .u32 t.st, .int .u32 t.pg, .int .u32 t.sz] 25)) W0.heap.size 25 [.int .u64 t.e, .int .u32 t.st, .int .u32 t.pg, .int .u32 t.sz] := Ob.new W0 [.int .u64 t.e, .int .u32 t.st, .int .u32 t.pg, .int .u32 t.sz] 25
  generalize hW1 : W0.alloc (.cells #[.int .u64 t.e, .int .u32 t.st, .int .u32 t.pg, .int .u32 t.sz] 25) = W1 at k1 B1 j1
  have HK1 := hide k1
  have HJ1 := hide j1
  have HB1 := hide B1
  clear k0 B0 k1 B1 j1
  go_enter Try.func6, Try.ntmps6
  go_wp2_with fail
  refine (awake_any HP.out HO.out W1).mono ?_
  rintro e w2 ⟨rfl, b2⟩
  have k2 := HK1.out.old b2
  have j2 := HJ1.out.old b2
  have B2 := HB1.out.trans (b2.mono HB1.out.size)
  have x0 := k2.cell 0
  have x1 := k2.cell 1
  have x2 := k2.cell 2
  have x3 := k2.cell 3
  have y0 := j2.cell 0
  have y1 := j2.cell 1
  have y2 := j2.cell 2
  have y3 := j2.cell 3
  simp only [List.getElem?_cons_zero, List.getElem?_cons_succ] at x0 x1 x2 x3 y0 y1 y2 y3
  have HK2 := hide k2
  have HJ2 := hide j2
  have HB2 := hide B2
  clear k2 j2 B2 b2 hW0 hW1
  by_cases g0 : (s.e : Int) = t.e
  · have g0' : ((s.e : Int) == t.e) = true := by simpa using g0
    clear g0
    go_wp2
    go_ret
    exact ⟨rfl, HB2.out⟩
  by_cases g1 : (s.e : Int) = 0
  · have g0' : ((s.e : Int) == t.e) = false := by simpa using g0
    have g1' : ((s.e : Int) == 0) = true := by simpa using g1
    clear g0 g1
    go_wp2
    go_ret
    exact ⟨rfl, HB2.out⟩
  by_cases g2 : (t.e : Int) = 0
  · have g0' : ((s.e : Int) == t.e) = false := by simpa using g0
    have g1' : ((s.e : Int) == 0) = false := by simpa using g1
    have g2' : ((t.e : Int) == 0) = true := by simpa using g2
    clear g0 g1 g2
    go_wp2
    go_ret
    exact ⟨rfl, HB2.out⟩
  have g0' : ((s.e : Int) == t.e) = false := by simpa using g0
  have g1' : ((s.e : Int) == 0) = false := by simpa using g1
  have g2' : ((t.e : Int) == 0) = false := by simpa using g2
  have HG0 := hide g0
  have HG1 := hide g1
  have HG2 := hide g2
  clear g0 g1 g2
  by_cases g3 : k < 0
  · go_wp2
    go_ret
    exact ⟨rfl, HB2.out⟩
  by_cases g4 : 32 < k
  · go_wp2
    go_ret
    exact ⟨rfl, HB2.out⟩
  have g3' : decide (k < 0) = false := by simpa using g3
  have g4' : decide (32 < k) = false := by simpa using g4
  have HK2' : Hid (Ob w2.drew w.heap.size 25 [.int .u64 s.e, .int .u32 s.st, .int .u32 s.pg, .int .u32 s.sz]) := HK2
  have HJ2' : Hid (Ob w2.drew W0.heap.size 25 [.int .u64 t.e, .int .u32 t.st, .int .u32 t.pg, .int .u32 t.sz]) := HJ2
  have HB2' := hide HB2.out.drew
  go_wp2
  go_region_held3 (fun W' => W'.cell? ⟨w.heap.size, 0, none⟩ = some (.int .u64 s.e) ∧ W'.cell? ⟨w.heap.size, 1, none⟩ = some (.int .u32 s.st) ∧ W'.cell? ⟨w.heap.size, 2, none⟩ = some (.int .u32 s.pg) ∧ W'.cell? ⟨w.heap.size, 3, none⟩ = some (.int .u32 s.sz) ∧ W'.cell? ⟨W0.heap.size, 0, none⟩ = some (.int .u64 t.e) ∧ W'.cell? ⟨W0.heap.size, 1, none⟩ = some (.int .u32 t.st) ∧ W'.cell? ⟨W0.heap.size, 2, none⟩ = some (.int .u32 t.pg) ∧ W'.cell? ⟨W0.heap.size, 3, none⟩ = some (.int .u32 t.sz)) (go_keep) (first
    | (go_at_call_of 10 (Value.agg #[.int .u64 s.e, .int .u32 s.st, .int .u32 s.pg, .int .u32 s.sz]); refine (HP.out s HS.out w2.drew).mono ?_; rintro e w3 ⟨v3, rfl, r3, b3⟩; obtain ⟨q3, p3, hv3, _, hq3, hp3, _⟩ := own_shape r3 (by decide); subst hv3; have k3 := HK2'.out.old b3; have j3 := HJ2'.out.old b3; have HB3 := hide (HB2'.out.trans (b3.mono HB2'.out.size)); have c0 := k3.cell 0; have c1 := k3.cell 1; have c2 := k3.cell 2; have c3 := k3.cell 3; have d0 := j3.cell 0; have d1 := j3.cell 1; have d2 := j3.cell 2; have d3 := j3.cell 3; simp only [List.getElem?_cons_zero, List.getElem?_cons_succ] at c0 c1 c2 c3 d0 d1 d2 d3; have HK3 := hide k3; have HJ3 := hide j3; have HR3 := hide (rdown r3).1; clear k3 j3 r3 b3)
    | (go_at_call_of 10 (Value.agg #[.int .u64 t.e, .int .u32 t.st, .int .u32 t.pg, .int .u32 t.sz]); refine (HP.out t HT.out w3).mono ?_; rintro e w4 ⟨v4, rfl, r4, b4⟩; obtain ⟨q4, p4, hv4, _, hq4, hp4, _⟩ := own_shape r4 (by decide); subst hv4; have k4 := HK3.out.old b4; have j4 := HJ3.out.old b4; have HB4 := hide (HB3.out.trans (b4.mono HB3.out.size)); have c0' := k4.cell 0; have c1' := k4.cell 1; have c2' := k4.cell 2; have c3' := k4.cell 3; have d0' := j4.cell 0; have d1' := j4.cell 1; have d2' := j4.cell 2; have d3' := j4.cell 3; simp only [List.getElem?_cons_zero, List.getElem?_cons_succ] at c0' c1' c2' c3' d0' d1' d2' d3'; have HK4 := hide k4; have HJ4 := hide j4; have HR4 := hide (rdown r4).1; have HO3 := hide (HR3.out.below b4); clear k4 j4 r4 b4))
  obtain ⟨kn, rfl⟩ : ∃ kn : Nat, k = kn := ⟨k.toNat, by omega⟩
  have hkn : kn ≤ 32 := by omega
  have i1 : (kn : Int) ≤ (p4 : Int) := by omega
  have i2 : (kn : Int) ≤ 32 := by omega
  have i3 : (32 : Int) ≤ (p3 : Int) := by omega
  obtain ⟨i0, hi, hz0, hz1, hz2⟩ := info_parts info_u8
  have lt1 : ((superB t).take kn).length = kn := by rw [List.length_take, superB_len]; omega
  have lt2 : ((superB s).drop kn).length = 32 - kn := by rw [List.length_drop, superB_len]
  obtain ⟨v5, w5, R5, r5, g5⟩ := run_append_rd (P := Try.prog) (w := w4.drew) w4.heap.size 26 26 5 i0 (.int .u8 0) 1 Try.underlying26 hi hz0 hz1 hz2 rfl .u8 (.slice none 0 0) [] (World.ownsRow_nil _ _ _ _) (some ⟨q4, 0, none⟩) p4 ((superB t).take kn) (Rd.take (w := w4.drew) HR4.out kn) (by simp) (by rw [lt1]; unfold maxLen; simp; omega) (by rw [lt1]; simp; omega) (Nat.le_refl _)
  rw [List.nil_append, lt1] at r5
  rw [lt1] at R5
  have b5 : Below w4.heap.size w4 w5 := ((Below.refl _ w4).drew).grown g5 (Nat.le_refl _) (by simp [Value.ownBlock])
  obtain ⟨a5, p5, hv5, hp5, hn5⟩ := own_form r5
  subst hv5
  have hB5 := b5.size
  obtain ⟨v6, w6, R6, r6, g6⟩ := run_append_rd (P := Try.prog) (w := w5) w4.heap.size 26 26 5 i0 (.int .u8 0) 1 Try.underlying26 hi hz0 hz1 hz2 rfl .u8 (.slice a5 kn p5) ((superB t).take kn) (by rw [lt1]; exact r5) (if p3 = kn then some ⟨q3, 0, none⟩ else some ⟨q3, kn, none⟩) (p3 - kn) ((superB s).drop kn) (rd_dropS (HO3.out.below b5) kn p3 (by rw [superB_len]; exact hp3)) (by split <;> simp) (by rw [lt1, lt2]; unfold maxLen; omega) (by rw [lt1, lt2]; omega) hB5
  rw [lt2] at R6
  have b6 : Below w4.heap.size w4 w6 := b5.grown g6 hB5 (fun q hq => (r5.lt q hq).1)
  obtain ⟨x1, x2, x3⟩ := app_runs R5
  obtain ⟨x4, x5, x6⟩ := app_runs R6
  obtain ⟨a6, p6, hv6, hp6, hn6⟩ := own_form r6
  subst hv6
  have HR6 := hide (Rd.own r6).1
  have HB6 := hide (HB4.out.trans (b6.mono HB4.out.size))
  have HK6 := hide (HK4.out.old b6)
  have HJ6 := hide (HJ4.out.old b6)
  clear R5 R6 r5 r6 g5 g6 b5 b6
  go_wp2
  go_region
  clear x1 x2 x3 x4 x5 x6
  generalize (if p3 = kn then (some ⟨q3, 0, none⟩ : Option Addr) else some ⟨q3, kn, none⟩) = a55
  have HM : Hid (∀ z ∈ (superB t).take kn ++ (superB s).drop kn, 0 ≤ z ∧ z ≤ 255) := by
    show ∀ z ∈ (superB t).take kn ++ (superB s).drop kn, 0 ≤ z ∧ z ≤ 255
    intro z hz
    simp only [List.mem_append] at hz
    rcases hz with hz | hz
    · exact superB_byt t z (List.mem_of_mem_take hz)
    · exact superB_byt s z (List.mem_of_mem_drop hz)
  have lm : ((superB t).take kn ++ (superB s).drop kn).length = 32 := by rw [List.length_append, lt1, lt2]; omega
  have KO := HO.out w6 a6 p6 ((superB t).take kn ++ (superB s).drop kn) HR6.out HM.out hp6
  rw [lm] at KO
  have HT6 := hide (fun h => torn_sup HS.out HT.out (by have := HG0.out; omega) hkn h)
  generalize (superB t).take kn ++ (superB s).drop kn = m at *
  have HKO := hide KO
  clear KO
  go_wp2_with fail
  refine HKO.out.mono ?_
  rintro e w7 ⟨rfl, b7⟩
  have k7 := HK6.out.old b7
  have j7 := HJ6.out.old b7
  have B7 := HB6.out.trans (b7.mono HB6.out.size)
  rw [show (supOf m).val = .agg #[.int .u64 (supOf m).e, .int .u32 (supOf m).st, .int .u32 (supOf m).pg, .int .u32 (supOf m).sz] from rfl]
  generalize hu : supOf m = u at *
  have k8 := k7.old ((Below.refl w7.heap.size w7).alloc (Nat.le_refl _) (.cells #[.int .u64 u.e, .int .u32 u.st, .int .u32 u.pg, .int .u32 u.sz] 25))
  have j8 := j7.old ((Below.refl w7.heap.size w7).alloc (Nat.le_refl _) (.cells #[.int .u64 u.e, .int .u32 u.st, .int .u32 u.pg, .int .u32 u.sz] 25))
  have B8 : Below w.heap.size w (w7.alloc (.cells #[.int .u64 u.e, .int .u32 u.st, .int .u32 u.pg, .int .u32 u.sz] 25)) := B7.alloc B7.size _
  have l8 : Ob (w7.alloc (.cells #[.int .u64 u.e, .int .u32 u.st, .int .u32 u.pg, .int .u32 u.sz] 25)) w7.heap.size 25 [.int .u64 u.e, .int .u32 u.st, .int .u32 u.pg, .int .u32 u.sz] := Ob.new w7 [.int .u64 u.e, .int .u32 u.st, .int .u32 u.pg, .int .u32 u.sz] 25
  generalize hW8 : w7.alloc (.cells #[.int .u64 u.e, .int .u32 u.st, .int .u32 u.pg, .int .u32 u.sz] 25) = W8 at k8 j8 B8 l8
  have e0 := k8.cell 0
  have e1 := k8.cell 1
  have e2 := k8.cell 2
  have e3 := k8.cell 3
  have f0 := j8.cell 0
  have f1 := j8.cell 1
  have f2 := j8.cell 2
  have f3 := j8.cell 3
  have z0 := l8.cell 0
  have z1 := l8.cell 1
  have z2 := l8.cell 2
  have z3 := l8.cell 3
  simp only [List.getElem?_cons_zero, List.getElem?_cons_succ] at e0 e1 e2 e3 f0 f1 f2 f3 z0 z1 z2 z3
  have HB8 := hide B8
  clear k7 j7 B7 k8 j8 l8 B8 b7
  have hm : Try.prog.eqGuardType Try.prog.depth 25 = false := by kernel_rfl
  have hc1 := eqS u s
  have hc2 := eqS u t
  by_cases his : isSup m = true
  · rw [his]
    rcases HT6.out his with hq | hq
    · rw [decide_eq_true hq] at hc1
      clear hq hu
      go_wp2
      go_ret
      exact ⟨rfl, HB8.out⟩
    · rw [decide_eq_true hq] at hc2
      clear hq hu
      cases hd : decide (u = s)
      · rw [hd] at hc1
        clear hd
        go_wp2
        go_ret
        exact ⟨rfl, HB8.out⟩
      · rw [hd] at hc1
        clear hd
        go_wp2
        go_ret
        exact ⟨rfl, HB8.out⟩
  · have his' : isSup m = false := by simpa using his
    rw [his']
    go_wp2
    go_ret
    exact ⟨rfl, HB8.out⟩
end Go.Proofs.Ytdpbkmbegjcgjaa
