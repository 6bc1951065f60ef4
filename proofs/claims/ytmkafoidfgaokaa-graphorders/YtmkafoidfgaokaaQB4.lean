/- A commit put amid a row of commits: append(l[:i:i], append([]Commit{c}, l[i:]...)...). Whether a commit may be: the document's answer, over the translation. The document's Add. Over the translation. -/
import Derived.BigRegion
import Derived.Test.YtmkafoidfgaokaaQA6
import Derived.Test.YtmkafoidfgaokaaQA3
namespace Apo
open Go Go.RowKit
/-- append(s, nothing...) -/
theorem app_zero {P : Program} {W : World} {t e : TypeId} {i : TypeInfo} (hu : P.underlying t = some (.slice e)) (hi : P.info? e = some i) {b x : Option Addr} {n c cx : Nat} (h : n ≤ c) :
    (Builtin.append_ #[t, t] t #[.slice b n c, .slice x 0 cx]).run P W = .ok (.slice b n c) W := by
  cases x <;> cases b <;> simp [Builtin.append_, run_underlying hu, Go.sizeOf, typeInfo, hi, Builtin.lenOf, Builtin.firstCells, loadCells, loadCellsFrom, storeCells, h]
end Apo
namespace Apo
open Go Go.RowKit
section
variable {α : Type} {c : α → List Value} {k : Nat}
theorem row_lit (hk : ∀ x, (c x).length = k) (e : TypeId) (W : World) (x : α) : Row (fun g => g = W.heap.size) (W.alloc (.cells (c x).toArray e)) e k (.slice (some ⟨W.heap.size, 0, none⟩) 1 1) [x].length (gcells c [x]) := by
  have hg : gcells c [x] = c x := by simp [gcells]
  refine ⟨⟨by rw [gcells_len hk], .inr ⟨W.heap.size, 1, (c x).toArray, rfl, Nat.zero_le _, heap_alloc_new W _, by simp, by decide, by simp [hk], ?_⟩⟩, fun g hg => by cases hg; rfl⟩
  rw [hg, List.length_singleton, Nat.one_mul, List.take_of_length_le (by simp [hk])]
theorem RdG.sub {w : World} {g : Nat} {l : List α} (h : RdG c k w (some ⟨g, 0, none⟩) l) (i m : Nat) : RdG c k w (some ⟨g, i * k, none⟩) ((l.drop i).take m) := by
  intro j x hx
  have hj : l[i + j]? = some x := by
    rw [List.getElem?_take] at hx
    split at hx
    · rw [List.getElem?_drop] at hx; exact hx
    · cases hx
  obtain ⟨g', o', h1, h2⟩ := h _ _ hj
  injection h1 with h1
  injection h1 with h1 h1'
  subst h1 h1'
  refine ⟨g, i * k, rfl, fun t u hu => ?_⟩
  have := h2 t u hu
  rwa [Nat.zero_add, Nat.add_mul] at this
end
end Apo
namespace Go.Proofs.Ytmkafoidfgaokaa
open Go.RowKit Apo
set_option maxRecDepth 100000 in
theorem cins_outer {W w1 : World} {g i n1 c1 : Nat} {y : Addr} {ks : List CmA} {key : CmA} (hl : ks.length ≤ 1000000) (hi : i ≤ ks.length) (b1 : Below W.heap.size W w1) (hg : RdG cCm 5 w1 (some ⟨g, 0, none⟩) (ks.take i)) (hn : n1 = (key :: ks.drop i).length) (hrd : RdG cCm 5 w1 (some y) (key :: ks.drop i)) :
    ∃ a2 c2 w2, (Builtin.append_ #[22, 22] 22 #[.slice (some ⟨g, 0, none⟩) i i, .slice (some y) n1 c1]).run Try.prog w1 = .ok (.slice a2 (ks.take i ++ key :: ks.drop i).length c2) w2 ∧ Row (fun g => W.heap.size ≤ g) w2 32 5 (.slice a2 (ks.take i ++ key :: ks.drop i).length c2) (ks.take i ++ key :: ks.drop i).length (gcells cCm (ks.take i ++ key :: ks.drop i)) ∧ Below W.heap.size W w2 := by
  obtain ⟨i0, hii, hz0, hz1, hz2⟩ := info_parts info_cm
  have hln : (key :: ks.drop i).length = ks.length - i + 1 := by simp
  obtain ⟨v', w', RR, r', g'⟩ := run_append_full (P := Try.prog) (w := w1) 22 22 32 i0 _ 5 64 Try.underlying22 hii hz0 hz1 hz2 rfl ⟨g, 0, none⟩ i (gcells cCm (ks.take i)) (by rw [gcells_len cCm_len]; simp; omega) (RdG.news cCm_len (by decide) hg) y n1 c1 (gcells cCm (key :: ks.drop i)) (by rw [gcells_len cCm_len, hn]) (RdG.news cCm_len (by decide) hrd) (by omega) (by unfold maxLen; omega) (by omega)
  have hlen : i + n1 = (ks.take i ++ key :: ks.drop i).length := by rw [List.length_append, ← hn, List.length_take]; omega
  rw [hlen, ← gcells_app] at r'
  have hrow : Row (fun g => W.heap.size ≤ g) w' 32 5 v' (ks.take i ++ key :: ks.drop i).length (gcells cCm (ks.take i ++ key :: ks.drop i)) := by
    refine ⟨⟨r'.1, ?_⟩, fun g hg => by have := (r'.lt g hg).1; have := b1.size; omega⟩
    rcases r'.2 with q | ⟨g, cap, cur, q1, q2, q3⟩
    · exact .inl q
    · exact .inr ⟨g, cap, cur, q1, Nat.zero_le _, q3⟩
  obtain ⟨a2, c2, hv2, _⟩ := hrow.form
  subst hv2
  exact ⟨a2, c2, w', RR, hrow, ⟨g'.os.trans b1.os, g'.tape.trans b1.tape, g'.output.trans b1.output, Nat.le_trans b1.size g'.size, fun k hk => (g'.block k (by have := b1.size; omega) (by simp)).trans (b1.block k hk)⟩⟩
set_option maxRecDepth 100000 in
/-- a key, put amid -/
theorem cins_mid {O : Nat → Prop} {W : World} {g i vc : Nat} {ks : List CmA} (row : Row O W 32 5 (.slice (some ⟨g, 0, none⟩) ks.length vc) ks.length (gcells cCm ks)) (key : CmA) (hl : ks.length ≤ 1000000) (hi : i < ks.length) :
    ∃ a1 c1 n1 w1 a2 c2 w2, (Builtin.append_ #[22, 22] 22 #[.slice (some ⟨W.heap.size, 0, none⟩) 1 1, .slice (some ⟨g, i * 5, none⟩) (ks.length - i) (vc - i)]).run Try.prog (W.alloc (.cells #[.int .u64 key.c.id, .slice key.a key.c.ps.length key.cap, .int .u64 key.c.gen, .int .u64 key.c.root, .string key.c.tx] 32)).drew = .ok (.slice (some a1) n1 c1) w1 ∧
      (Builtin.append_ #[22, 22] 22 #[.slice (some ⟨g, 0, none⟩) i i, .slice (some a1) n1 c1]).run Try.prog w1 = .ok (.slice a2 (ks.take i ++ key :: ks.drop i).length c2) w2 ∧ Row (fun g => W.heap.size ≤ g) w2 32 5 (.slice a2 (ks.take i ++ key :: ks.drop i).length c2) (ks.take i ++ key :: ks.drop i).length (gcells cCm (ks.take i ++ key :: ks.drop i)) ∧ Below W.heap.size W w2 ∧ Below W.heap.size W w1 := by
  obtain ⟨A, hA⟩ : ∃ A, A = (W.alloc (.cells #[.int .u64 key.c.id, .slice key.a key.c.ps.length key.cap, .int .u64 key.c.gen, .int .u64 key.c.root, .string key.c.tx] 32)).drew := ⟨_, rfl⟩
  have bA : Onl (fun _ => False) W A := by rw [hA]; exact ((Onl.refl _ W).alloc _).drew
  have sA : A.heap.size = W.heap.size + 1 := by rw [hA]; simp
  have rA : Row (fun g => g = W.heap.size) A 32 5 (.slice (some ⟨W.heap.size, 0, none⟩) 1 1) [key].length (gcells cCm [key]) := by
    rw [hA]
    exact (row_lit cCm_len 32 W key).onl (F := fun _ => False) ((Onl.refl _ _).drew) (fun _ _ q => q)
  obtain ⟨a0, c0, hv0, rd0, _, _, _, _⟩ := rd_gcells cCm_len row
  injection hv0 with e1 e2 e3
  subst e1
  have rdA := rd0.onl bA (fun _ _ q => q)
  have rdd : RdG cCm 5 A (some ⟨g, i * 5, none⟩) (ks.drop i) := by
    have := rdA.sub i (ks.length - i)
    rwa [List.take_of_length_le (by simp)] at this
  obtain ⟨v1, w1, R1, r1, o1, ow1⟩ := app_cm (cp := vc - i) rA (by simp; omega) rdd
  obtain ⟨g1, c1, hv1, _, _, _, _, _⟩ := r1.shape (by simp)
  subst hv1
  have b1 : Below W.heap.size W w1 := Below.onl (Onl.toBelow bA (fun _ q => q.elim) (Nat.le_refl _)) o1 (fun i q => by cases q; exact Nat.le_refl _) (Nat.le_refl _)
  obtain ⟨a3, c3, hv3, rd3, _⟩ := rd_gcells cCm_len r1
  injection hv3 with e1 e2 e3
  subst e1
  have hgW : g < W.heap.size := row.lt g rfl
  have rdg : RdG cCm 5 w1 (some ⟨g, 0, none⟩) (ks.take i) := by
    have := (rdA.sub 0 i).onl o1 (fun x hx q => by cases hx; simp only [Value.ownBlock, Option.some.injEq] at q; omega)
    simpa using this
  obtain ⟨a2, c2, w2, R2, r2, b2⟩ := cins_outer (W := W) (c1 := c1) hl (by omega) b1 rdg rfl rd3
  rw [List.length_drop, hA] at R1
  exact ⟨_, c1, _, w1, a2, c2, w2, R1, R2, r2, b2, b1⟩
set_option maxRecDepth 100000 in
/-- a key, put at the end -/
theorem cins_end {O : Nat → Prop} {W : World} {g vc : Nat} {ks : List CmA} (row : Row O W 32 5 (.slice (some ⟨g, 0, none⟩) ks.length vc) ks.length (gcells cCm ks)) (key : CmA) (hl : ks.length ≤ 1000000) (x : Option Addr) (cx : Nat) :
    ∃ a2 c2 w2, (Builtin.append_ #[22, 22] 22 #[.slice (some ⟨W.heap.size, 0, none⟩) 1 1, .slice x 0 cx]).run Try.prog (W.alloc (.cells #[.int .u64 key.c.id, .slice key.a key.c.ps.length key.cap, .int .u64 key.c.gen, .int .u64 key.c.root, .string key.c.tx] 32)).drew = .ok (.slice (some ⟨W.heap.size, 0, none⟩) 1 1) (W.alloc (.cells #[.int .u64 key.c.id, .slice key.a key.c.ps.length key.cap, .int .u64 key.c.gen, .int .u64 key.c.root, .string key.c.tx] 32)).drew ∧
      (Builtin.append_ #[22, 22] 22 #[.slice (some ⟨g, 0, none⟩) ks.length ks.length, .slice (some ⟨W.heap.size, 0, none⟩) 1 1]).run Try.prog (W.alloc (.cells #[.int .u64 key.c.id, .slice key.a key.c.ps.length key.cap, .int .u64 key.c.gen, .int .u64 key.c.root, .string key.c.tx] 32)).drew = .ok (.slice a2 (ks ++ [key]).length c2) w2 ∧ Row (fun g => W.heap.size ≤ g) w2 32 5 (.slice a2 (ks ++ [key]).length c2) (ks ++ [key]).length (gcells cCm (ks ++ [key])) ∧ Below W.heap.size W w2 := by
  obtain ⟨i0, hii, _⟩ := info_parts info_cm
  obtain ⟨A, hA⟩ : ∃ A, A = (W.alloc (.cells #[.int .u64 key.c.id, .slice key.a key.c.ps.length key.cap, .int .u64 key.c.gen, .int .u64 key.c.root, .string key.c.tx] 32)).drew := ⟨_, rfl⟩
  have bA : Onl (fun _ => False) W A := by rw [hA]; exact ((Onl.refl _ W).alloc _).drew
  have rA : RdG cCm 5 A (some ⟨W.heap.size, 0, none⟩) [key] := by
    rw [hA]
    exact (rd_lit (c := cCm) (k := 5) 32 W key).onl (O := fun _ => False) ((Onl.refl _ _).drew) (fun _ _ q => q)
  obtain ⟨a0, c0, hv0, rd0, _, _, _, _⟩ := rd_gcells cCm_len row
  injection hv0 with e1 e2 e3
  subst e1
  have rdA := rd0.onl bA (fun _ _ q => q)
  obtain ⟨a2, c2, w2, R2, r2, b2⟩ := cins_outer (W := W) (w1 := A) (c1 := 1) (i := ks.length) (key := key) hl (Nat.le_refl _) (Onl.toBelow bA (fun _ q => q.elim) (Nat.le_refl _)) (by rw [List.take_length]; exact rdA) (n1 := 1) (by simp) (by rw [List.drop_length]; exact rA)
  simp only [List.take_length, List.drop_length] at R2 r2
  rw [← hA]
  exact ⟨a2, c2, w2, app_zero Try.underlying22 hii (Nat.le_refl _), R2, r2, b2⟩
set_option maxRecDepth 100000 in
/-- the first key -/
theorem cins_first (W : World) (key : CmA) :
    ∃ a2 c2 w2, (Builtin.append_ #[22, 22] 22 #[.slice (some ⟨W.heap.size, 0, none⟩) 1 1, .slice none 0 0]).run Try.prog (W.alloc (.cells #[.int .u64 key.c.id, .slice key.a key.c.ps.length key.cap, .int .u64 key.c.gen, .int .u64 key.c.root, .string key.c.tx] 32)).drew = .ok (.slice (some ⟨W.heap.size, 0, none⟩) 1 1) (W.alloc (.cells #[.int .u64 key.c.id, .slice key.a key.c.ps.length key.cap, .int .u64 key.c.gen, .int .u64 key.c.root, .string key.c.tx] 32)).drew ∧
      (Builtin.append_ #[22, 22] 22 #[.slice none 0 0, .slice (some ⟨W.heap.size, 0, none⟩) 1 1]).run Try.prog (W.alloc (.cells #[.int .u64 key.c.id, .slice key.a key.c.ps.length key.cap, .int .u64 key.c.gen, .int .u64 key.c.root, .string key.c.tx] 32)).drew = .ok (.slice a2 1 c2) w2 ∧ Row (fun g => W.heap.size ≤ g) w2 32 5 (.slice a2 1 c2) [key].length (gcells cCm [key]) ∧ Below W.heap.size W w2 := by
  obtain ⟨i0, hii, _⟩ := info_parts info_cm
  obtain ⟨A, hA⟩ : ∃ A, A = (W.alloc (.cells #[.int .u64 key.c.id, .slice key.a key.c.ps.length key.cap, .int .u64 key.c.gen, .int .u64 key.c.root, .string key.c.tx] 32)).drew := ⟨_, rfl⟩
  have bA : Onl (fun _ => False) W A := by rw [hA]; exact ((Onl.refl _ W).alloc _).drew
  have sA : A.heap.size = W.heap.size + 1 := by rw [hA]; simp
  have rA : RdG cCm 5 A (some ⟨W.heap.size, 0, none⟩) [key] := by
    rw [hA]
    exact (rd_lit (c := cCm) (k := 5) 32 W key).onl (O := fun _ => False) ((Onl.refl _ _).drew) (fun _ _ q => q)
  obtain ⟨v2, w2, R2, r2, o2, ow2⟩ := app_cm (cp := 1) (l := []) (Row.nil (fun _ => False) A 32 5) (by simp) rA
  obtain ⟨a2, c2, hv2, _⟩ := r2.form
  subst hv2
  rw [← hA]
  exact ⟨a2, c2, w2, app_zero Try.underlying22 hii (Nat.le_refl _), R2, ⟨r2.1, fun g hg => (r2.2 g hg).elim (fun q => q.elim) (fun q => by omega)⟩, Below.onl (Onl.toBelow bA (fun _ q => q.elim) (Nat.le_refl _)) o2 (fun i q => by cases q) (Nat.le_refl _)⟩
end Go.Proofs.Ytmkafoidfgaokaa
namespace Go.Proofs.Ytmkafoidfgaokaa
open Go.RowKit Apo
set_option maxRecDepth 100000 in
set_option maxHeartbeats 8000000 in
theorem rcommit14 (c : Cm) (a : Option Addr) (cap : Nat) (w : World) (hr : Rd .u64 w a c.ps) (hl : c.ps.length ≤ cap) (_hc : cap ≤ 9223372036854775807) (ht : c.tx.size ≤ 9223372036854775807) :
    Calls Try.prog 50 #[cmV c.id a c.ps.length cap c.gen c.root c.tx] w fun e w' => e = .returned (.int .i64 (cmE c)) ∧ Below w.heap.size w w' := by
  obtain ⟨id, ps, gen, root, tx⟩ := c
  simp only at hr hl ht ⊢
  obtain ⟨n, hn⟩ : ∃ n, n = ps.length := ⟨_, rfl⟩
  have HE : Hid (cmE ⟨id, ps, gen, root, tx⟩ = if id = 0 then 120 else if parOk id ps = false then 120 else if genOk n gen = false then 120 else if txtOk tx = false then 121 else 0) := hide (by rw [hn]; rfl)
  have HC3 := hide (fun W => rtext_any14 tx W ht)
  rw [← hn] at hl ⊢
  have HL := hide hn
  have HR := hide hr
  have bA := (Below.refl w.heap.size w).alloc (Nat.le_refl _) (.cells #[.int .u64 id, .slice a n cap, .int .u64 gen, .int .u64 root, .string tx] 32)
  have HB := hide bA
  have HK := hide (Ob.new w [.int .u64 id, .slice a n cap, .int .u64 gen, .int .u64 root, .string tx] 32)
  clear hr ht bA hn
  by_cases h0 : id = 0
  · subst h0
    have HX : Hid (cmE ⟨0, ps, gen, root, tx⟩ = 120) := hide (by rw [HE.out]; simp)
    go_enter Try.func50, Try.ntmps50
    go_wp2
    go_ret
    exact ⟨by rw [HX.out]; rfl, HB.out⟩
  · have d0 : (id == 0) = false := by simpa using h0
    by_cases h2 : 2 < n
    · have HX : Hid (cmE ⟨id, ps, gen, root, tx⟩ = 120) := hide (by rw [HE.out, if_neg h0, if_pos (parOk_long (by have := HL.out; omega))])
      have d1 : decide ((2 : Int) < (n : Int)) = true := by simp; omega
      have d2 : decide (2 < n) = true := by simp; omega
      go_enter Try.func50, Try.ntmps50
      go_wp2
      go_ret
      exact ⟨by rw [HX.out]; rfl, HB.out⟩
    · have d1 : decide ((2 : Int) < (n : Int)) = false := by simp; omega
      have d2 : decide (2 < n) = false := by simp; omega
      have h3 : n ≤ 2 := by omega
      clear h2
      go_enter Try.func50, Try.ntmps50
      go_wp2
      go_loopw [17] (fun s wx => ∃ k : Nat, k ≤ n ∧ s = .int .i64 k ∧ Hid (parOk id (ps.take k) = true) ∧ Hid (Below w.heap.size w wx) ∧ Hid (Ob wx w.heap.size 32 [.int .u64 id, .slice a n cap, .int .u64 gen, .int .u64 root, .string tx])) (fun i _ => n - (intOf i).toNat)
      case atStart => exact ⟨0, by omega, rfl, hide (by simp [parOk]), HB, HK⟩
      case round =>
        clear HB HK
        obtain ⟨k, hk, rfl, HP, HB, HK⟩ := hrel
        have x0 := HK.out.cell 0
        have x1 := HK.out.cell 1
        have x2 := HK.out.cell 2
        have x4 := HK.out.cell 4
        simp only [List.getElem?_cons_zero, List.getElem?_cons_succ] at x0 x1 x2 x4
        by_cases hlt : k < n
        · obtain ⟨b, off, z, ha, hcz, hz, _⟩ := (HR.out.below HB.out).at (by have := HL.out; omega : k < ps.length)
          subst ha
          by_cases hz0 : z = 0
          · have HX : Hid (cmE ⟨id, ps, gen, root, tx⟩ = 120) := hide (by rw [HE.out, if_neg h0, if_pos (par_no (by have := HL.out; omega) hz.out (.inl hz0))])
            subst hz0
            go_wp2
            go_ret
            exact ⟨by rw [HX.out]; rfl, HB.out⟩
          · have q1 : (z == 0) = false := by simpa using hz0
            by_cases hz1 : id ≤ z
            · have HX : Hid (cmE ⟨id, ps, gen, root, tx⟩ = 120) := hide (by rw [HE.out, if_neg h0, if_pos (par_no (by have := HL.out; omega) hz.out (.inr (.inl hz1)))])
              go_wp2
              go_ret
              exact ⟨by rw [HX.out]; rfl, HB.out⟩
            · by_cases hk0 : k = 0
              · subst hk0
                rw [Nat.add_zero] at hcz
                have HS := hide (par_step (by have := HL.out; omega) HP.out hz.out hz0 (by omega) (fun j hj => by omega))
                go_wp2
                go_roundw
                case rel => exact ⟨1, by omega, by simp, HS, HB, HK⟩
                case measure => simp [intOf]; omega
              · obtain rfl : k = 1 := by omega
                obtain ⟨b', off', y, ha, hcy, hy, _⟩ := (HR.out.below HB.out).at (by have := HL.out; omega : 0 < ps.length)
                injection ha with ha
                injection ha with ha1 ha2
                subst ha1 ha2
                rw [Nat.add_zero] at hcy
                by_cases hyz : z = y
                · have HX : Hid (cmE ⟨id, ps, gen, root, tx⟩ = 120) := hide (by rw [HE.out, if_neg h0, if_pos (par_no (by have := HL.out; omega) hz.out (.inr (.inr ⟨0, by omega, by rw [hyz]; exact hy.out⟩)))])
                  subst hyz
                  have q2 : (z == z) = true := by simp
                  go_wp2
                  go_ret
                  exact ⟨by rw [HX.out]; rfl, HB.out⟩
                · have q2 : (z == y) = false := by simpa using hyz
                  have HS := hide (par_step (by have := HL.out; omega) HP.out hz.out hz0 (by omega) (fun j hj => by
                    obtain rfl : j = 0 := by omega
                    rw [hy.out]
                    intro e
                    exact hyz (Option.some.inj e).symm))
                  go_wp2
                  go_roundw
                  case rel => exact ⟨2, by omega, by simp, HS, HB, HK⟩
                  case measure => simp [intOf]; omega
        · obtain rfl : k = n := by omega
          have HE2 : Hid (cmE ⟨id, ps, gen, root, tx⟩ = if genOk k gen = false then 120 else if txtOk tx = false then 121 else 0) := hide (by
            have := HP.out
            rw [HL.out, List.take_length] at this
            rw [HE.out, if_neg h0, if_neg (by simp [this])])
          clear HE HP
          by_cases hk0 : k = 0
          · subst hk0
            by_cases hg1 : gen = 1
            · have hg : genOk 0 gen = true := by simp [genOk, hg1]
              have g1 : (gen != 1) = false := by simpa using hg1
              have g2 : (gen == 1) = true := by simpa using hg1
              cases ht : txtOk tx with
              | false =>
                have HX : Hid (cmE ⟨id, ps, gen, root, tx⟩ = 121) := hide (by rw [HE2.out, if_neg (by simp [hg]), if_pos ht])
                rw [ht] at HC3
                clear ht HE2 hg
                go_wp2_with fail
                refine (HC3.out _).mono ?_
                rintro e w3 ⟨rfl, rfl⟩
                go_wp2
                go_ret
                exact ⟨by rw [HX.out]; rfl, HB.out⟩
              | true =>
                have HX : Hid (cmE ⟨id, ps, gen, root, tx⟩ = 0) := hide (by rw [HE2.out, if_neg (by simp [hg]), if_neg (by simp [ht])])
                rw [ht] at HC3
                clear ht HE2 hg
                go_wp2_with fail
                refine (HC3.out _).mono ?_
                rintro e w3 ⟨rfl, rfl⟩
                go_wp2
                go_ret
                exact ⟨by rw [HX.out]; rfl, HB.out⟩
            · have HX : Hid (cmE ⟨id, ps, gen, root, tx⟩ = 120) := hide (by rw [HE2.out, if_pos (by simp [genOk, hg1])])
              have g1 : (gen != 1) = true := by simpa using hg1
              have g2 : (gen == 1) = false := by simpa using hg1
              clear HE2
              go_wp2
              go_ret
              exact ⟨by rw [HX.out]; rfl, HB.out⟩
          · have e1 : ((k : Int) == 0) = false := by simp; omega
            have e2 : decide ((0 : Int) < (k : Int)) = true := by simp; omega
            have e3 : decide (0 < k) = true := by simp; omega
            have e4 : (k == 0) = false := by simp; omega
            by_cases hg1 : gen < 2
            · have HX : Hid (cmE ⟨id, ps, gen, root, tx⟩ = 120) := hide (by rw [HE2.out, if_pos (by unfold genOk; rw [if_neg hk0]; simp; omega)])
              clear HE2
              go_wp2
              go_ret
              exact ⟨by rw [HX.out]; rfl, HB.out⟩
            · have hg : genOk k gen = true := by unfold genOk; rw [if_neg hk0]; simp; omega
              cases ht : txtOk tx with
              | false =>
                have HX : Hid (cmE ⟨id, ps, gen, root, tx⟩ = 121) := hide (by rw [HE2.out, if_neg (by simp [hg]), if_pos ht])
                rw [ht] at HC3
                clear ht HE2 hg
                go_wp2_with fail
                refine (HC3.out _).mono ?_
                rintro e w3 ⟨rfl, rfl⟩
                go_wp2
                go_ret
                exact ⟨by rw [HX.out]; rfl, HB.out⟩
              | true =>
                have HX : Hid (cmE ⟨id, ps, gen, root, tx⟩ = 0) := hide (by rw [HE2.out, if_neg (by simp [hg]), if_neg (by simp [ht])])
                rw [ht] at HC3
                clear ht HE2 hg
                go_wp2_with fail
                refine (HC3.out _).mono ?_
                rintro e w3 ⟨rfl, rfl⟩
                go_wp2
                go_ret
                exact ⟨by rw [HX.out]; rfl, HB.out⟩
end Go.Proofs.Ytmkafoidfgaokaa
namespace Go.Proofs.Ytmkafoidfgaokaa
open Go.RowKit Apo
/-- what Add answers, and what is there behind it -/
def AdP (w0 w : World) (p : Nat) (L : List CmA) (x : CmA) (e : Ending) (w' : World) : Prop :=
  e = .returned (.int .i64 (addE (L.map CmA.c) x.c)) ∧ (∃ L', L'.map CmA.c = addL (L.map CmA.c) x.c ∧ Gr w0 w' p L' ∧ L'.length ≤ L.length + 1) ∧ Onl (fun i => i = p) w w'
theorem adP_same {w0 w w' : World} {p : Nat} {L : List CmA} {x : CmA} {E : Int} (h : Gr w0 w p L) (hE : addE (L.map CmA.c) x.c = E) (h0 : E ≠ 0) (b : Below w.heap.size w w') : AdP w0 w p L x (.returned (.int .i64 E)) w' :=
  ⟨by rw [hE], ⟨L, by unfold addL; rw [if_neg (by rw [hE]; exact h0)], h.old b, by omega⟩, Onl.ofBelow b⟩
theorem gen_bd {w0 w : World} {p : Nat} {L : List CmA} (h : Gr w0 w p L) {i : Nat} {x : CmA} (hx : L[i]? = some x) : 0 ≤ x.c.gen ∧ x.c.gen ≤ 18446744073709551615 := (h.cm x (List.mem_of_getElem? hx)).sz.2.2.1
/-- one commit more -/
theorem adP_more {w0 w W3 w2 : World} {p : Nat} {L : List CmA} {x : CmA} {i : Nat} {a2 : Option Addr} {c2 : Nat} {LL : List CmA} (h : Gr w0 w p L) (hl : L.length < 1000) (hx : CmR w0 x.c x.a x.cap) (hE : addE (L.map CmA.c) x.c = 0) (hi : insAt (L.map CmA.c) x.c.id = i) (hLL : LL = L.take i ++ x :: L.drop i) (bW : Below w.heap.size w W3)
    (r2 : Row (fun g => W3.heap.size ≤ g) w2 32 5 (.slice a2 LL.length c2) LL.length (gcells cCm LL)) (bb : Below W3.heap.size W3 w2) :
    AdP w0 w p L x (.returned (.int .i64 0)) (w2.setCell ⟨p, 0, none⟩ (.slice a2 LL.length c2)) := by
  have hpl := h.lt
  have hW3 := bW.size
  obtain ⟨a0, c0, k0, _⟩ := h.mem
  have k2 := (k0.old bW).old bb
  have o1 : Onl (fun i => i = p) w2 (w2.setCell ⟨p, 0, none⟩ (.slice a2 LL.length c2)) := (Onl.refl (fun i => i = p) w2).set (p := p) (.inl rfl) _
  have b2 : Below w.heap.size w w2 := bW.trans (bb.mono hW3)
  refine ⟨by rw [hE], ⟨LL, ?_, ⟨?_, h.lo, ⟨a2, c2, k2.set 0 _, ?_⟩, ?_, ?_⟩, ?_⟩, (Onl.ofBelow b2).trans o1⟩
  · unfold addL
    rw [if_pos hE, hi, hLL, List.map_append, List.map_cons, List.map_take, List.map_drop]
  · exact Below.onl (h.b.trans (b2.mono h.b.size)) o1 (fun i q => by have := h.lo; omega) (Nat.le_refl _)
  · refine (r2.onl o1 (fun g hg q => by have := r2.2 g hg; omega)).mono (fun g hg => ⟨?_, ?_⟩)
    · have := h.b.size; omega
    · omega
  · intro y hy
    rw [hLL] at hy
    simp only [List.mem_append, List.mem_cons] at hy
    rcases hy with hy | rfl | hy
    · exact h.cm y (List.mem_of_mem_take hy)
    · exact hx
    · exact h.cm y (List.mem_of_mem_drop hy)
  · rw [hLL]; simp; omega
  · rw [hLL]; simp; omega
attribute [local go_sem ↓] Apo.app_exec
set_option maxRecDepth 100000 in
set_option maxHeartbeats 8000000 in
theorem add_any {w0 w : World} {p : Nat} {L : List CmA} (h : Gr w0 w p L) (hl : L.length < 1000) (x : CmA) (hx : CmR w0 x.c x.a x.cap) :
    Calls Try.prog 34 #[.pointer (some ⟨p, 0, none⟩), cmV x.c.id x.a x.c.ps.length x.cap x.c.gen x.c.root x.c.tx] w (AdP w0 w p L x) := by
  obtain ⟨c, a, cap⟩ := x
  simp only at hx ⊢
  have bA := (Below.refl w.heap.size w).alloc (Nat.le_refl _) (.cells #[.int .u64 c.id, .slice a c.ps.length cap, .int .u64 c.gen, .int .u64 c.root, .string c.tx] 32)
  have hcr := (hx.below h.b).below bA
  have HC := hide (rcommit14 c a cap _ hcr.rd hcr.len hcr.big hcr.txt)
  have HK := hide (Ob.new w [.int .u64 c.id, .slice a c.ps.length cap, .int .u64 c.gen, .int .u64 c.root, .string c.tx] 32)
  have HB := hide bA
  have HG := hide h
  have HX := hide hx
  have HL := hide hl
  have hpl := h.lt
  obtain ⟨np, hnp⟩ : ∃ np, np = c.ps.length := ⟨_, rfl⟩
  have HNP := hide hnp
  rw [← hnp] at HC HK HB ⊢
  clear h hx hl bA hcr hnp
  by_cases he : cmE c = 0
  · rw [he] at HC
    go_enter Try.func34, Try.ntmps34
    go_wp2_with fail
    refine HC.out.mono ?_
    rintro e w1 ⟨rfl, b1⟩
    have HB1 := hide (HB.out.trans (b1.mono HB.out.size))
    have HK1 := hide (HK.out.old b1)
    have HA := hide (at_any (HG.out.old HB1.out) c.id)
    have x0 := HK1.out.cell 0
    simp only [List.getElem?_cons_zero] at x0
    have hs1 : w.heap.size < w1.heap.size := HK1.out.lt
    clear b1 HB HK HC
    go_wp2_with fail
    refine HA.out.mono ?_
    rintro e w2 ⟨rfl, b2⟩
    have HB2 := hide (HB1.out.trans (b2.mono HB1.out.size))
    have HK2 := hide (HK1.out.old b2)
    clear b2 HB1 HK1 HA x0
    rcases at_cases (L.map CmA.c) c.id with ⟨i, d, h1, h2, h3⟩ | ⟨h2, h3⟩
    · rw [h3]
      have HF := hide (adP_same (x := ⟨c, a, cap⟩) HG.out (E := 112) (by unfold addE; rw [if_neg (by simp [he]), if_pos (by rw [h2]; rfl)]) (by decide) HB2.out)
      have d1 : decide ((0 : Int) ≤ (i : Int)) = true := by simp
      clear h1 h2 h3
      go_wp2
      go_ret
      exact HF.out
    · rw [h3]
      have HE : Hid (addE (L.map CmA.c) c = match genUp (L.map CmA.c) c.ps 0 with | none => 120 | some g => if c.gen = (g + 1) % 18446744073709551616 then 0 else 120) := hide (by unfold addE; rw [if_neg (by simp [he]), if_neg (by rw [h2]; simp)]; rfl)
      have x1 := HK2.out.cell 1
      simp only [List.getElem?_cons_zero, List.getElem?_cons_succ] at x1
      have hnp2 : np ≤ 2 := by rw [HNP.out]; exact (cmE_ok he).2.1
      clear h2 h3 he
      go_wp2
      clear x1
      go_loopw [6, 25] (fun v i wr => ∃ (k : Nat) (g : Int), k ≤ np ∧ i = .int .i64 k ∧ v = .int .u64 g ∧ 0 ≤ g ∧ g ≤ 18446744073709551615 ∧ Hid (genUp (L.map CmA.c) c.ps 0 = genUp (L.map CmA.c) (c.ps.drop k) g) ∧ Hid (Below w.heap.size w wr) ∧ Hid (Ob wr w.heap.size 32 [.int .u64 c.id, .slice a np cap, .int .u64 c.gen, .int .u64 c.root, .string c.tx])) (fun _ i _ => np - (intOf i).toNat)
      case atStart => exact ⟨0, 0, Nat.zero_le _, rfl, rfl, by omega, by omega, hide (by simp), HB2, HK2⟩
      case round =>
        clear HB2 HK2
        obtain ⟨k, g, hk, rfl, rfl, g0, g1, HGU, HB, HK⟩ := hrel
        by_cases hlt : k < np
        · have hrd := (HX.out.below (HG.out.b.trans (HB.out.mono HG.out.b.size))).rd
          obtain ⟨b, off, z, ha, hcz, hz, _⟩ := hrd.at (by have := HNP.out; omega : k < c.ps.length)
          subst ha
          have hdr : c.ps.drop k = z :: c.ps.drop (k + 1) := by
            have hkl : k < c.ps.length := by have := HNP.out; omega
            rw [List.drop_eq_getElem_cons hkl]
            congr 1
            have := hz.out
            rw [List.getElem?_eq_getElem hkl] at this
            exact Option.some.inj this
          have HCG := hide (get_any (HG.out.old HB.out) z)
          have HGN : Hid (genUp (L.map CmA.c) c.ps 0 = match getG (L.map CmA.c) z with | none => none | some x => genUp (L.map CmA.c) (c.ps.drop (k + 1)) (if g < x.gen then x.gen else g)) := hide (by rw [HGU.out, hdr]; rfl)
          clear hrd hz hdr HGU
          go_wp2_with fail
          refine HCG.out.mono ?_
          rintro e w3 ⟨⟨i, x, hxi, hg, rfl⟩ | ⟨hg, rfl⟩, b3⟩
          · have HB3 := hide (HB.out.trans (b3.mono HB.out.size))
            have HK3 := hide (HK.out.old b3)
            have hgb := gen_bd HG.out hxi
            have HBA := hide (HB3.out.alloc HB3.out.size (.cells #[.int .u64 x.c.id, .slice x.a x.c.ps.length x.cap, .int .u64 x.c.gen, .int .u64 x.c.root, .string x.c.tx] 32))
            have HKA := hide (HK3.out.alloc (.cells #[.int .u64 x.c.id, .slice x.a x.c.ps.length x.cap, .int .u64 x.c.gen, .int .u64 x.c.root, .string x.c.tx] 32))
            rw [hg] at HGN
            clear b3 hg hxi HCG HB HK HB3 HK3
            by_cases hgt : g < x.c.gen
            · have HG2 : Hid (genUp (L.map CmA.c) c.ps 0 = genUp (L.map CmA.c) (c.ps.drop (k + 1)) x.c.gen) := hide (by rw [HGN.out]; simp only; rw [if_pos hgt])
              clear HGN
              go_wp2
              go_roundw
              case rel => exact ⟨k + 1, x.c.gen, by omega, by simp, rfl, hgb.1, hgb.2, HG2, HBA, HKA⟩
              case measure => simp [intOf]; omega
            · have HG2 : Hid (genUp (L.map CmA.c) c.ps 0 = genUp (L.map CmA.c) (c.ps.drop (k + 1)) g) := hide (by rw [HGN.out]; simp only; rw [if_neg hgt])
              clear HGN
              go_wp2
              go_roundw
              case rel => exact ⟨k + 1, g, by omega, by simp, rfl, g0, g1, HG2, HBA, HKA⟩
              case measure => simp [intOf]; omega
          · have HF := hide (adP_same (x := ⟨c, some ⟨b, off, none⟩, cap⟩) HG.out (E := 120) (by simp only; rw [HE.out, HGN.out, hg]) (by decide) ((HB.out.trans (b3.mono HB.out.size)).alloc (HB.out.trans (b3.mono HB.out.size)).size (.cells #[.int .u64 0, .slice none 0 0, .int .u64 0, .int .u64 0, .string ⟨#[]⟩] 32)))
            clear b3 hg HCG HB HK HGN HE
            go_wp2
            go_ret
            exact HF.out
        · obtain rfl : k = np := by omega
          have HGU2 : Hid (genUp (L.map CmA.c) c.ps 0 = some g) := hide (by rw [HGU.out, HNP.out, List.drop_length]; rfl)
          have HE2 : Hid (addE (L.map CmA.c) c = if c.gen = (g + 1) % 18446744073709551616 then 0 else 120) := hide (by rw [HE.out, HGU2.out])
          have y0 := HK.out.cell 0
          have y2 := HK.out.cell 2
          simp only [List.getElem?_cons_zero, List.getElem?_cons_succ] at y0 y2
          clear HE HGU HGU2
          by_cases hgen : c.gen = (g + 1) % 18446744073709551616
          · have hgw : (c.gen != IntKind.u64.wrap (g + 1)) = false := by rw [IntKind.wrap_u64]; simpa using hgen
            have HE3 : Hid (addE (L.map CmA.c) c = 0) := hide (by rw [HE2.out, if_pos hgen])
            have hGr := HG.out.old HB.out
            obtain ⟨va, vc, k0, row⟩ := hGr.mem
            obtain ⟨a2, c2, hv, rd, hvc, hvm, hvn, hvx⟩ := rd_gcells cCm_len row
            injection hv with e1 e2 e3
            subst e1 e3
            have HROW := hide row
            have HRD := hide rd
            have HK0 := hide k0
            have HGR := hide hGr
            obtain ⟨n, hn⟩ : ∃ n, n = L.length := ⟨_, rfl⟩
            have HN := hide hn
            have hn1 : n < 1000 := by have := HL.out; omega
            have HOB : Hid (Ob wr p 58 [.slice va n vc]) := hide (by rw [hn]; exact k0)
            have HVX := hide hvx
            clear HE2 hgen hGr k0 row rd hvx hn
            go_wp2
            go_loopw [11] (fun v wx => ∃ k : Nat, k ≤ n ∧ v = .int .i64 k ∧ Hid (∀ j y, j < k → (L.map CmA.c)[j]? = some y → y.id < c.id) ∧ Hid (Below wr.heap.size wr wx)) (fun i _ => n - (intOf i).toNat)
            case atStart => exact ⟨0, Nat.zero_le _, rfl, hide (fun j y hj => by omega), hide (Below.refl _ _)⟩
            case round =>
              obtain ⟨i, hi, rfl, HI, HBX⟩ := hrel
              have kp := HOB.out.old HBX.out
              have kq := HK.out.old HBX.out
              have p0 := kp.cell 0
              have q0 := kq.cell 0
              simp only [List.getElem?_cons_zero] at p0 q0
              by_cases hin : i < n
              · obtain ⟨y, hy⟩ : ∃ y, L[i]? = some y := ⟨L[i]'(by have := HN.out; omega), List.getElem?_eq_getElem _⟩
                obtain ⟨gg, go, rfl, r0, r1, r2, r3, r4⟩ := rd_cm (HRD.out.below HBX.out) hy
                have hyc : (L.map CmA.c)[i]? = some y.c := by rw [List.getElem?_map, hy]; rfl
                have d5 : decide ((i : Int) < (n : Int)) = true := by simp; omega
                by_cases hlt2 : y.c.id < c.id
                · have HI2 : Hid (∀ j z, j < i + 1 → (L.map CmA.c)[j]? = some z → z.id < c.id) := hide (fun j z hj hz => by
                    by_cases q : j = i
                    · subst q
                      rw [hyc] at hz
                      injection hz with hz
                      rw [← hz]
                      exact hlt2
                    · exact HI.out j z (by omega) hz)
                  have d6 : decide (y.c.id < c.id) = true := by simpa using hlt2
                  clear hy hyc kp kq
                  go_wp2
                  go_quiet (fail)
                  go_wp2
                  go_roundw
                  case rel => exact ⟨i + 1, by omega, by simp, HI2, hide (below_drewN HBX.out _)⟩
                  case measure => simp [intOf]; omega
                · have d6 : decide (y.c.id < c.id) = false := by simpa using hlt2
                  have HIN : Hid (insAt (L.map CmA.c) c.id = i) := hide (insAt_is (by simp; have := HN.out; omega) HI.out (fun z hz => by
                    rw [hyc] at hz
                    injection hz with hz
                    rw [← hz]
                    exact hlt2))
                  obtain ⟨g', e1, hO⟩ := HVX.out _ rfl
                  injection e1 with e1 e2
                  subst e1 e2
                  rw [Nat.zero_add] at r0
                  clear hy hyc kp kq hlt2 hO
                  go_wp2
                  go_quiet (fail)
                  have b3 := below_drewN HBX.out nq
                  generalize wr.drewN nq = W3 at b3 ⊢
                  have row3 := HROW.out.onl (F := fun _ => False) (Onl.ofBelow b3) (fun _ _ q => q)
                  obtain ⟨a1, c1, n1, w3, a2, c2, w4, R1, R2, rr, bb2, bb1⟩ := cins_mid (i := i) row3 ⟨c, a, cap⟩ (by have := HL.out; omega) (by have := HN.out; omega)
                  obtain ⟨LL, hLL⟩ : ∃ LL, LL = L.take i ++ (⟨c, a, cap⟩ : CmA) :: L.drop i := ⟨_, rfl⟩
                  rw [← hLL] at rr R2
                  have HF := hide (adP_more HG.out HL.out HX.out HE3.out HIN.out hLL (HB.out.trans (b3.mono HB.out.size)) rr bb2)
                  have kp3 := HOB.out.old b3
                  have p0 := kp3.cell 0
                  have pd := (kp3.alloc (.cells #[.int .u64 c.id, .slice a k cap, .int .u64 c.gen, .int .u64 c.root, .string c.tx] 32)).cell 0
                  have p1 := (kp3.old bb1).cell 0
                  have p2 := (kp3.old bb2).cell 0
                  have pf := (kp3.old bb2).frozen 0
                  have kq3 := HK.out.old b3
                  have y0 := kq3.cell 0
                  have y1 := kq3.cell 1
                  have y2 := kq3.cell 2
                  have y3 := kq3.cell 3
                  have y4 := kq3.cell 4
                  simp only [List.getElem?_cons_zero, List.getElem?_cons_succ] at p0 pd p1 p2 y0 y1 y2 y3 y4
                  simp only [← HNP.out, ← HN.out] at R1
                  obtain ⟨n2, hn2⟩ : ∃ n2, n2 = LL.length := ⟨_, rfl⟩
                  rw [← hn2] at R2 HF
                  obtain ⟨z1, z2, z3⟩ := app_runs R1
                  obtain ⟨z4, z5, z6⟩ := app_runs R2
                  have hnv : n ≤ vc := by have := HN.out; omega
                  have hvm2 : vc ≤ 9223372036854775807 := by unfold maxLen at hvm; omega
                  have hie : ¬ vc = i := by omega
                  clear R1 R2 rr bb2 bb1 hLL hn2 row3 kp3 kq3 b3 HBX r0 r1 r2 r3 r4
                  go_wp2
                  go_region
                  all_goals (
                    go_wp2
                    go_ret
                    exact HF.out)
              · have d5 : decide ((i : Int) < (n : Int)) = false := by simp; omega
                obtain rfl : i = n := by omega
                have HIN : Hid (insAt (L.map CmA.c) c.id = i) := hide (insAt_is (by simp; have := HN.out; omega) HI.out (fun z hz => by
                  have := (List.getElem?_eq_some_iff.1 hz).1
                  have := HN.out
                  simp at *
                  omega))
                clear kp kq
                go_wp2
                go_quiet (fail)
                have b3 := below_drewN HBX.out nq
                generalize wr.drewN nq = W3 at b3 ⊢
                have row3 := HROW.out.onl (F := fun _ => False) (Onl.ofBelow b3) (fun _ _ q => q)
                have hnv : i ≤ vc := by have := HN.out; omega
                clear p0 q0
                cases va with
                | none =>
                  obtain rfl : vc = 0 := hvn rfl
                  obtain rfl : i = 0 := by omega
                  have hLn : L = [] := List.eq_nil_of_length_eq_zero HN.out.symm
                  obtain ⟨a2, c2, w4, R1, R2, rr, bb2⟩ := cins_first W3 ⟨c, a, cap⟩
                  have HF := hide (adP_more (LL := [⟨c, a, cap⟩]) HG.out HL.out HX.out HE3.out HIN.out (i := 0) (by rw [hLn]; rfl) (HB.out.trans (b3.mono HB.out.size)) rr bb2)
                  have kp3 := HOB.out.old b3
                  have p0 := kp3.cell 0
                  have pd := (kp3.alloc (.cells #[.int .u64 c.id, .slice a k cap, .int .u64 c.gen, .int .u64 c.root, .string c.tx] 32)).cell 0
                  have p2 := (kp3.old bb2).cell 0
                  have pf := (kp3.old bb2).frozen 0
                  have kq3 := HK.out.old b3
                  have y0 := kq3.cell 0
                  have y1 := kq3.cell 1
                  have y2 := kq3.cell 2
                  have y3 := kq3.cell 3
                  have y4 := kq3.cell 4
                  simp only [List.getElem?_cons_zero, List.getElem?_cons_succ] at p0 pd p2 y0 y1 y2 y3 y4
                  simp only [← HNP.out] at R1 R2
                  obtain ⟨z1, z2, z3⟩ := app_runs R1
                  obtain ⟨z4, z5, z6⟩ := app_runs R2
                  clear R1 R2 rr bb2 hLn row3 kp3 kq3 b3 HBX
                  go_wp2
                  go_region
                  all_goals (
                    go_wp2
                    go_ret
                    exact HF.out)
                | some ad =>
                  obtain ⟨g', e1, hO⟩ := HVX.out _ rfl
                  subst e1
                  clear hO
                  by_cases hie : vc = i
                  · subst hie
                    obtain ⟨a2, c2, w4, R1, R2, rr, bb2⟩ := cins_end row3 ⟨c, a, cap⟩ (by have := HL.out; omega) (some ⟨g', 0, none⟩) (vc - vc)
                    obtain ⟨LL, hLL⟩ : ∃ LL, LL = L ++ [(⟨c, a, cap⟩ : CmA)] := ⟨_, rfl⟩
                    rw [← hLL] at rr R2
                    have HF := hide (adP_more HG.out HL.out HX.out HE3.out HIN.out (i := vc) (by rw [hLL, HN.out, List.take_length, List.drop_length]) (HB.out.trans (b3.mono HB.out.size)) rr bb2)
                    have kp3 := HOB.out.old b3
                    have p0 := kp3.cell 0
                    have pd := (kp3.alloc (.cells #[.int .u64 c.id, .slice a k cap, .int .u64 c.gen, .int .u64 c.root, .string c.tx] 32)).cell 0
                    have p2 := (kp3.old bb2).cell 0
                    have pf := (kp3.old bb2).frozen 0
                    have kq3 := HK.out.old b3
                    have y0 := kq3.cell 0
                    have y1 := kq3.cell 1
                    have y2 := kq3.cell 2
                    have y3 := kq3.cell 3
                    have y4 := kq3.cell 4
                    simp only [List.getElem?_cons_zero, List.getElem?_cons_succ] at p0 pd p2 y0 y1 y2 y3 y4
                    simp only [← HNP.out, ← HN.out] at R1 R2
                    obtain ⟨n2, hn2⟩ : ∃ n2, n2 = LL.length := ⟨_, rfl⟩
                    rw [← hn2] at R2 HF
                    rw [Nat.sub_self] at R1
                    obtain ⟨z1, z2, z3⟩ := app_runs R1
                    obtain ⟨z4, z5, z6⟩ := app_runs R2
                    have hvm2 : vc ≤ 9223372036854775807 := by unfold maxLen at hvm; omega
                    clear R1 R2 rr bb2 hLL hn2 row3 kp3 kq3 b3 HBX
                    go_wp2
                    go_region
                    all_goals (
                      go_wp2
                      go_ret
                      exact HF.out)
                  · obtain ⟨a2, c2, w4, R1, R2, rr, bb2⟩ := cins_end row3 ⟨c, a, cap⟩ (by have := HL.out; omega) (some ⟨g', i * 5, none⟩) (vc - i)
                    obtain ⟨LL, hLL⟩ : ∃ LL, LL = L ++ [(⟨c, a, cap⟩ : CmA)] := ⟨_, rfl⟩
                    rw [← hLL] at rr R2
                    have HF := hide (adP_more HG.out HL.out HX.out HE3.out HIN.out (i := i) (by rw [hLL, HN.out, List.take_length, List.drop_length]) (HB.out.trans (b3.mono HB.out.size)) rr bb2)
                    have kp3 := HOB.out.old b3
                    have p0 := kp3.cell 0
                    have pd := (kp3.alloc (.cells #[.int .u64 c.id, .slice a k cap, .int .u64 c.gen, .int .u64 c.root, .string c.tx] 32)).cell 0
                    have p2 := (kp3.old bb2).cell 0
                    have pf := (kp3.old bb2).frozen 0
                    have kq3 := HK.out.old b3
                    have y0 := kq3.cell 0
                    have y1 := kq3.cell 1
                    have y2 := kq3.cell 2
                    have y3 := kq3.cell 3
                    have y4 := kq3.cell 4
                    simp only [List.getElem?_cons_zero, List.getElem?_cons_succ] at p0 pd p2 y0 y1 y2 y3 y4
                    simp only [← HNP.out, ← HN.out] at R1 R2
                    obtain ⟨n2, hn2⟩ : ∃ n2, n2 = LL.length := ⟨_, rfl⟩
                    rw [← hn2] at R2 HF
                    obtain ⟨z1, z2, z3⟩ := app_runs R1
                    obtain ⟨z4, z5, z6⟩ := app_runs R2
                    have hvm2 : vc ≤ 9223372036854775807 := by unfold maxLen at hvm; omega
                    clear R1 R2 rr bb2 hLL hn2 row3 kp3 kq3 b3 HBX
                    go_wp2
                    go_region
                    all_goals (
                      go_wp2
                      go_ret
                      exact HF.out)
          · have hgw : (c.gen != IntKind.u64.wrap (g + 1)) = true := by rw [IntKind.wrap_u64]; simpa using hgen
            have HF := hide (adP_same (x := ⟨c, a, cap⟩) HG.out (E := 120) (by simp only; rw [HE2.out, if_neg hgen]) (by decide) HB.out)
            clear HE2 hgen
            go_wp2
            go_ret
            exact HF.out
  · have HE : Hid (addE (L.map CmA.c) c = cmE c) := hide (by unfold addE; rw [if_pos he])
    have hz2 : (cmE c != 0) = true := by simpa using he
    obtain ⟨E, hE⟩ : ∃ E, E = cmE c := ⟨_, rfl⟩
    rw [← hE] at HC HE hz2 he
    clear hE
    go_enter Try.func34, Try.ntmps34
    go_wp2_with fail
    refine HC.out.mono ?_
    rintro e w1 ⟨rfl, b1⟩
    have HF := hide (adP_same (x := ⟨c, a, cap⟩) HG.out HE.out he (HB.out.trans (b1.mono HB.out.size)))
    clear b1 HC
    go_wp2
    go_ret
    exact HF.out
end Go.Proofs.Ytmkafoidfgaokaa
