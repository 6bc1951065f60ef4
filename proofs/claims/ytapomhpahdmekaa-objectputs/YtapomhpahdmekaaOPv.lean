/- The document's PutCommit, over the translation. -/
import Derived.Test.YtapomhpahdmekaaOPu
import Derived.Test.YtapomhpahdmekaaORc
import Derived.Deep.RegionHeld3
namespace Go.Proofs.Ytapomhpahdmekaa
open Go.RowKit Apo
/-- bytes in a row above B -/
def RwB (B : Nat) (w : World) (v : Value) (l : List Int) : Prop := Row (fun i => B ≤ i ∧ i < w.heap.size) w 5 1 v l.length (l.map (Value.int .u8))
theorem RwB.form {B : Nat} {w : World} {v : Value} {l : List Int} (h : RwB B w v l) : ∃ a n c, v = .slice a n c := by
  obtain ⟨a, c, hv, _⟩ := Row.form h
  exact ⟨a, _, c, hv⟩
theorem RwB.old {B : Nat} {w w' : World} {v : Value} {l : List Int} (h : RwB B w v l) (b : Below w.heap.size w w') : RwB B w' v l :=
  (Row.onl (F := fun _ => False) h (Onl.ofBelow b) (fun _ _ q => q)).mono (fun _ q => ⟨q.1, Nat.lt_of_lt_of_le q.2 b.size⟩)
theorem row_nilU (w : World) (O : Nat → Prop) : Row O w 5 1 (.slice none 0 0) ([] : List Int).length (([] : List Int).map (Value.int .u8)) := Row.nil _ _ _ _
theorem gro2 {O : Nat → Prop} {a b c : World} {e : TypeId} {v : Value} {n : Nat} {xs : List Value} (h : Row (Gro (Gro O a b) b c) c e 1 v n xs) (o1 : a.heap.size ≤ b.heap.size) (o2 : b.heap.size ≤ c.heap.size) : Row (Gro O a c) c e 1 v n xs :=
  h.mono (fun i y => by
    rcases y with (y | y) | y
    · exact .inl y
    · exact .inr ⟨y.1, by omega⟩
    · exact .inr ⟨by omega, y.2⟩)
/-- one number, behind another one, where a commit is read beside them -/
theorem num2 {O : Nat → Prop} (v : Value) (cur : List Int) (x y : Int) (W : World) (q : Nat) (c0 c1 c2 c3 c4 : Value) (hr : Row O W 5 1 v cur.length (cur.map (Value.int .u8))) (hl : cur.length ≤ 10000000) (hx0 : 0 ≤ x) (hx1 : x ≤ 18446744073709551615) (hy0 : 0 ≤ y) (hy1 : y ≤ 18446744073709551615) (hk : Ob W q 25 [c0, c1, c2, c3, c4]) (hq : ¬ O q) :
    Calls Try.prog 21 #[v, .int .u64 x] W fun e w5 => ∃ ga gn gc, e = .returned (.slice ga gn gc) ∧ (w5.cell? ⟨q, 0, none⟩ = some c0 ∧ w5.cell? ⟨q, 1, none⟩ = some c1 ∧ w5.cell? ⟨q, 2, none⟩ = some c2 ∧ w5.cell? ⟨q, 3, none⟩ = some c3 ∧ w5.cell? ⟨q, 4, none⟩ = some c4) ∧
      Hid (Calls Try.prog 21 #[.slice ga gn gc, .int .u64 y] w5 fun e w6 => ∃ ka kn kc, e = .returned (.slice ka kn kc) ∧ (w6.cell? ⟨q, 0, none⟩ = some c0 ∧ w6.cell? ⟨q, 1, none⟩ = some c1 ∧ w6.cell? ⟨q, 2, none⟩ = some c2 ∧ w6.cell? ⟨q, 3, none⟩ = some c3 ∧ w6.cell? ⟨q, 4, none⟩ = some c4) ∧ Hid (Row (Gro O W w6) w6 5 1 (.slice ka kn kc) (cur ++ enc x.toNat ++ enc y.toNat).length ((cur ++ enc x.toNat ++ enc y.toNat).map (Value.int .u8)) ∧ Onl O W w6 ∧ Ob w6 q 25 [c0, c1, c2, c3, c4])) := by
  have hlt := hk.lt
  have hel := enc_len x.toNat
  refine (num_o v cur x W hr (by omega) hx0 hx1).mono ?_
  rintro en w5 ⟨v5, rfl, o5, f5⟩
  obtain ⟨ga, gc, hg, _⟩ := o5.form
  subst hg
  have kb2 := hk.onl f5 hq
  refine ⟨_, _, _, rfl, ⟨kb2.cell 0, kb2.cell 1, kb2.cell 2, kb2.cell 3, kb2.cell 4⟩, hide ?_⟩
  refine (num_o _ (cur ++ enc x.toNat) y w5 o5 (by rw [List.length_append]; omega) hy0 hy1).mono ?_
  rintro en w6 ⟨v6, rfl, o6, f6⟩
  obtain ⟨ka, kc, hg, _⟩ := o6.form
  subst hg
  have z5 := f5.size
  have kb3 := kb2.onl f6 (fun y => by
    rcases y with y | y
    · exact hq y
    · omega)
  exact ⟨_, _, _, rfl, ⟨kb3.cell 0, kb3.cell 1, kb3.cell 2, kb3.cell 3, kb3.cell 4⟩, hide ⟨gro2 o6 f5.size f6.size, f5.more f6 (fun i y => y.elim .inl (fun t => .inr t.1)), kb3⟩⟩
/-- two numbers, then a text -/
theorem num2text {O : Nat → Prop} (v : Value) (cur : List Int) (x y : Int) (s : ByteArray) (W : World) (q : Nat) (c0 c1 c2 c3 c4 : Value) (hr : Row O W 5 1 v cur.length (cur.map (Value.int .u8))) (hl : cur.length ≤ 10000000) (hs : s.size ≤ 1000) (hx0 : 0 ≤ x) (hx1 : x ≤ 18446744073709551615) (hy0 : 0 ≤ y) (hy1 : y ≤ 18446744073709551615) (hk : Ob W q 25 [c0, c1, c2, c3, c4]) (hq : ¬ O q) :
    Calls Try.prog 21 #[v, .int .u64 x] W fun e w5 => ∃ ga gn gc, e = .returned (.slice ga gn gc) ∧ (w5.cell? ⟨q, 0, none⟩ = some c0 ∧ w5.cell? ⟨q, 1, none⟩ = some c1 ∧ w5.cell? ⟨q, 2, none⟩ = some c2 ∧ w5.cell? ⟨q, 3, none⟩ = some c3 ∧ w5.cell? ⟨q, 4, none⟩ = some c4) ∧
      Hid (Calls Try.prog 21 #[.slice ga gn gc, .int .u64 y] w5 fun e w6 => ∃ ka kn kc, e = .returned (.slice ka kn kc) ∧ (w6.cell? ⟨q, 0, none⟩ = some c0 ∧ w6.cell? ⟨q, 1, none⟩ = some c1 ∧ w6.cell? ⟨q, 2, none⟩ = some c2 ∧ w6.cell? ⟨q, 3, none⟩ = some c3 ∧ w6.cell? ⟨q, 4, none⟩ = some c4) ∧
      Hid (Calls Try.prog 22 #[.slice ka kn kc, .string s] w6 fun e w7 => ∃ la ln lc, e = .returned (.slice la ln lc) ∧ (w7.cell? ⟨q, 0, none⟩ = some c0 ∧ w7.cell? ⟨q, 1, none⟩ = some c1 ∧ w7.cell? ⟨q, 2, none⟩ = some c2 ∧ w7.cell? ⟨q, 3, none⟩ = some c3 ∧ w7.cell? ⟨q, 4, none⟩ = some c4) ∧ Hid (Row (Gro O W w7) w7 5 1 (.slice la ln lc) (cur ++ enc x.toNat ++ enc y.toNat ++ (enc s.size ++ nums s)).length ((cur ++ enc x.toNat ++ enc y.toNat ++ (enc s.size ++ nums s)).map (Value.int .u8)) ∧ Onl O W w7))) := by
  have hlt := hk.lt
  have hex := enc_len x.toNat
  have hey := enc_len y.toNat
  refine (num2 v cur x y W q c0 c1 c2 c3 c4 hr hl hx0 hx1 hy0 hy1 hk hq).mono ?_
  rintro en w5 ⟨ga, gn, gc, rfl, z5, HC⟩
  refine ⟨ga, gn, gc, rfl, z5, hide (HC.out.mono ?_)⟩
  rintro en w6 ⟨ka, kn, kc, rfl, z6, HO⟩
  obtain ⟨o6, f6, k6⟩ := HO.out
  refine ⟨ka, kn, kc, rfl, z6, hide ?_⟩
  refine (text_o _ (cur ++ enc x.toNat ++ enc y.toNat) s w6 o6 (by simp only [List.length_append]; omega)).mono ?_
  rintro en w7 ⟨v7, rfl, o7, f7⟩
  obtain ⟨la, lc, hg, _⟩ := o7.form
  subst hg
  have s6 := f6.size
  have k7 := k6.onl f7 (fun y => by
    rcases y with y | y
    · exact hq y
    · omega)
  exact ⟨_, _, _, rfl, ⟨k7.cell 0, k7.cell 1, k7.cell 2, k7.cell 3, k7.cell 4⟩, hide ⟨gro2 o7 f6.size f7.size, f6.more f7 (fun i y => y.elim .inl (fun t => .inr t.1))⟩⟩
/-- what the document's Put answers, and its frame -/
def PdM (w : World) (c : Cm) (e : Ending) (w' : World) : Prop := ∃ v, e = .returned (.tuple #[v, .int .i64 (putM c).2]) ∧ RwB w.heap.size w' v (putM c).1 ∧ Below w.heap.size w w'
set_option maxRecDepth 100000 in
set_option maxHeartbeats 8000000 in
theorem rput14 (c : Cm) (a : Option Addr) (cap : Nat) (w : World) (h : CmR w c a cap) : Calls Try.prog 9 #[cmV c.id a c.ps.length cap c.gen c.root c.tx] w (PdM w c) := by
  have HC := hide (fun W (hW : Below w.heap.size w W) => rcommit14 c a cap W (h.rd.below hW) h.len h.big h.txt)
  have HR := hide h.rd
  have HSZ := hide h.sz
  obtain ⟨E, hE⟩ : ∃ E, E = cmE c := ⟨_, rfl⟩
  rw [← hE] at HC
  have HE := hide hE
  obtain ⟨n, hn⟩ : ∃ n, n = c.ps.length := ⟨_, rfl⟩
  rw [← hn] at HC ⊢
  have HN := hide hn
  have bA := (Below.refl w.heap.size w).alloc (Nat.le_refl _) (.cells #[.int .u64 c.id, .slice a n cap, .int .u64 c.gen, .int .u64 c.root, .string c.tx] 25)
  have HB := hide bA
  have HK := hide (Ob.new w [.int .u64 c.id, .slice a n cap, .int .u64 c.gen, .int .u64 c.root, .string c.tx] 25)
  clear h hE hn bA
  by_cases h0 : E = 0
  · subst h0
    have HX : Hid (putM c = (cmB c, 0)) := hide (by unfold putM; rw [if_neg (by rw [← HE.out]; simp)])
    obtain ⟨_, hp2, htx⟩ := cmE_ok HE.out.symm
    have htl := txtOk_size htx
    have hn2 : n ≤ 2 := by rw [HN.out]; exact hp2
    obtain ⟨⟨hi0, hi1⟩, hps, ⟨hg0, hg1⟩, ⟨hr0, hr1⟩⟩ := HSZ.out
    have HPS := hide hps
    have hwn : IntKind.u64.wrap (n : Int) = (n : Int) := by rw [IntKind.wrap_u64]; omega
    obtain ⟨id, ps, gen, root, tx⟩ := c
    simp only at HC HR HN HB HK hi0 hi1 HPS hg0 hg1 hr0 hr1 htl ⊢
    clear hp2 htx hps HSZ
    obtain ⟨q, hq⟩ : ∃ q, q = w.heap.size := ⟨_, rfl⟩
    go_enter Try.func9, Try.ntmps9
    go_wp2_with fail
    refine (HC.out _ HB.out).mono ?_
    rintro e w1 ⟨rfl, b1⟩
    have HB1 := hide (HB.out.trans (b1.mono HB.out.size))
    have k1 := HK.out.old b1
    have s1 := b1.size
    simp only [World.size_alloc] at s1
    have bD : Below w1.heap.size w1 w1.drew := (Below.refl _ _).drew
    have HC2 := hide (num2 (O := fun i => w.heap.size < i ∧ i < w1.heap.size) (.slice none 0 0) [] id (n : Int) w1.drew w.heap.size _ _ _ _ _ (row_nilU _ _) (by simp) hi0 hi1 (by omega) (by omega) (k1.old bD) (fun q => by omega))
    have x0 := k1.cell 0
    have x1 := k1.cell 1
    simp only [List.getElem?_cons_zero, List.getElem?_cons_succ] at x0 x1
    clear HC b1 HB HK k1 bD
    go_wp2_with fail
    go_region_held3 (fun W' => W'.cell? ⟨w.heap.size, 0, none⟩ = some (.int .u64 id) ∧ W'.cell? ⟨w.heap.size, 1, none⟩ = some (.slice a n cap)) (go_keep) (first
      | (go_at_call 21; (with_reducible refine HC2.out.mono ?_); rintro en w5 ⟨ga, gn, gc, rfl, ⟨z0, z1, _, _, _⟩, HC3⟩)
      | (go_at_call 21; (with_reducible refine HC3.out.mono ?_); rintro en w6 ⟨ka, kn, kc, rfl, ⟨t0, t1, _, _, _⟩, HO6⟩))
    obtain ⟨o6, f6, k6⟩ := HO6.out
    have z6 := f6.size
    have ed : w1.drew.heap.size = w1.heap.size := rfl
    rw [Int.toNat_natCast, List.nil_append] at o6
    obtain ⟨P0, hP0⟩ : ∃ P0, P0 = enc id.toNat ++ enc n := ⟨_, rfl⟩
    rw [← hP0] at o6
    have hP0l : P0.length ≤ 20 := by
      have h1 := enc_len id.toNat
      have h2 := enc_len n
      rw [hP0, List.length_append]
      omega
    have HP0 := hide hP0
    have HB6 := hide (Below.onl HB1.out.drew f6 (fun i q => by omega) (Nat.le_refl _))
    have HK6 := hide k6
    have HO7 : Hid (Row (fun i => w.heap.size < i ∧ i < w6.heap.size) w6 5 1 (.slice ka kn kc) P0.length (P0.map (Value.int .u8))) := hide (o6.mono (fun i q => by
      rcases q with q | q
      · exact ⟨q.1, by omega⟩
      · exact ⟨by omega, q.2⟩))
    have y1 := k6.cell 1
    simp only [List.getElem?_cons_zero, List.getElem?_cons_succ] at y1
    clear HO6 o6 f6 k6 hP0 HC2 HC3 z0 z1 t0 t1 HB1 x0 x1 y1
    have y1 := HK6.out.cell 1
    simp only [List.getElem?_cons_zero, List.getElem?_cons_succ] at y1
    go_wp2
    clear y1
    go_loopw [5, 24] (fun v i wr => ∃ k : Nat, k ≤ n ∧ i = .int .i64 k ∧ (∃ va vn vc, v = .slice va vn vc) ∧ Hid (Row (fun i => w.heap.size < i ∧ i < wr.heap.size) wr 5 1 v (P0 ++ psB (ps.take k)).length ((P0 ++ psB (ps.take k)).map (Value.int .u8))) ∧ Hid (Below w.heap.size w wr) ∧ Hid (Ob wr w.heap.size 25 [.int .u64 id, .slice a n cap, .int .u64 gen, .int .u64 root, .string tx])) (fun _ i _ => n - (intOf i).toNat)
    case atStart => exact ⟨0, Nat.zero_le _, rfl, ⟨_, _, _, rfl⟩, hide (by simpa [psB] using HO7.out), HB6, HK6⟩
    case round =>
      clear HO7 HB6 HK6 z6
      obtain ⟨k, hk, rfl, ⟨va, vn, vc, rfl⟩, HO, HB, HK⟩ := hrel
      have hs := HB.out.size
      have hql := HK.out.lt
      have hnl : (P0 ++ psB (ps.take k)).length ≤ 60 := by
        have h1 := psB_len (ps.take k)
        have h2 : (ps.take k).length ≤ k := List.length_take_le _ _
        rw [List.length_append]
        omega
      by_cases hlt : k < n
      · obtain ⟨b, off, z, ha, hcz, hz, hzr⟩ := (HR.out.below HB.out).at (by have := HN.out; omega : k < ps.length)
        subst ha
        have hzb := HPS.out z (List.mem_of_getElem? hz.out)
        have HTE : Hid (P0 ++ psB (ps.take (k + 1)) = P0 ++ psB (ps.take k) ++ enc z.toNat) := hide (by
          rw [List.take_add_one, hz.out]
          unfold psB
          simp)
        have HC5 := hide (num_o (O := fun i => w.heap.size < i ∧ i < wr.heap.size) _ (P0 ++ psB (ps.take k)) z wr HO.out (by omega) hzb.1 hzb.2)
        generalize P0 ++ psB (ps.take k) = cu at HTE HC5
        clear HO hz hnl
        go_wp2_with fail
        refine HC5.out.mono ?_
        rintro en w2 ⟨v2, rfl, o2, f2⟩
        have z2 := f2.size
        have HB2 := hide (Below.onl HB.out f2 (fun i q => by omega) (Nat.le_refl _))
        have HK2 := hide (HK.out.onl f2 (fun q => by omega))
        have HO2 : Hid (Row (fun i => w.heap.size < i ∧ i < w2.heap.size) w2 5 1 v2 (P0 ++ psB (ps.take (k + 1))).length ((P0 ++ psB (ps.take (k + 1))).map (Value.int .u8))) := hide (by
          rw [HTE.out]
          exact o2.mono (fun i q => by
            rcases q with q | q
            · exact ⟨q.1, by omega⟩
            · exact ⟨by omega, q.2⟩))
        obtain ⟨va, vc, hv, _⟩ := HO2.out.form
        generalize (P0 ++ psB (ps.take (k + 1))).length = vn2 at hv
        subst hv
        clear HC5 o2 f2 HB HK HTE hcz
        go_wp2
        go_roundw
        case rel => exact ⟨k + 1, by omega, by simp, ⟨_, _, _, rfl⟩, HO2, HB2, HK2⟩
        case measure => simp [intOf]; omega
      · obtain rfl : k = n := by omega
        have hND : P0 ++ psB (ps.take k) = P0 ++ psB ps := by rw [HN.out, List.take_length]
        rw [hND] at HO hnl
        have bD : Below wr.heap.size wr wr.drew := (Below.refl _ _).drew
        have HC2 := hide (num2text (O := fun i => w.heap.size < i ∧ i < wr.heap.size) (.slice va vn vc) (P0 ++ psB ps) gen root tx wr.drew w.heap.size _ _ _ _ _ (Row.onl (F := fun _ => False) HO.out (Onl.ofBelow bD) (fun _ _ q => q)) (by omega) (by omega) hg0 hg1 hr0 hr1 (HK.out.old bD) (fun q => by omega))
        have x2 := HK.out.cell 2
        have x3 := HK.out.cell 3
        have x4 := HK.out.cell 4
        simp only [List.getElem?_cons_zero, List.getElem?_cons_succ] at x2 x3 x4
        clear bD HO HK hND
        go_wp2_with fail
        go_region_held3 (fun W' => W'.cell? ⟨w.heap.size, 2, none⟩ = some (.int .u64 gen) ∧ W'.cell? ⟨w.heap.size, 3, none⟩ = some (.int .u64 root) ∧ W'.cell? ⟨w.heap.size, 4, none⟩ = some (.string tx)) (go_keep) (first
          | (go_at_call 21; (with_reducible refine HC2.out.mono ?_); rintro en w5 ⟨ga, gn, gc, rfl, ⟨_, _, z0, z1, z2⟩, HC3⟩)
          | (go_at_call 21; (with_reducible refine HC3.out.mono ?_); rintro en w6 ⟨ka, kn, kc, rfl, ⟨_, _, t0, t1, t2⟩, HC4⟩)
          | (go_at_call 22; (with_reducible refine HC4.out.mono ?_); rintro en w7 ⟨la, ln, lc, rfl, ⟨_, _, u0, u1, u2⟩, HO7⟩))
        have HF : Hid (PdM w ⟨id, ps, gen, root, tx⟩ (.returned (.tuple #[.slice la ln lc, .int .i64 0])) w7) := by
          refine hide ?_
          unfold PdM
          rw [HX.out]
          obtain ⟨o7, f7⟩ := HO7.out
          have z7 := f7.size
          have ed2 : wr.drew.heap.size = wr.heap.size := rfl
          refine ⟨_, rfl, ?_, Below.onl HB.out.drew f7 (fun i q => by omega) (Nat.le_refl _)⟩
          have e : P0 ++ psB ps ++ enc gen.toNat ++ enc root.toNat ++ (enc tx.size ++ nums tx) = cmB ⟨id, ps, gen, root, tx⟩ := by
            rw [HP0.out]
            unfold cmB
            simp only [List.append_assoc]
            rw [HN.out]
          rw [e] at o7
          exact o7.mono (fun i q => by
            rcases q with q | q
            · exact ⟨by omega, by omega⟩
            · exact ⟨by omega, q.2⟩)
        clear HC2 HC3 HC4 HO7 z0 z1 z2 t0 t1 t2 u0 u1 u2 x2 x3 x4
        go_wp2
        refine bodyPost_ret (by simp [results, Try.results9, go_sem]; rfl) rfl ?_
        exact HF.out
  · have hz2 : (E != 0) = true := by simpa using h0
    have HX : Hid (putM c = ([], E)) := hide (by
      unfold putM
      rw [if_pos (by rw [← HE.out]; exact h0), ← HE.out])
    clear h0
    go_enter Try.func9, Try.ntmps9
    go_wp2_with fail
    refine (HC.out _ HB.out).mono ?_
    rintro e w1 ⟨rfl, b1⟩
    have HF : Hid (PdM w c (.returned (.tuple #[.slice none 0 0, .int .i64 E])) w1) := by
      refine hide ?_
      unfold PdM
      rw [HX.out]
      exact ⟨.slice none 0 0, rfl, row_nilU _ _, HB.out.trans (b1.mono HB.out.size)⟩
    clear b1 HC
    go_wp2
    refine bodyPost_ret (by simp [results, Try.results9, go_sem]; rfl) rfl ?_
    exact HF.out
end Go.Proofs.Ytapomhpahdmekaa
