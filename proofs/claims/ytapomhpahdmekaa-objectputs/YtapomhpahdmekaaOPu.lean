/- object.Put, over the translation. -/
import Derived.Test.YtapomhpahdmekaaORi
import Derived.Test.YtapomhpahdmekaaCNt
import Derived.Test.YtapomhpahdmekaaCln
namespace Go.Proofs.Ytapomhpahdmekaa
open Go.RowKit Apo
theorem own_lower {w : World} {B B' : Nat} {e : TypeId} {size : Nat} {v : Value} {n : Nat} {xs : List Value} (h : w.ownsRow B e size v n xs) (hb : B' ≤ B) : w.ownsRow B' e size v n xs := by
  refine ⟨h.1, ?_⟩
  rcases h.2 with q | ⟨g, cap, cur, h1, h2, h3⟩
  · exact .inl q
  · exact .inr ⟨g, cap, cur, h1, Nat.le_trans hb h2, h3⟩
theorem psB_encs : ∀ l : List Int, encs l = psB l
  | [] => rfl
  | z :: l => by
    have := psB_encs l
    unfold psB at this ⊢
    rw [List.flatMap_cons, ← this]
    rfl
theorem psB_len : ∀ l : List Int, (psB l).length ≤ 10 * l.length
  | [] => by simp [psB]
  | z :: l => by
    have h1 := psB_len l
    have h2 := enc_len z.toNat
    unfold psB at h1 ⊢
    rw [List.flatMap_cons, List.length_append, List.length_cons]
    omega
/-- a commit in memory: its parents are read there -/
structure CmR (w : World) (c : Cm) (a : Option Addr) (cap : Nat) : Prop where
  rd : Rd .u64 w a c.ps
  len : c.ps.length ≤ cap
  big : cap ≤ 9223372036854775807
  txt : c.tx.size ≤ 9223372036854775807
  sz : c.Sz
theorem CmR.below {w w' : World} {c : Cm} {a : Option Addr} {cap : Nat} (h : CmR w c a cap) (b : Below w.heap.size w w') : CmR w' c a cap := { h with rd := h.rd.below b }
/-- what Put answers, and its frame -/
def PmP (w : World) (c : Cm) (e : Ending) (w' : World) : Prop := ∃ v, e = .returned (.tuple #[v, .int .i64 (putM c).2]) ∧ w'.ownsRow w.heap.size 5 1 v (putM c).1.length ((putM c).1.map (Value.int .u8)) ∧ Below w.heap.size w w'
set_option maxRecDepth 100000 in
set_option maxHeartbeats 8000000 in
theorem put14 (c : Cm) (a : Option Addr) (cap : Nat) (w : World) (h : CmR w c a cap) : Calls Try.prog 8 #[cmV c.id a c.ps.length cap c.gen c.root c.tx] w (PmP w c) := by
  have HC := hide (fun W (hW : Below w.heap.size w W) => right14 c a cap W (h.rd.below hW) h.len h.big h.txt)
  have HR := hide h.rd
  have HSZ := hide h.sz
  obtain ⟨E, hE⟩ : ∃ E, E = cmE c := ⟨_, rfl⟩
  rw [← hE] at HC
  have HE := hide hE
  obtain ⟨n, hn⟩ : ∃ n, n = c.ps.length := ⟨_, rfl⟩
  rw [← hn] at HC ⊢
  have HN := hide hn
  have bA := (Below.refl w.heap.size w).alloc (Nat.le_refl _) (.cells #[.int .u64 c.id, .slice a n cap, .int .u64 c.gen, .int .u64 c.root, .string c.tx] 25)
  have HB := hide bA
  have HK := hide (Ob.new w [.int .u64 c.id, .slice a n cap, .int .u64 c.gen, .int .u64 c.root, .string c.tx] 25)
  clear h hE hn bA
  by_cases h0 : E = 0
  · subst h0
    have HX : Hid (putM c = (cmB c, 0)) := hide (by unfold putM; rw [if_neg (by rw [← HE.out]; simp)])
    obtain ⟨_, hp2, htx⟩ := cmE_ok HE.out.symm
    have htl := txtOk_size htx
    have hn2 : n ≤ 2 := by rw [HN.out]; exact hp2
    obtain ⟨⟨hi0, hi1⟩, hps, ⟨hg0, hg1⟩, ⟨hr0, hr1⟩⟩ := HSZ.out
    have HPS := hide hps
    have hwn : IntKind.u64.wrap (n : Int) = (n : Int) := by rw [IntKind.wrap_u64]; omega
    obtain ⟨id, ps, gen, root, tx⟩ := c
    simp only at HC HR HN HB HK hi0 hi1 HPS hg0 hg1 hr0 hr1 htl ⊢
    clear hp2 htx hps HSZ
    go_enter Try.func8, Try.ntmps8
    go_wp2_with fail
    refine (HC.out _ HB.out).mono ?_
    rintro e w1 ⟨rfl, b1⟩
    have HB1 := hide (HB.out.trans (b1.mono HB.out.size))
    have k1 := HK.out.old b1
    have s1 := b1.size
    simp only [World.size_alloc] at s1
    obtain ⟨W2, hW2⟩ : ∃ W2, W2 = w1.alloc (.cells #[.slice none 0 0] 46) := ⟨_, rfl⟩
    have bw : Below w1.heap.size w1 W2 := by rw [hW2]; exact (Below.refl _ _).alloc (Nat.le_refl _) _
    have s2 : W2.heap.size = w1.heap.size + 1 := by rw [hW2]; simp
    have k2 := k1.old bw
    have B2 := HB1.out.trans (bw.mono HB1.out.size)
    have o1 : Wro (fun i => i = w1.heap.size) W2 w1.heap.size [] := by rw [hW2]; exact Wro.new w1
    have o2 : Wro (fun i => w1.heap.size ≤ i ∧ i < W2.heap.size) W2 w1.heap.size [] := o1.mono (fun i q => ⟨by omega, by omega⟩)
    have HC2 := hide (wnum_two_o w1.heap.size [] id (n : Int) W2 (w1.heap.size + 1) (by omega) o2 hi0 hi1 (by omega) (by omega) (by simp))
    have x0 := k2.cell 0
    have x1 := k2.cell 1
    simp only [List.getElem?_cons_zero, List.getElem?_cons_succ] at x0 x1
    have HK2 := hide k2
    have HB2 := hide B2
    have hp0 : w.heap.size < w1.heap.size := by omega
    rw [hW2] at x0 x1 HC2
    clear HC b1 HB HK HB1 k1 bw k2 B2 o2 o1
    go_wp2_with fail
    refine HC2.out.mono ?_
    rintro e w3 ⟨rfl, o3, f3⟩
    rw [← hW2] at o3 f3
    rw [Int.toNat_natCast, List.nil_append] at o3
    have z3 := f3.size
    have p3 : w1.heap.size < w3.heap.size := by omega
    have B3 := Below.onl HB2.out f3 (fun i q => by omega) (Nat.le_refl _)
    have k3 := HK2.out.onl f3 (fun q => by omega)
    obtain ⟨c3, hc3⟩ : ∃ c3, c3 = enc id.toNat ++ enc n := ⟨_, rfl⟩
    rw [← hc3] at o3
    have l3 : c3.length ≤ 20 := by
      have h1 := enc_len id.toNat
      have h2 := enc_len n
      rw [hc3, List.length_append]
      omega
    have o3' : Wro (fun i => w1.heap.size ≤ i ∧ i < w3.heap.size) w3 w1.heap.size c3 := o3.mono (fun i q => by
      rcases q with q | q
      · exact ⟨q.1, by omega⟩
      · exact ⟨by omega, q.2⟩)
    have hpl := HN.out
    have HC3 := hide (wnum_o w1.heap.size c3 a cap ps w3 o3' (HR.out.below B3) HPS.out (by omega) (by omega))
    rw [← hpl] at HC3
    clear x0 x1
    have x1 := k3.cell 1
    simp only [List.getElem?_cons_zero, List.getElem?_cons_succ] at x1
    have HK3 := hide k3
    have HB3 := hide B3
    clear HC2 o3 f3 k3 B3 o3' HK2 HB2 hW2 s2 hpl
    go_wp2_with fail
    refine HC3.out.mono ?_
    rintro e w4 ⟨rfl, o4, f4⟩
    have z4 := f4.size
    have B4 := Below.onl HB3.out f4 (fun i q => by omega) (Nat.le_refl _)
    have k4 := HK3.out.onl f4 (fun q => by omega)
    obtain ⟨c4, hc4⟩ : ∃ c4, c4 = c3 ++ encs ps := ⟨_, rfl⟩
    rw [← hc4] at o4
    have l4 : c4.length ≤ 40 := by
      have h1 := psB_len ps
      have := HN.out
      rw [hc4, List.length_append, psB_encs]
      omega
    have o4' : Wro (fun i => w1.heap.size ≤ i ∧ i < w4.heap.size) w4 w1.heap.size c4 := o4.mono (fun i q => by
      rcases q with q | q
      · exact ⟨q.1, by omega⟩
      · exact ⟨by have := HB3.out.size; omega, q.2⟩)
    have HC4 := hide (wnum_two_o w1.heap.size c4 gen root w4 w4.heap.size rfl o4' hg0 hg1 hr0 hr1 (by omega))
    have x2 := k4.cell 2
    have x3 := k4.cell 3
    simp only [List.getElem?_cons_zero, List.getElem?_cons_succ] at x2 x3
    have HK4 := hide k4
    have HB4 := hide B4
    clear HC3 o4 f4 k4 B4 o4' HK3 HB3 x1
    go_wp2_with fail
    refine HC4.out.mono ?_
    rintro e w5 ⟨rfl, o5, f5⟩
    have z5 := f5.size
    have B5 := Below.onl HB4.out f5 (fun i q => by omega) (Nat.le_refl _)
    have k5 := HK4.out.onl f5 (fun q => by omega)
    obtain ⟨c5, hc5⟩ : ∃ c5, c5 = c4 ++ (enc gen.toNat ++ enc root.toNat) := ⟨_, rfl⟩
    rw [← hc5] at o5
    have l5 : c5.length ≤ 60 := by
      have h1 := enc_len gen.toNat
      have h2 := enc_len root.toNat
      rw [hc5, List.length_append, List.length_append]
      omega
    have o5' : Wro (fun i => w1.heap.size ≤ i ∧ i < w5.heap.size) w5 w1.heap.size c5 := o5.mono (fun i q => by
      rcases q with q | q
      · exact ⟨q.1, by omega⟩
      · exact ⟨by have := HB4.out.size; omega, q.2⟩)
    have HC5 := hide (wtext_o w1.heap.size c5 tx w5 o5' (by omega))
    have x4 := k5.cell 4
    simp only [List.getElem?_cons_zero, List.getElem?_cons_succ] at x4
    have HB5 := hide B5
    clear HC4 o5 f5 k5 B5 o5' HK4 HB4 x2 x3
    go_wp2_with fail
    refine HC5.out.mono ?_
    rintro e w6 ⟨rfl, o6, f6⟩
    have HB6 := hide (Below.onl HB5.out f6 (fun i q => by omega) (Nat.le_refl _))
    have hND : c5 ++ (enc tx.size ++ nums tx) = cmB ⟨id, ps, gen, root, tx⟩ := by
      rw [hc5, hc4, hc3, psB_encs]
      unfold cmB
      simp only [List.append_assoc]
      rw [HN.out]
    obtain ⟨BB, hBB⟩ : ∃ BB, BB = cmB ⟨id, ps, gen, root, tx⟩ := ⟨_, rfl⟩
    have hnl : BB.length ≤ 200 := by
      have h1 := enc_len tx.size
      have h2 := nums_length tx
      rw [hBB, ← hND, List.length_append, List.length_append]
      omega
    rw [hND, ← hBB] at o6
    obtain ⟨_, v, hob, hrow⟩ := o6
    have HC7 := hide (wbytes_o w1.heap.size v BB w6 hob hrow.1 (by omega))
    have HBB := hide hBB
    have hs := HB6.out.size
    clear HC5 f6 hob hrow hBB hND hc5 hc4 hc3 x4 HB5
    go_wp2_with fail
    refine HC7.out.mono ?_
    rintro en w7 ⟨v7, rfl, o7, b7⟩
    obtain ⟨a7, c7, hv7, _, _⟩ := own_form o7
    subst hv7
    have HF : Hid (PmP w ⟨id, ps, gen, root, tx⟩ (.returned (.tuple #[.slice a7 BB.length c7, .int .i64 0])) w7) := by
      refine hide ?_
      unfold PmP
      rw [HX.out]
      exact ⟨.slice a7 BB.length c7, rfl, by simp only; rw [← HBB.out]; exact own_lower o7 hs, HB6.out.trans (b7.mono hs)⟩
    clear HC7 o7 b7
    go_wp2
    refine bodyPost_ret (by simp [results, Try.results8, go_sem]; rfl) rfl ?_
    exact HF.out
  · have hz2 : (E != 0) = true := by simpa using h0
    have HX : Hid (putM c = ([], E)) := hide (by
      unfold putM
      rw [if_pos (by rw [← HE.out]; exact h0), ← HE.out])
    clear h0
    go_enter Try.func8, Try.ntmps8
    go_wp2_with fail
    refine (HC.out _ HB.out).mono ?_
    rintro e w1 ⟨rfl, b1⟩
    have HF : Hid (PmP w c (.returned (.tuple #[.slice none 0 0, .int .i64 E])) w1) := by
      refine hide ?_
      unfold PmP
      rw [HX.out]
      exact ⟨.slice none 0 0, rfl, World.ownsRow_nil _ _ _ _, HB.out.trans (b1.mono HB.out.size)⟩
    clear b1 HC
    go_wp2
    refine bodyPost_ret (by simp [results, Try.results8, go_sem]; rfl) rfl ?_
    exact HF.out
end Go.Proofs.Ytapomhpahdmekaa
