/- conflict.Of, over the translation. -/
import Derived.Test.YtgjhmpmjbedjoaaQA9
namespace Go.Proofs.Ytgjhmpmjbedjoaa
open Go.RowKit Apo
theorem rawC_len (b : List Int) : (rawC b).1.length ≤ 1000 := by
  have h := rnum_top (some b)
  unfold rawC
  rw [eachK_len]
  omega
theorem rawC_sz (b : List Int) : ClsSz (rawC b).1 := fun c hc => by
  obtain ⟨h1, h2, h3, h4⟩ := eachK_sz _ _ c hc
  exact ⟨Nat.le_trans h1 (by decide), Nat.le_trans h2 (by decide), Nat.le_trans h3 (by decide), Nat.le_trans h4 (by decide)⟩
theorem putC_small {l : List Cl} (h1 : l.length ≤ 20) (h2 : ∀ c ∈ l, c.k.size ≤ 60 ∧ c.a.v.size ≤ 250 ∧ c.b.v.size ≤ 250 ∧ c.c.v.size ≤ 250) : (putC l).1.length ≤ 30000 := by
  unfold putC
  split
  · simp
  · split
    · simp
    · have : ∀ {m : List Cl}, (∀ c ∈ m, (clB c).length ≤ 1000) → (m.flatMap clB).length ≤ 1000 * m.length := by
        intro m
        induction m with
        | nil => intro _; simp
        | cons x m ih =>
          intro h
          have h1 := h x (by simp)
          have h2 := ih (fun y hy => h y (by simp [hy]))
          rw [List.flatMap_cons, List.length_append, List.length_cons, Nat.mul_add]
          omega
      have h3 := this (m := l) (fun c hc => clB_len (h2 c hc))
      have h4 := enc_len l.length
      show (clsB l).length ≤ 30000
      unfold clsB
      rw [List.length_append]
      omega
theorem InB.app {a b : List Int} (ha : InB a) (hb : InB b) : InB (a ++ b) := fun z hz => by
  rcases List.mem_append.1 hz with q | q
  · exact ha z q
  · exact hb z q
theorem InB.text (s : ByteArray) (h : s.size < top) : InB (enc s.size ++ nums s) := InB.app (enc_byte h) (nums_byte s)
theorem siB_byte {s : Si} (h : s.v.size < top) : InB (siB s) := InB.app (by cases s.b <;> (intro z hz; simp [flB] at hz; omega)) (InB.text _ h)
theorem putC_byte {l : List Cl} (h : l.length < top) : InB (putC l).1 := by
  unfold putC
  split
  · intro z hz; simp at hz
  · rename_i q
    have q0 : clashE l = 0 := Decidable.not_not.1 q
    split
    · intro z hz; simp at hz
    · refine InB.app (enc_byte h) (fun z hz => ?_)
      obtain ⟨c, hc, hz⟩ := List.mem_flatMap.1 hz
      obtain ⟨h1, h2, h3, h4⟩ := clashE_size q0 c hc
      have ht : 200 < top := by unfold top; decide
      exact InB.app (InB.app (InB.app (InB.text _ (by omega)) (siB_byte (by omega))) (siB_byte (by omega))) (siB_byte (by omega)) z hz
/-- what Of answers, and its frame -/
def OcP (w : World) (b : List Int) (e : Ending) (w' : World) : Prop := ∃ v, e = .returned (.tuple #[v, .int .i64 (ofC b).2]) ∧ Row (fun i => w.heap.size ≤ i) w' 75 7 v (ofC b).1.length (gcells cCl (ofC b).1) ∧ Below w.heap.size w w'
set_option maxRecDepth 100000 in
set_option maxHeartbeats 4000000 in
theorem of_cls (w : World) (a : Option Addr) (cap : Nat) (b : List Int) (hr : Rd .u8 w a b) (hn : a = none → cap = 0) (hb : InB b) (hl : b.length ≤ 1099511627776) :
    Calls Try.prog 65 #[.slice a b.length cap] w (OcP w b) := by
  have HC := hide (read_any a cap b w hr hn hb hl)
  obtain ⟨n, hn'⟩ : ∃ n, n = b.length := ⟨_, rfl⟩
  rw [← hn'] at HC ⊢
  clear hr hn hb hl hn'
  go_enter Try.func65, Try.ntmps65
  go_wp2_with fail
  refine HC.out.mono ?_
  rintro e w1 ⟨p, g, rfl, r1, h1, h2, h3, h4, b1⟩
  obtain ⟨W2, hW2⟩ : ∃ W2, W2 = w1.alloc (.cells #[.pointer (some ⟨p, 0, none⟩)] 117) := ⟨_, rfl⟩
  have b2 : Below w1.heap.size w1 W2 := by rw [hW2]; exact (Below.refl _ _).alloc (Nat.le_refl _) _
  have s2 : W2.heap.size = w1.heap.size + 1 := by rw [hW2]; simp
  have k2 : Ob W2 w1.heap.size 117 [.pointer (some ⟨p, 0, none⟩)] := by rw [hW2]; exact Ob.new w1 _ _
  have x0 := k2.cell 0
  simp only [List.getElem?_cons_zero] at x0
  have HC2 := hide (clashes_p p g b W2 (r1.old b2) (by omega))
  have HB2 := hide (b1.trans (b2.mono b1.size))
  have HK2 := hide k2
  have HR := hide (rawC_sz b)
  have hrl := rawC_len b
  rw [hW2] at HC2 x0
  clear HC r1 b1 b2 k2
  go_wp2_with fail
  refine HC2.out.mono ?_
  rintro e w3 ⟨v3, rfl, row3, r3, g3⟩
  rw [← hW2] at row3 g3
  have o3 : Onl (fun i => i = p) W2 w3 := (Onl.refl _ W2).grown g3 (fun j hj => .inl (by cases hj; rfl))
  have b3 := Below.onl HB2.out o3 (fun i q => by omega) (Nat.le_refl _)
  have k3 := HK2.out.onl o3 (by omega)
  have y0 := k3.cell 0
  simp only [List.getElem?_cons_zero] at y0
  obtain ⟨va, vc, hv, rd3, _⟩ := rd_gcells cCl_len row3
  subst hv
  have HCD := hide (rddone_any p g (rawC b).2 w3 r3)
  have HCR := hide (right_any w3 va vc (rawC b).1 rd3 (by omega) HR.out)
  have HB3 := hide b3
  have HROW := hide row3
  obtain ⟨m, hm⟩ : ∃ m, m = (rawC b).1.length := ⟨_, rfl⟩
  rw [← hm] at HCR hrl ⊢
  have HM := hide hm
  have hsw := HB2.out.size
  clear HC2 row3 r3 g3 o3 b3 k3 rd3 hm hW2 HK2 x0
  by_cases hd : (rawC b).2 = some []
  · rw [decide_eq_true hd] at HCD
    have HD := hide hd
    clear hd
    by_cases he : clashE (rawC b).1 = 0
    · rw [he] at HCR
      have HX : Hid (ofC b = ((rawC b).1, 0)) := hide (by unfold ofC; rw [if_pos ⟨HD.out, he⟩])
      clear he
      go_wp2_with fail
      refine HCD.out.mono ?_
      rintro e w4 ⟨rfl, rfl⟩
      go_wp2_with fail
      refine HCR.out.mono ?_
      rintro e w5 ⟨rfl, b5⟩
      have HF : Hid (OcP w b (.returned (.tuple #[.slice va m vc, .int .i64 0])) w5) := by
        refine hide ?_
        unfold OcP
        rw [HX.out]
        refine ⟨_, rfl, ?_, HB3.out.trans (b5.mono HB3.out.size)⟩
        rw [HM.out]
        exact (HROW.out.onl (F := fun _ => False) (Onl.ofBelow b5) (fun _ _ q => q)).mono (O' := fun i => w.heap.size ≤ i) (fun i q => Nat.le_trans hsw q)
      clear b5 HCD HCR
      go_wp2
      refine bodyPost_ret (by simp [results, Try.results65, go_sem]; rfl) rfl ?_
      exact HF.out
    · have HX : Hid (ofC b = ([], 20)) := hide (by unfold ofC; rw [if_neg (fun q => he q.2)])
      have hz2 : (clashE (rawC b).1 != 0) = true := by simpa using he
      generalize clashE (rawC b).1 = E at HCR hz2
      clear he
      go_wp2_with fail
      refine HCD.out.mono ?_
      rintro e w4 ⟨rfl, rfl⟩
      go_wp2_with fail
      refine HCR.out.mono ?_
      rintro e w5 ⟨rfl, b5⟩
      have HF : Hid (OcP w b (.returned (.tuple #[.slice none 0 0, .int .i64 20])) w5) := by
        refine hide ?_
        unfold OcP
        rw [HX.out]
        exact ⟨_, rfl, Row.nil _ _ _ _, HB3.out.trans (b5.mono HB3.out.size)⟩
      clear b5 HCD HCR
      go_wp2
      refine bodyPost_ret (by simp [results, Try.results65, go_sem]; rfl) rfl ?_
      exact HF.out
  · rw [decide_eq_false hd] at HCD
    have HX : Hid (ofC b = ([], 20)) := hide (by unfold ofC; rw [if_neg (fun q => hd q.1)])
    clear hd
    go_wp2_with fail
    refine HCD.out.mono ?_
    rintro e w4 ⟨rfl, rfl⟩
    have HF : Hid (OcP w b (.returned (.tuple #[.slice none 0 0, .int .i64 20])) w3) := by
      refine hide ?_
      unfold OcP
      rw [HX.out]
      exact ⟨_, rfl, Row.nil _ _ _ _, HB3.out⟩
    clear HCD HCR
    go_wp2
    refine bodyPost_ret (by simp [results, Try.results65, go_sem]; rfl) rfl ?_
    exact HF.out
end Go.Proofs.Ytgjhmpmjbedjoaa
