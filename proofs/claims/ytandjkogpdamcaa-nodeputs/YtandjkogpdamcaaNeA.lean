/- The program's Split and Group; law 9's awake. Over the translation. -/
import Derived.Test.YtandjkogpdamcaaNeS
import Derived.Test.YtandjkogpdamcaaNeP
import Derived.Test.YtandjkogpdamcaaNeG
namespace Go.Proofs.Ytandjkogpdamcaa
open Go.RowKit Apo
theorem RowsE.lower {lo lo' : Nat} {w : World} {v : Value} {rows : List (List En)} {vs : List Value} (h : RowsE lo w v rows vs) (hl : lo' ≤ lo) : RowsE lo' w v rows vs :=
  ⟨h.row.mono (fun _ q => Nat.le_trans hl q), h.len, fun i u r hu hr => by obtain ⟨G, o, h1, h2, h3, h4, h5, h6⟩ := h.fin i u r hu hr; exact ⟨G, o, h1, h2, h3, h4, Nat.le_trans hl h5, h6⟩⟩
theorem RowsJ.lower {lo lo' : Nat} {w : World} {v : Value} {rows : List (List Ki)} {vs : List Value} (h : RowsJ lo w v rows vs) (hl : lo' ≤ lo) : RowsJ lo' w v rows vs :=
  ⟨h.row.mono (fun _ q => Nat.le_trans hl q), h.len, fun i u r hu hr => by obtain ⟨G, o, h1, h2, h3, h4, h5, h6⟩ := h.fin i u r hu hr; exact ⟨G, o, h1, h2, h3, h4, Nat.le_trans hl h5, h6⟩⟩
set_option maxRecDepth 100000 in
set_option maxHeartbeats 1000000 in
theorem split_En (a : Option Addr) (c : Nat) (l : List En) (w : World) (h : RdEn w a l) (hn : a = none → c = 0) (hl : l.length ≤ 1000000) (hz : ∀ e ∈ l, e.k.size ≤ 1099511627776) :
    Calls Try.prog 18 #[.slice a l.length c] w (SpoE w (splitN (fun e : En => endsN 0 e.k) l)) := by
  have HC := hide (rows_En a c l w h hn hl hz)
  generalize l.length = n at *
  generalize splitN (fun e : En => endsN 0 e.k) l = R at *
  clear h hn hl hz
  go_enter Try.func18, Try.ntmps18
  go_wp2_with fail
  refine HC.out.mono ?_
  rintro e w1 ⟨v, vs, rfl, h1, h2⟩
  have HX : Hid (SpoE w R (.returned v) w1) := hide ⟨v, vs, rfl, h1, h2⟩
  clear h1 h2 HC
  go_wp2
  go_ret
  exact HX.out
set_option maxRecDepth 100000 in
set_option maxHeartbeats 1000000 in
theorem group_Ki (lv : Int) (a : Option Addr) (c : Nat) (l : List Ki) (w : World) (h : RdKi w a l) (hn : a = none → c = 0) (hl : l.length ≤ 1000000) (hz : ∀ e ∈ l, e.k.size ≤ 1099511627776) :
    Calls Try.prog 20 #[.int .i64 lv, .slice a l.length c] w (SpoJ w (splitN (fun e : Ki => endsN lv e.k) l)) := by
  have bb : Below w.heap.size w (w.alloc (.cells #[.int .i64 lv] 3)) := (Below.refl _ _).alloc (Nat.le_refl _) _
  have HC := hide (rows_Ki lv w.heap.size a c l (w.alloc (.cells #[.int .i64 lv] 3)) ((Ob.new w [.int .i64 lv] 3).cell 0) (h.below bb) hn hl hz)
  have HBB := hide bb
  generalize l.length = n at *
  generalize splitN (fun e : Ki => endsN lv e.k) l = R at *
  clear h hn hl hz bb
  go_enter Try.func20, Try.ntmps20
  go_wp2_with fail
  refine HC.out.mono ?_
  rintro e w1 ⟨v, vs, rfl, h1, h2⟩
  have HX : Hid (SpoJ w R (.returned v) w1) := hide ⟨v, vs, rfl, h1.lower (by simp), HBB.out.trans (h2.mono (by simp))⟩
  clear h1 h2 HC
  go_wp2
  go_ret
  exact HX.out
theorem put_zero : putE ⟨0, [], []⟩ = ([], 90) := by
  have h : nodeE ⟨0, [], []⟩ = 90 := by
    unfold nodeE firstE Nd.leaf Nd.inner
    simp
  unfold putE
  rw [h]
  simp
def strA : ByteArray := ⟨#[97]⟩
def strI : ByteArray := ⟨#[49]⟩
theorem enc_small {n : Nat} (h : n < 128) : (enc n).length = 1 := by
  have := enc_one (m := (n : Int)) (by omega) (by omega)
  rw [Int.toNat_natCast] at this
  rw [this]
  rfl
theorem put_one : (putE ⟨0, [⟨strA, strI⟩], []⟩).2 = 0 ∧ (putE ⟨0, [⟨strA, strI⟩], []⟩).1.length = 6 := by
  have h : nodeE ⟨0, [⟨strA, strI⟩], []⟩ = 0 := by
    have h1 : enE ⟨strA, strI⟩ = 0 := by decide
    unfold nodeE firstE Nd.leaf Nd.inner Nd.keys
    simp [h1, firstE]
    simp [badAt]
  have hl : (ndB ⟨0, [⟨strA, strI⟩], []⟩).length = 6 := by
    unfold ndB
    simp only [List.flatMap_cons, List.flatMap_nil, enB, List.length_append, List.length_nil, List.length_cons, nums_length]
    have s1 : strA.size = 1 := rfl
    have s2 : strI.size = 1 := rfl
    rw [s1, s2, enc_small (n := 1) (by omega), enc_small (n := (0 : Int).toNat) (by decide)]
  unfold putE
  rw [if_neg (by rw [h]; simp), if_neg (by rw [hl]; omega)]
  exact ⟨rfl, hl⟩
set_option maxRecDepth 100000 in
set_option maxHeartbeats 1000000 in
theorem awake9 (w : World) : Calls Try.prog 7 #[] w fun e w' => e = .returned (.bool true) ∧ Below w.heap.size w w' := by
  have HC := hide (put_node w zeroN (okN_zero w) (by simp [zeroN]) (by simp [zeroN]))
  simp only [zeroN, NdA.cells, List.length_nil] at HC
  go_enter Try.func7, Try.ntmps7
  go_wp2_with fail
  refine HC.out.mono ?_
  rintro e w1 ⟨v, rfl, o1, b1⟩
  rw [put_zero] at o1 ⊢
  obtain ⟨a1, c1, hv1, _, _⟩ := own_form o1
  subst hv1
  obtain ⟨W1, hW1⟩ : ∃ W1, W1 = w1.alloc (.cells #[.string strA, .string strI] 55) := ⟨_, rfl⟩
  have bw : Below w1.heap.size w1 W1 := by rw [hW1]; exact (Below.refl _ _).alloc (Nat.le_refl _) _
  have k1 : Ob W1 w1.heap.size 55 [.string strA, .string strI] := by rw [hW1]; exact Ob.new w1 [.string strA, .string strI] 55
  have hok : OkN W1 ⟨⟨0, [⟨strA, strI⟩], []⟩, some ⟨w1.heap.size, 0, none⟩, 1, none, 0⟩ := by
    refine ⟨fun i e hi => ?_, fun i e hi => by simp at hi, by simp, fun _ => rfl, by simp, by simp, by simp [maxLen], by simp [maxLen], by simp, ?_, by simp⟩
    · have h0 : i = 0 := by
        have := (List.getElem?_eq_some_iff.1 hi).1
        simp at this
        exact this
      subst h0
      simp at hi
      subst hi
      exact ⟨w1.heap.size, 0, rfl, k1.cell 0, k1.cell 1⟩
    · intro e he
      simp at he
      subst he
      unfold maxLen
      decide
  have HC2 := hide (put_node W1 _ hok (by simp) (by simp))
  simp only [NdA.cells, List.length_cons, List.length_nil, Nat.zero_add] at HC2
  have HB1 := hide (b1.trans (bw.mono b1.size))
  have hs1 := HB1.out.size
  rw [hW1] at HC2
  clear HC o1 b1 bw k1 hok
  simp only [strA, strI] at HC2 hW1
  go_wp2_with fail
  refine HC2.out.mono ?_
  rintro e w2 ⟨v2, rfl, o2, b2⟩
  rw [← hW1] at b2
  obtain ⟨a2, c2, hv2, _, _⟩ := own_form o2
  subst hv2
  have h1 := put_one.1
  have h2 := put_one.2
  simp only [strA, strI] at h1 h2
  rw [h1, h2]
  have HB2 := hide (HB1.out.trans (b2.mono hs1))
  clear o2 b2 HC2 h1 h2
  go_wp2
  go_ret
  exact ⟨rfl, HB2.out⟩
end Go.Proofs.Ytandjkogpdamcaa
