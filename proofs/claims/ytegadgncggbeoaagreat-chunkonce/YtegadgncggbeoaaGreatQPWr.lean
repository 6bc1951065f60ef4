/- lay and Write of the program's pager. Over the translation. -/
import Derived.Test.YtegadgncggbeoaaGreatQPNd
import Derived.Test.YtegadgncggbeoaaGreatQCWr
namespace Apo
open Go Go.RowKit

/-- k sectors of a page are written from the sector a on -/
def layK (st : Sd) (a : Int) (p : List Int) : Nat → Int × Sd
  | 0 => (0, st)
  | k + 1 => if (layK st a p k).1 = 0 then (layK st a p k).2.wrote (a + k) (cutS p k) else layK st a p k
/-- i pages of a text are written from the sector a on -/
def layTo (st : Sd) (a : Int) (b : List Int) : Nat → Int × Sd
  | 0 => (0, st)
  | i + 1 => if (layTo st a b i).1 = 0 then layK (layTo st a b i).2 (a + 4 * i) (pageB (chunkB b i)) 4 else layTo st a b i
def Sd.wrText2 (st : Sd) (a : Int) (b : List Int) : Int × Sd := if needP b.length = 0 then (2, st) else layTo st a b (needP b.length)
theorem layK_stuck {st : Sd} {a : Int} {P : List Int} {k : Nat} (h : (layK st a P k).1 ≠ 0) : ∀ m, layK st a P (k + m) = layK st a P k
  | 0 => rfl
  | m + 1 => by
    have ih := layK_stuck h m
    show layK st a P (k + m + 1) = _
    simp only [layK]
    rw [ih, if_neg h]
theorem layTo_stuck {st : Sd} {a : Int} {b : List Int} {i : Nat} (h : (layTo st a b i).1 ≠ 0) : ∀ m, layTo st a b (i + m) = layTo st a b i
  | 0 => rfl
  | m + 1 => by
    have ih := layTo_stuck h m
    show layTo st a b (i + m + 1) = _
    simp only [layTo]
    rw [ih, if_neg h]
theorem layK_C (st : Sd) (a : Int) (p : List Int) : ∀ k, (layK st a p k).2.C.length ≤ st.C.length + k
  | 0 => Nat.le_refl _
  | k + 1 => by
    have ih := layK_C st a p k
    simp only [layK]
    split
    · have := wrote_C (layK st a p k).2 (a + k) (cutS p k)
      omega
    · omega
theorem layTo_C (st : Sd) (a : Int) (b : List Int) : ∀ i, (layTo st a b i).2.C.length ≤ st.C.length + 4 * i
  | 0 => Nat.le_refl _
  | i + 1 => by
    have ih := layTo_C st a b i
    simp only [layTo]
    split
    · have := layK_C (layTo st a b i).2 (a + 4 * i) (pageB (chunkB b i)) 4
      omega
    · omega
/-- within a device it is the document's -/
theorem layK_page {st : Sd} {s i : Nat} {p : List Int} (hs : (s + i) * 4 ≤ 131072) : ∀ k, k ≤ 4 → layK st ((s : Int) * 4 + 4 * i) p k = wrPage st s i p k
  | 0, _ => rfl
  | k + 1, hk => by
    have ih := layK_page (st := st) (p := p) hs k (by omega)
    simp only [layK, wrPage, ih]
    rw [show (s : Int) * 4 + 4 * i + k = sAt s i k by rw [sAt_nat (by omega)]; omega]
theorem layTo_text {st : Sd} {s : Nat} {b : List Int} : ∀ i, (s + i) * 4 ≤ 131072 → layTo st ((s : Int) * 4) b i = wrTo st s b i
  | 0, _ => rfl
  | i + 1, hi => by
    have ih := layTo_text (st := st) (s := s) (b := b) i (by omega)
    simp only [layTo, wrTo, ih]
    rw [layK_page (by omega) 4 (Nat.le_refl _)]
theorem wrText2_eq {st : Sd} {s : Nat} {b : List Int} (hs : s < 16384) : st.wrText2 ((s : Int) * 4) b = st.wrText s b := by
  unfold Sd.wrText2 Sd.wrText
  have := needP_le (b.length : Int)
  rw [layTo_text _ (by omega)]
end Apo
namespace Go.Proofs.YtegadgncggbeoaaGreat
open Go.RowKit Apo

theorem enter_write : ∀ args w, (callFunc 22 args).run Tryz.prog w = .ok (.enter 22 args) w := fun _ _ => by kernel_rfl
/-- the device as it is written: its blocks are O's, or new -/
structure Wtx (O : Nat → Prop) (w : World) (p : Nat) (st : Sd) (W : World) (O' : Nat → Prop) : Prop where
  d : CDev O' W p st
  onl : Onl O w W
  inn : ∀ i, O' i → O i ∨ w.heap.size ≤ i
  lt : ∀ i, O' i → i < W.heap.size
theorem Wtx.below {O O' : Nat → Prop} {w W W' : World} {p : Nat} {st : Sd} (h : Wtx O w p st W O') (b : Below W.heap.size W W') : Wtx O w p st W' O' :=
  ⟨h.d.onl (F := fun _ => False) (Onl.ofBelow b) (fun _ _ q => q), h.onl.trans (Onl.ofBelow b), h.inn, fun i hi => Nat.lt_of_lt_of_le (h.lt i hi) b.size⟩
theorem Wtx.turn {O O' : Nat → Prop} {w W W' : World} {p : Nat} {st st' : Sd} (h : Wtx O w p st W O') (d : CDev (Gro O' W W') W' p st') (o : Onl O' W W') : Wtx O w p st' W' (Gro O' W W') :=
  ⟨d, h.onl.more o h.inn, fun i hi => hi.elim (h.inn i) (fun q => .inr (Nat.le_trans h.onl.size q.1)), Gro.lt h.lt o.size⟩
theorem Wtx.out {O O' : Nat → Prop} {w W : World} {p : Nat} {st : Sd} (h : Wtx O w p st W O') : CDev (Gro O w W) W p st ∧ Onl O w W :=
  ⟨h.d.mono (fun j hj => (h.inn j hj).elim (fun q => .inl q) (fun q => .inr ⟨q, h.lt j hj⟩)), h.onl⟩
theorem Wtx.new {O : Nat → Prop} {w : World} {p : Nat} {st : Sd} (h : CDev O w p st) (hO : ∀ i, O i → i < w.heap.size) : Wtx O w p st w O := ⟨h, Onl.refl _ _, fun _ hi => .inl hi, hO⟩

set_option maxRecDepth 100000 in
set_option maxHeartbeats 2000000 in
theorem clay_any {O : Nat → Prop} {w : World} {p : Nat} {st : Sd} (h : CDev O w p st) (hO : ∀ i, O i → i < w.heap.size) (hc : st.C.length ≤ 1073741824) (a : Int) (ha1 : -1 ≤ a) (ha2 : a ≤ 1048576) (g : Nat) (P : List Int) (hr : Ob w g 5 (P.map (Value.int .u8))) (hl : P.length = 128) (hbo : ¬ O g) (hby : ∀ z ∈ P, 0 ≤ z ∧ z ≤ 255) :
    Calls Tryz.prog 109 #[.func (.func 22) #[.pointer (some ⟨p, 0, none⟩)] #[], .int .i64 a, .slice (some ⟨g, 0, none⟩) 128 128] w fun e w' => e = .returned (.int .i64 (layK st a P 4).1) ∧ CDev (Gro O w w') w' p (layK st a P 4).2 ∧ Onl O w w' := by
  have HR := hide hr
  have H0 := hide (Wtx.new h hO)
  have hE := enter_write
  have hgl := hr.lt
  clear hr h hO
  go_enter Tryz.func109, Tryz.ntmps109
  go_wp2
  go_loopw [11] (fun v wr => ∃ k : Nat, k ≤ 4 ∧ v = .int .i64 k ∧ Hid ((layK st a P k).1 = 0) ∧ ∃ O', Hid (Wtx O w p (layK st a P k).2 wr O')) (fun v _ => 4 - (intOf v).toNat)
  case atStart => exact ⟨0, by omega, rfl, rfl, O, H0⟩
  case round =>
    obtain ⟨k, hk, rfl, hz, O', HW⟩ := hrel
    by_cases hk4 : k < 4
    · have hgk : ¬ O' g := fun q => (HW.out.inn g q).elim hbo (fun q => by omega)
      have hCk := layK_C st a P k
      have rk : Rd .u8 wr (some ⟨g, 32 * k, none⟩) (cutS P k) := by
        have := Rd.take (rd_drop (at' := 32 * k) (rd_ob (HR.out.onl HW.out.onl hbo))) 32
        rw [Nat.zero_add] at this
        exact this
      have CW := cwrite_any HW.out.d (by omega) (a + k) (some ⟨g, 32 * k, none⟩) 32 (cutS P k) rk (fun x hx _ => by cases hx; exact hgk) (cutS_byt hby k)
      rw [cutS_len hl hk4] at CW
      have esn : layK st a P (k + 1) = (layK st a P k).2.wrote (a + k) (cutS P k) := by simp only [layK]; rw [if_pos hz.out]
      obtain ⟨A, hA⟩ : ∃ A, A = a + (k : Int) := ⟨_, rfl⟩
      have wA : IntKind.i64.wrap (a + (k : Int)) = A := by rw [IntKind.wrap_i64]; omega
      obtain ⟨J, hJ⟩ : ∃ J, J = 32 * k := ⟨_, rfl⟩
      obtain ⟨T, hT⟩ : ∃ T, T = J + 32 := ⟨_, rfl⟩
      rw [← hA] at CW esn
      rw [← hJ] at CW
      have wJ : IntKind.i64.wrap ((k : Int) * 32) = (J : Int) := by rw [IntKind.wrap_i64]; omega
      have wT : IntKind.i64.wrap ((J : Int) + 32) = (T : Int) := by rw [IntKind.wrap_i64]; omega
      have t1 : J ≤ T := by omega
      have t2 : T ≤ 128 := by omega
      have t3 : T - J = 32 := by omega
      have HE := hide esn
      have HCW := hide CW
      have HA := hide hA
      have HJ := hide hJ
      have HT := hide hT
      clear esn CW hA hJ hT rk hCk
      go_wp2_with fail
      refine HCW.out.mono ?_
      rintro e W2 ⟨rfl, d2, o2⟩
      have HW2 := hide (HW.out.turn d2 o2)
      clear d2 o2
      by_cases hq : ((layK st a P k).2.wrote A (cutS P k)).1 = 0
      · rw [hq]
        go_wp2
        go_roundw
        case rel => exact ⟨k + 1, by omega, by simp, hide (by rw [HE.out]; exact hq), _, by rw [HE.out]; exact HW2⟩
        case measure => simp [intOf]; omega
      · have efin : layK st a P 4 = (layK st a P k).2.wrote A (cutS P k) := by
          have hs1 : (layK st a P (k + 1)).1 ≠ 0 := by rw [HE.out]; exact hq
          have e4 := layK_stuck hs1 (4 - (k + 1))
          rw [show k + 1 + (4 - (k + 1)) = 4 by omega, HE.out] at e4
          exact e4
        have HEF := hide efin
        generalize (layK st a P k).2.wrote A (cutS P k) = res at *
        have hres : (res.1 == 0) = false := by simpa using hq
        clear efin
        go_wp2
        go_ret
        rw [HEF.out]
        exact ⟨rfl, HW2.out.out⟩
    · obtain rfl : k = 4 := by omega
      go_wp2
      go_ret
      rw [hz.out]
      exact ⟨rfl, HW.out.out⟩

theorem firstP_bd (s : Int) : -1 ≤ firstP s ∧ firstP s ≤ 65536 := by unfold firstP; split <;> omega
set_option maxRecDepth 100000 in
set_option maxHeartbeats 4000000 in
theorem cwtext_any {O : Nat → Prop} {w : World} {p : Nat} {st : Sd} (h : CDev O w p st) (hO : ∀ i, O i → i < w.heap.size) (hc : st.C.length ≤ 536870912) (start : Int) (ba : Option Addr) (bc : Nat) (b : List Int) (hr : Rd .u8 w ba b) (hn : ba = none → bc = 0) (hbc : b.length ≤ bc) (hbo : ∀ x, ba = some x → 0 < b.length → ¬ O x.block) (hby : ∀ z ∈ b, 0 ≤ z ∧ z ≤ 255) :
    Calls Tryz.prog 76 #[.pointer (some ⟨p, 0, none⟩), .int .i64 start, .slice ba b.length bc] w fun e w' => e = .returned (.int .i64 (st.wrText2 (firstP start) b).1) ∧ CDev (Gro O w w') w' p (st.wrText2 (firstP start) b).2 ∧ Onl O w w' := by
  have C1 := cneed_any (b.length : Int) w
  have C2 := cfirst_any start w
  obtain ⟨a1, a2⟩ := firstP_bd start
  generalize firstP start = a at *
  have H0 := hide (Wtx.new h hO)
  have HR := hide hr
  have HBO := hide hbo
  have HBY := hide hby
  have HN := hide hn
  have hnl := needP_le (b.length : Int)
  clear h hO hr hbo hby hn
  by_cases hnd : needP b.length = 0
  · have ew : st.wrText2 a b = (2, st) := by unfold Sd.wrText2; rw [if_pos hnd]
    rw [ew]
    rw [hnd] at C1
    clear ew
    go_enter Tryz.func76, Tryz.ntmps76
    go_wp2_with fail
    refine C1.mono ?_
    rintro e wx ⟨rfl, rfl⟩
    go_wp2
    go_ret
    exact ⟨rfl, H0.out.out⟩
  · have ew : st.wrText2 a b = layTo st a b (needP b.length) := by unfold Sd.wrText2; rw [if_neg hnd]
    rw [ew]
    obtain ⟨n, hnn⟩ : ∃ n, n = needP b.length := ⟨_, rfl⟩
    rw [← hnn] at hnd C1 hnl ⊢
    have hn0 : ((n : Int) == 0) = false := by simp; omega
    have HNN := hide hnn
    clear hnn ew
    go_enter Tryz.func76, Tryz.ntmps76
    go_wp2_with fail
    refine C1.mono ?_
    rintro e wx ⟨rfl, rfl⟩
    go_wp2_with fail
    refine C2.mono ?_
    rintro e wx ⟨rfl, rfl⟩
    go_wp2
    go_loopw [22] (fun v wr => ∃ i : Nat, i ≤ n ∧ v = .int .i64 i ∧ Hid ((layTo st a b i).1 = 0) ∧ ∃ O', Hid (Wtx O w p (layTo st a b i).2 wr O')) (fun v _ => n - (intOf v).toNat)
    case atStart => exact ⟨0, by omega, rfl, rfl, O, H0⟩
    case round =>
      obtain ⟨i, hi, rfl, hz, O', HW⟩ := hrel
      by_cases hlt : i < n
      · have hRb : Rd .u8 wr ba b := HR.out.onl HW.out.onl HBO.out
        have C3 := ccut_any ba bc b hRb HN.out hbc i (by rw [← HNN.out]; exact hlt)
        obtain ⟨D, hD⟩ : ∃ D : Int, D = a + 4 * i := ⟨_, rfl⟩
        have w1 : IntKind.i64.wrap ((i : Int) * 4) = (i : Int) * 4 := by rw [IntKind.wrap_i64]; omega
        have w2 : IntKind.i64.wrap (a + (i : Int) * 4) = D := by rw [IntKind.wrap_i64]; omega
        have hCi := layTo_C st a b i
        have HD := hide hD
        have HC3 := hide C3
        clear hRb C3 hD
        go_wp2_with fail
        refine HC3.out.mono ?_
        rintro e wx ⟨⟨a3, c3, rfl, r3, n3, _, o3⟩, rfl⟩
        have C4 := cpage_any a3 c3 (chunkB b i) r3 (chunkB_len b i) (chunkB_byt HBY.out i)
        have HC4 := hide C4
        clear C4 r3 n3 o3
        generalize (chunkB b i).length = L at *
        go_wp2_with fail
        refine HC4.out.mono ?_
        rintro e W1 ⟨rfl, k4, b4⟩
        have hw1 := HW.out.below b4
        have C5 := clay_any hw1.d hw1.lt (by omega) D (by rw [HD.out]; omega) (by rw [HD.out]; omega) wr.heap.size (pageB (chunkB b i)) k4 (pageB_len (chunkB_len b i)) (fun q => absurd (HW.out.lt _ q) (Nat.lt_irrefl _)) (pageB_byt (chunkB_byt HBY.out i))
        have esn : layTo st a b (i + 1) = layK (layTo st a b i).2 D (pageB (chunkB b i)) 4 := by simp only [layTo]; rw [if_pos hz.out, ← HD.out]
        obtain ⟨res, hres⟩ : ∃ r, r = layK (layTo st a b i).2 D (pageB (chunkB b i)) 4 := ⟨_, rfl⟩
        rw [← hres] at C5 esn
        have HE := hide esn
        have HC5 := hide C5
        have HW1 := hide hw1
        clear esn C5 hw1 k4 b4 hCi hres
        go_wp2_with fail
        refine HC5.out.mono ?_
        rintro e W2 ⟨rfl, d2, o2⟩
        have HW2 := hide (HW1.out.turn d2 o2)
        clear d2 o2
        by_cases hq : res.1 = 0
        · have HQ := hide hq
          rw [hq]
          clear hq
          go_wp2
          go_roundw
          case rel => exact ⟨i + 1, by omega, by simp, hide (by rw [HE.out]; exact HQ.out), _, hide (by rw [HE.out]; exact HW2.out)⟩
          case measure => simp [intOf]; omega
        · have efin : layTo st a b n = res := by
            have hs1 : (layTo st a b (i + 1)).1 ≠ 0 := by rw [HE.out]; exact hq
            have e4 := layTo_stuck hs1 (n - (i + 1))
            rw [show i + 1 + (n - (i + 1)) = n by omega, HE.out] at e4
            exact e4
          have HEF := hide efin
          have hres : (res.1 == 0) = false := by simpa using hq
          clear efin
          go_wp2
          go_ret
          rw [HEF.out]
          exact ⟨rfl, HW2.out.out⟩
      · obtain rfl : i = n := by omega
        go_wp2
        go_ret
        rw [hz.out]
        exact ⟨rfl, HW.out.out⟩
end Go.Proofs.YtegadgncggbeoaaGreat
