/- stableCmpFunc and SortStableFunc, over the translation. -/
import Derived.Test.YtbegiiihkmloiaaDSu
namespace Go.Proofs.Ytbegiiihkmloiaa
open Go.RowKit Apo Go.Sort
theorem sym_any (cf : Nat) (hcf : CmpE cf) (g cap : Nat) (ex : List Value) : ∀ (N : Nat) (w : World) (d : List Ed), RoE w g d ex → d.length ≤ 1000000 → ∀ a m b : Nat, b - a ≤ N → a < m → m < b → b ≤ d.length → SrtIn d a m → SrtIn d m b →
    Calls Try.prog 34 #[.slice (some ⟨g, 0, none⟩) d.length cap, .int .i64 (a : Int), .int .i64 (m : Int), .int .i64 (b : Int), .func (.func cf) #[] #[]] w (InP w g ex d a b)
  | 0, w, d, _, _, a, m, b, h1, h2, h3, _, _, _ => by omega
  | N + 1, w, d, hr, hl, a, m, b, h1, h2, h3, h4, hs, hs' => by
    by_cases z1 : m = a + 1
    · exact sym_one cf hcf w g cap d ex hr hl a m b z1 h3 h4 hs'
    · by_cases z2 : b = m + 1
      · exact sym_last cf hcf w g cap d ex hr hl a m b (by omega) z2 h4 hs
      · have IH : ∀ (w' : World) (d' : List Ed) (a' m' b' : Nat), RoE w' g d' ex → d'.length = d.length → b' - a' < b - a → a' < m' → m' < b' → b' ≤ d.length → SrtIn d' a' m' → SrtIn d' m' b' → Calls Try.prog 34 #[.slice (some ⟨g, 0, none⟩) d.length cap, .int .i64 ((a' : Nat) : Int), .int .i64 ((m' : Nat) : Int), .int .i64 ((b' : Nat) : Int), .func (.func cf) #[] #[]] w' (InP w' g ex d' a' b') := fun w' d' a' m' b' q1 q2 q3 q4 q5 q6 q7 q8 => by
          have := sym_any cf hcf g cap ex N w' d' q1 (by omega) a' m' b' (by omega) q4 q5 (by omega) q7 q8
          rwa [q2] at this
        by_cases z3 : (a + b) / 2 < m
        · exact sym_midA cf hcf w g cap d ex hr hl a m b _ (by omega) (by omega) h4 rfl z3 hs hs' IH
        · exact sym_midB cf hcf w g cap d ex hr hl a m b _ (by omega) (by omega) h4 rfl z3 hs hs' IH
/-- blocks of bs, each sorted -/
def Blk (d : List Ed) (n bs : Nat) : Prop := ∀ k, SrtIn d (k * bs) (min (k * bs + bs) n)
def Rst (d : List Ed) (n bs a : Nat) : Prop := ∀ k, SrtIn d (a + k * bs) (min (a + k * bs + bs) n)
def Don (d : List Ed) (bs c : Nat) : Prop := ∀ k, k < c → SrtIn d (k * bs) (k * bs + bs)
theorem don_step {d d' : List Ed} {bs c : Nat} (h : Don d bs c) (o : Out d d' (c * bs) (c * bs + bs)) (s : SrtIn d' (c * bs) (c * bs + bs)) : Don d' bs (c + 1) := fun k hk => by
  by_cases q : k = c
  · rw [q]; exact s
  · have : (k + 1) * bs ≤ c * bs := Nat.mul_le_mul_right bs (by omega)
    rw [Nat.succ_mul] at this
    exact o.srt (h k (by omega)) (.inl this)
theorem don_last {d d' : List Ed} {bs c n : Nat} (h : Don d bs c) (h1 : n < c * bs + bs) (h2 : c * bs ≤ n) (o : Out d d' (c * bs) n) (s : SrtIn d' (c * bs) n) : Blk d' n bs := fun k => by
  by_cases q : k < c
  · have : (k + 1) * bs ≤ c * bs := Nat.mul_le_mul_right bs (by omega)
    rw [Nat.succ_mul] at this
    rw [Nat.min_eq_left (by omega)]
    exact o.srt (h k q) (.inl this)
  · by_cases z : k = c
    · rw [z, Nat.min_eq_right (by omega)]; exact s
    · have : (c + 1) * bs ≤ k * bs := Nat.mul_le_mul_right bs (by omega)
      rw [Nat.succ_mul] at this
      intro i j q1 q2 q3
      omega
theorem blk_rst {d : List Ed} {n bs : Nat} (h : Blk d n bs) : Rst d n bs 0 := fun k => by rw [Nat.zero_add]; exact h k
theorem rst_two {d : List Ed} {n bs a : Nat} (h : Rst d n bs a) : SrtIn d a (min (a + bs) n) ∧ SrtIn d (a + bs) (min (a + bs + bs) n) ∧ Rst d n bs (a + 2 * bs) := by
  refine ⟨by simpa using h 0, by simpa using h 1, fun k => ?_⟩
  have := h (k + 2)
  rwa [show a + (k + 2) * bs = a + 2 * bs + k * bs by rw [Nat.add_mul]; omega] at this
theorem rst_out {d d' : List Ed} {n bs a b : Nat} (h : Rst d n bs b) (o : Out d d' a b) : Rst d' n bs b := fun k => o.srt (h k) (.inr (by omega))
theorem blk_all {d : List Ed} {n bs : Nat} (h : Blk d n bs) (hn : n ≤ bs) : SrtIn d 0 n := by
  have := h 0
  rwa [Nat.zero_mul, Nat.zero_add, Nat.min_eq_right hn] at this
theorem Kee.more {w : World} {g : Nat} {ex : List Value} {d0 : List Ed} {n : Nat} {d d' : List Ed} {W W' : World} {a b : Nat} (h : Kee w g ex d0 0 n d W) (hb : b ≤ n) (hr : RoE W' g d' ex) (hs : Stb d d') (ho : Out d d' a b) (hf : Frm d d' a b) (hon : Onl (fun j => j = g) W W') : Kee w g ex d0 0 n d' W' :=
  ⟨hr, h.stb.trans hs, Out.trans h.out ho (Nat.le_refl _) (Nat.le_refl _) (Nat.zero_le _) hb, h.frm.trans (hf.wide ho (Nat.zero_le _) hb), h.on.trans hon⟩
set_option maxRecDepth 100000 in
set_option maxHeartbeats 16000000 in
theorem stable_any (cf : Nat) (hcf : CmpE cf) (w : World) (g cap : Nat) (d : List Ed) (ex : List Value) (h : RoE w g d ex) (hl : d.length ≤ 1000000) :
    Calls Try.prog 31 #[.slice (some ⟨g, 0, none⟩) d.length cap, .int .i64 d.length, .func (.func cf) #[] #[]] w (InP w g ex d 0 d.length) := by
  obtain ⟨n, hn⟩ : ∃ n, n = d.length := ⟨_, rfl⟩
  have HN := hide hn
  have HK0 : Hid (Kee w g ex d 0 n d w) := hide ⟨h, Stb.refl _, Out.refl _ _ _, Frm.refl _ _ _, Onl.refl _ _⟩
  have CI : ∀ W (d' : List Ed) (a b : Nat), RoE W g d' ex → d'.length = n → a ≤ b → b ≤ n → Calls Try.prog 33 #[.slice (some ⟨g, 0, none⟩) n cap, .int .i64 (a : Int), .int .i64 (b : Int), .func (.func cf) #[] #[]] W (InP W g ex d' a b) := fun W d' a b hr he h1 h2 => by
    have := ins_any cf hcf W g cap d' ex hr (by omega) a b h1 (by omega)
    rwa [he] at this
  have CM : ∀ W (d' : List Ed) (a m b : Nat), RoE W g d' ex → d'.length = n → a < m → m < b → b ≤ n → SrtIn d' a m → SrtIn d' m b → Calls Try.prog 34 #[.slice (some ⟨g, 0, none⟩) n cap, .int .i64 (a : Int), .int .i64 (m : Int), .int .i64 (b : Int), .func (.func cf) #[] #[]] W (InP W g ex d' a b) := fun W d' a m b hr he h1 h2 h3 h4 h5 => by
    have := sym_any cf hcf g cap ex (b - a) W d' hr (by omega) a m b (Nat.le_refl _) h1 h2 (by omega) h4 h5
    rwa [he] at this
  have HCI := hide CI
  have HCM := hide CM
  rw [← hn] at hl ⊢
  clear h hn CI CM hcf
  go_enter Try.func31, Try.ntmps31
  go_wp2
  go_loopw [7, 8] (fun u v wr => ∃ (c A Bv : Nat) (d' : List Ed), A ≤ n ∧ Bv = A + 20 ∧ u = .int .i64 A ∧ v = .int .i64 Bv ∧ Hid (A = c * 20) ∧ Hid (Kee w g ex d 0 n d' wr ∧ Don d' 20 c)) (fun u _ _ => n - (intOf u).toNat)
  case atStart => exact ⟨0, 0, 20, d, Nat.zero_le _, rfl, rfl, rfl, hide rfl, hide ⟨HK0.out, fun k hk => by omega⟩⟩
  case round =>
    obtain ⟨c, A, Bv, d1, hA, hBA, rfl, rfl, HA, HK⟩ := hrel
    have HBA := hide hBA
    by_cases hlt : Bv ≤ n
    · have hd : decide ((Bv : Int) ≤ (n : Int)) = true := decide_eq_true (by omega)
      have C1 := HCI.out wr d1 A Bv HK.out.1.ro (by rw [HK.out.1.len]; exact HN.out.symm) (by omega) hlt
      obtain ⟨B2, hB2⟩ : ∃ B2, B2 = Bv + 20 := ⟨_, rfl⟩
      have w1 : IntKind.i64.wrap ((Bv : Int) + 20) = (B2 : Int) := by rw [IntKind.wrap_i64]; omega
      have w1' : (Bv : Int) + 20 = (B2 : Int) := by omega
      have w1'' : IntKind.i64.wrap (B2 : Int) = (B2 : Int) := by rw [IntKind.wrap_i64]; omega
      have HB2 := hide hB2
      have HC1 := hide C1
      clear C1 hB2 hBA
      go_wp2_with fail
      refine HC1.out.mono ?_
      rintro e' w2 ⟨rfl, d2, r2, ⟨t1, t2, t3, t4⟩, t5⟩
      have HF : Hid (Kee w g ex d 0 n d2 w2 ∧ Don d2 20 (c + 1)) := by
        have ha := HA.out
        have hb := HBA.out
        refine hide ⟨HK.out.1.more hlt r2 t1 t2 t3 t5, ?_⟩
        rw [hb, ha] at t2 t4
        exact don_step HK.out.2 t2 t4
      clear r2 t1 t2 t3 t4 t5
      go_wp2
      go_roundw
      case rel => exact ⟨c + 1, Bv, B2, d2, hlt, HB2.out, rfl, rfl, hide (by have := HA.out; have := HBA.out; omega), HF⟩
      case measure => have := HBA.out; simp [intOf]; omega
    · have hd : decide ((Bv : Int) ≤ (n : Int)) = false := decide_eq_false (by omega)
      have C1 := HCI.out wr d1 A n HK.out.1.ro (by rw [HK.out.1.len]; exact HN.out.symm) hA (Nat.le_refl _)
      have HC1 := hide C1
      clear C1 hBA
      go_wp2_with fail
      refine HC1.out.mono ?_
      rintro e' w2 ⟨rfl, d2, r2, ⟨t1, t2, t3, t4⟩, t5⟩
      have HK2 : Hid (Kee w g ex d 0 n d2 w2 ∧ Blk d2 n 20) := by
        have ha := HA.out
        have hb := HBA.out
        refine hide ⟨HK.out.1.more (Nat.le_refl _) r2 t1 t2 t3 t5, ?_⟩
        rw [ha] at t2 t4
        exact don_last HK.out.2 (by omega) (by omega) t2 t4
      clear r2 t1 t2 t3 t4 t5 HK HC1
      go_wp2
      go_loopw [6] (fun u wr => ∃ (bs : Nat) (d' : List Ed), 20 ≤ bs ∧ bs ≤ 2 * n + 20 ∧ u = .int .i64 bs ∧ Hid (Kee w g ex d 0 n d' wr ∧ Blk d' n bs)) (fun u _ => 2 * n + 20 - (intOf u).toNat)
      case atStart => exact ⟨20, d2, Nat.le_refl _, by omega, rfl, HK2⟩
      case round =>
        clear HK2
        obtain ⟨bs, d3, hb20, hbn, rfl, HK3⟩ := hrel
        by_cases hbs : bs < n
        · have hd2 : decide ((bs : Int) < (n : Int)) = true := decide_eq_true (by omega)
          obtain ⟨bs2, hbs2⟩ : ∃ bs2, bs2 = 2 * bs := ⟨_, rfl⟩
          have w2a : IntKind.i64.wrap (2 * (bs : Int)) = (bs2 : Int) := by rw [IntKind.wrap_i64]; omega
          have w2b : 2 * (bs : Int) = (bs2 : Int) := by omega
          have w2c : IntKind.i64.wrap (bs2 : Int) = (bs2 : Int) := by rw [IntKind.wrap_i64]; omega
          have w2d : (bs : Int) * 2 = (bs2 : Int) := by omega
          have w2e : IntKind.i64.wrap ((bs : Int) * 2) = (bs2 : Int) := by rw [IntKind.wrap_i64]; omega
          have HB2 := hide hbs2
          obtain ⟨w4, rfl⟩ : ∃ w4, w4 = wr := ⟨_, rfl⟩
          clear hbs2
          go_wp2
          go_loopw [7, 8] (fun u v wr => ∃ (c A Bv : Nat) (d' : List Ed), A ≤ n ∧ Bv = A + bs2 ∧ u = .int .i64 A ∧ v = .int .i64 Bv ∧ Hid (A = c * bs2) ∧ Hid (Kee w g ex d 0 n d' wr ∧ Don d' bs2 c ∧ Rst d' n bs A)) (fun u _ _ => n - (intOf u).toNat)
          case atStart => exact ⟨0, 0, bs2, d3, Nat.zero_le _, by omega, rfl, rfl, hide (by rw [Nat.zero_mul]), hide ⟨HK3.out.1, fun k hk => by omega, blk_rst HK3.out.2⟩⟩
          case round =>
            clear HK3
            obtain ⟨c, A, Bv, d5, hA, hBA, rfl, rfl, HA, HK⟩ := hrel
            obtain ⟨mm, hmm⟩ : ∃ mm, mm = A + bs := ⟨_, rfl⟩
            have w3 : IntKind.i64.wrap ((A : Int) + (bs : Int)) = (mm : Int) := by rw [IntKind.wrap_i64]; omega
            have w3' : (A : Int) + (bs : Int) = (mm : Int) := by omega
            have w3'' : IntKind.i64.wrap (mm : Int) = (mm : Int) := by rw [IntKind.wrap_i64]; omega
            obtain ⟨q1, q2, q3⟩ := rst_two HK.out.2.2
            have HQ := hide (And.intro q1 (And.intro q2 q3))
            have HNU := hide (And.intro hBA (And.intro hmm HB2.out))
            by_cases hlt2 : Bv ≤ n
            · have hd3 : decide ((Bv : Int) ≤ (n : Int)) = true := decide_eq_true (by omega)
              have C1 := HCM.out wr d5 A mm Bv HK.out.1.ro (by rw [HK.out.1.len]; exact HN.out.symm) (by omega) (by have := HB2.out; omega) hlt2 (by rw [Nat.min_eq_left (by have := HB2.out; omega), ← hmm] at q1; exact q1) (by rw [Nat.min_eq_left (by have := HB2.out; omega), ← hmm, show mm + bs = Bv by have := HB2.out; omega] at q2; exact q2)
              obtain ⟨B3, hB3⟩ : ∃ B3, B3 = Bv + bs2 := ⟨_, rfl⟩
              have w4a : IntKind.i64.wrap ((Bv : Int) + (bs2 : Int)) = (B3 : Int) := by have := HB2.out; rw [IntKind.wrap_i64]; omega
              have w4b : (Bv : Int) + (bs2 : Int) = (B3 : Int) := by omega
              have w4c : IntKind.i64.wrap (B3 : Int) = (B3 : Int) := by have := HB2.out; rw [IntKind.wrap_i64]; omega
              have HB3 := hide hB3
              have HC1 := hide C1
              clear C1 hB3 hBA hmm q1 q2 q3
              go_wp2_with fail
              refine HC1.out.mono ?_
              rintro e' w6 ⟨rfl, d6, r6, ⟨t1, t2, t3, t4⟩, t5⟩
              have HF : Hid (Kee w g ex d 0 n d6 w6 ∧ Don d6 bs2 (c + 1) ∧ Rst d6 n bs Bv) := by
                have ha := HA.out
                have hu := HNU.out
                refine hide ⟨HK.out.1.more hlt2 r6 t1 t2 t3 t5, ?_, ?_⟩
                · rw [hu.1, ha] at t2 t4
                  exact don_step HK.out.2.1 t2 t4
                · have h3 := HQ.out.2.2
                  rw [show A + 2 * bs = Bv by omega] at h3
                  exact rst_out h3 t2
              clear r6 t1 t2 t3 t4 t5
              go_wp2
              go_roundw
              case rel => exact ⟨c + 1, Bv, B3, d6, hlt2, HB3.out, rfl, rfl, hide (by have := HA.out; have := HNU.out; rw [Nat.succ_mul]; omega), HF⟩
              case measure => have := HNU.out; simp [intOf]; omega
            · have hd3 : decide ((Bv : Int) ≤ (n : Int)) = false := decide_eq_false (by omega)
              by_cases hmn : mm < n
              · have hd4 : decide ((mm : Int) < (n : Int)) = true := decide_eq_true (by omega)
                have C1 := HCM.out wr d5 A mm n HK.out.1.ro (by rw [HK.out.1.len]; exact HN.out.symm) (by omega) hmn (Nat.le_refl _) (by rw [Nat.min_eq_left (by omega), ← hmm] at q1; exact q1) (by rw [Nat.min_eq_right (by have := HB2.out; omega), ← hmm] at q2; exact q2)
                have HC1 := hide C1
                clear C1 hBA hmm q1 q2 q3
                go_wp2_with fail
                refine HC1.out.mono ?_
                rintro e' w6 ⟨rfl, d6, r6, ⟨t1, t2, t3, t4⟩, t5⟩
                have HF : Hid (Kee w g ex d 0 n d6 w6 ∧ Blk d6 n bs2) := by
                  have ha := HA.out
                  have hu := HNU.out
                  refine hide ⟨HK.out.1.more (Nat.le_refl _) r6 t1 t2 t3 t5, ?_⟩
                  rw [ha] at t2 t4
                  exact don_last HK.out.2.1 (by omega) (by omega) t2 t4
                clear r6 t1 t2 t3 t4 t5
                go_wp2
                go_roundw
                case rel => exact ⟨bs2, d6, by have := HB2.out; omega, by have := HB2.out; omega, rfl, HF⟩
                case measure => have := HB2.out; simp [intOf]; omega
              · have hd4 : decide ((mm : Int) < (n : Int)) = false := decide_eq_false (by omega)
                have HF : Hid (Kee w g ex d 0 n d5 wr ∧ Blk d5 n bs2) := by
                  have ha := HA.out
                  have hu := HNU.out
                  have q1 := HQ.out.1
                  rw [Nat.min_eq_right (by omega), ha] at q1
                  exact hide ⟨HK.out.1, don_last HK.out.2.1 (by omega) (by omega) (Out.refl _ _ _) q1⟩
                clear hBA hmm q1 q2 q3
                go_wp2
                go_roundw
                case rel => exact ⟨bs2, d5, by have := HB2.out; omega, by have := HB2.out; omega, rfl, HF⟩
                case measure => have := HB2.out; simp [intOf]; omega
        · have hd2 : decide ((bs : Int) < (n : Int)) = false := decide_eq_false (by omega)
          have HF : Hid (InP w g ex d 0 n (.returned (.tuple #[])) wr) := hide (SoP.kee HK3.out.1 (blk_all HK3.out.2 (by omega)))
          go_wp2
          go_end0
          exact HF.out
set_option maxRecDepth 100000 in
set_option maxHeartbeats 4000000 in
theorem sortst_any (cf : Nat) (hcf : CmpE cf) (w : World) (g cap : Nat) (d : List Ed) (ex : List Value) (h : RoE w g d ex) (hl : d.length ≤ 1000000) :
    Calls Try.prog 24 #[.slice (some ⟨g, 0, none⟩) d.length cap, .func (.func cf) #[] #[]] w (InP w g ex d 0 d.length) := by
  have C := stable_any cf hcf w g cap d ex h hl
  have HC := hide C
  obtain ⟨n, hn⟩ : ∃ n, n = d.length := ⟨_, rfl⟩
  rw [← hn] at HC ⊢
  clear C h hn hcf hl
  go_enter Try.func24, Try.ntmps24
  go_wp2_with fail
  refine HC.out.mono ?_
  rintro e' w2 ⟨rfl, hz⟩
  go_wp2
  go_end0
  exact ⟨rfl, hz⟩
end Go.Proofs.Ytbegiiihkmloiaa
