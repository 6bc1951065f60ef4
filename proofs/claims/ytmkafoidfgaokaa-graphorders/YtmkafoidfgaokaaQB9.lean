/- The merge base. Over the translation. Law 15's awake. Over the translation. -/
import Derived.BigQuiet
import Derived.Test.YtmkafoidfgaokaaQB8
import Derived.Test.YtmkafoidfgaokaaQVMd
namespace Go.Proofs.Ytmkafoidfgaokaa
open Go.RowKit Apo
/-- what Base answers -/
def BsP (w : World) (r : Int × Bool) (e : Ending) (w' : World) : Prop := e = .returned (.tuple #[.int .u64 r.1, .bool r.2]) ∧ Below w.heap.size w w'
set_option maxRecDepth 100000 in
set_option maxHeartbeats 8000000 in
theorem basep_any {w : World} {p b : Nat} {X : List CmA} {l : List Cm} (h : Gp w p b X l) (G : Gok l) (P : Pos l) {ia ib : Int} (ha : 0 ≤ ia ∧ ia ≤ 18446744073709551615) (hb : 0 ≤ ib ∧ ib ≤ 18446744073709551615) :
    Calls Try.prog 18 #[.pointer (some ⟨p, 0, none⟩), .int .u64 ia, .int .u64 ib] w (BsP w (baseG l ia ib)) := by
  obtain ⟨S, hS⟩ : ∃ S, S = basesG l ia ib := ⟨_, rfl⟩
  have hbase := base_pos G P ia ib
  rw [← hS] at hbase
  rw [hbase]
  have bA : Below w.heap.size w (w.alloc (.cells #[.int .u64 0, .slice none 0 0, .int .u64 0, .int .u64 0, .string ⟨#[]⟩] 32)) := (Below.refl _ _).alloc (Nat.le_refl _) _
  have HC := hide (basesp_any ((h.old bA).gv) G ha hb)
  rw [← hS] at HC
  have HSX : Hid (∀ z ∈ S, ∃ x ∈ X, x.c.id = z ∧ fX X z = some x ∧ genOf l z = x.c.gen) := hide (fun z hz => by
    rw [hS] at hz
    have hc := (List.mem_filter.1 hz).1
    obtain ⟨c, hc2⟩ := (((mem_common G ia ib z).1 hc).1).there.1
    have hg := h.get z
    rw [hc2] at hg
    cases hq : fX X z with
    | none => rw [hq] at hg; cases hg
    | some x =>
      rw [hq] at hg
      injection hg with hg
      obtain ⟨h1, h2⟩ := fX_some hq
      exact ⟨x, h1, h2, rfl, by rw [genOf_is hc2, hg]⟩)
  have hSl : S.length ≤ 1000 := by
    rw [hS]
    have := basesG_len l ia ib
    have h1 := h.len
    have h2 := h.few
    omega
  have HH := hide h
  have HB := hide bA
  have HK : Hid (Ob (w.alloc (.cells #[.int .u64 0, .slice none 0 0, .int .u64 0, .int .u64 0, .string ⟨#[]⟩] 32)) w.heap.size 32 [.int .u64 zeroA.c.id, .slice zeroA.a zeroA.c.ps.length zeroA.cap, .int .u64 zeroA.c.gen, .int .u64 zeroA.c.root, .string zeroA.c.tx]) := hide (Ob.new w [.int .u64 0, .slice none 0 0, .int .u64 0, .int .u64 0, .string ⟨#[]⟩] 32)
  obtain ⟨n, hn⟩ : ∃ n, n = S.length := ⟨_, rfl⟩
  have HN := hide hn
  rw [← hn] at hSl
  clear h G P ha hb hS hbase bA hn
  go_enter Try.func18, Try.ntmps18
  go_wp2_with fail
  refine HC.out.mono ?_
  rintro e w1 ⟨sa, sn, sc, rfl, rfl, r1, b1⟩
  have HK1 := hide (HK.out.old b1)
  have HB1 := hide (HB.out.trans (b1.mono HB.out.size))
  have HR : Hid (∀ W', Onl (fun i => i = w.heap.size) w1 W' → Rd .u64 W' sa S) := hide (fun W' o => (Rd.own (r1.onl o (fun g hg e => by have := r1.2 g hg; simp at this; omega)).1).1)
  have HS1 : Hid (w.heap.size < w1.heap.size) := hide (HK1.out.lt)
  rw [← HN.out]
  clear r1 b1 HC HK HB
  go_wp2
  go_loopw [17] (fun v wr => ∃ (k : Nat) (x : CmA), k ≤ n ∧ v = .int .i64 k ∧ Hid (Ob wr w.heap.size 32 [.int .u64 x.c.id, .slice x.a x.c.ps.length x.cap, .int .u64 x.c.gen, .int .u64 x.c.root, .string x.c.tx]) ∧ Hid (baseS l S (0, 0) = baseS l (S.drop k) (x.c.id, x.c.gen)) ∧ Hid (Below w.heap.size w wr) ∧ Hid (Onl (fun i => i = w.heap.size) w1 wr)) (fun v _ => n - (intOf v).toNat)
  case atStart => exact ⟨0, zeroA, Nat.zero_le _, rfl, HK1, hide (by simp [zeroA, zeroCm]), HB1, hide (Onl.refl _ _)⟩
  case round =>
    clear HK1 HB1
    obtain ⟨k, x, hk, rfl, HK, HBS, HB, HO⟩ := hrel
    have k0 := HK.out.cell 0
    have k2 := HK.out.cell 2
    have k1 := HK.out.cell 1
    have k3 := HK.out.cell 3
    have k4 := HK.out.cell 4
    have f0 := HK.out.frozen 0
    have f1 := HK.out.frozen 1
    have f2 := HK.out.frozen 2
    have f3 := HK.out.frozen 3
    have f4 := HK.out.frozen 4
    simp only [List.getElem?_cons_zero, List.getElem?_cons_succ] at k0 k1 k2 k3 k4
    by_cases hlt : k < n
    · have hkl : k < S.length := by have := HN.out; omega
      have hrd : Rd .u64 wr sa S := HR.out wr HO.out
      obtain ⟨g, off, z, ha, hcz, hz, _⟩ := hrd.at hkl
      rw [ha]
      have hzS := List.mem_of_getElem? hz.out
      obtain ⟨y, hyX, hyz, hfy, hgy⟩ := HSX.out z hzS
      have hG := HH.out.old HB.out
      have hyb := hG.cs.id hyX
      rw [hyz] at hyb
      have hlk := mc_look hG.cs.mp hyb.1 hyb.2
      rw [hfy] at hlk
      have hlk1 : (Instr.lookup 61 (.map (some b)) (.int .u64 z) false).run Try.prog wr = .ok (.agg #[.int .u64 y.c.id, .slice y.a y.c.ps.length y.cap, .int .u64 y.c.gen, .int .u64 y.c.root, .string y.c.tx]) wr := hlk
      have p0 := hG.ob.cell 0
      simp only [List.getElem?_cons_zero] at p0
      have hsz : w.heap.size < wr.heap.size := HK.out.lt
      have kA := HK.out.alloc (.cells #[.int .u64 y.c.id, .slice y.a y.c.ps.length y.cap, .int .u64 y.c.gen, .int .u64 y.c.root, .string y.c.tx] 32)
      have aA := Ob.new wr [.int .u64 y.c.id, .slice y.a y.c.ps.length y.cap, .int .u64 y.c.gen, .int .u64 y.c.root, .string y.c.tx] 32
      have x0 := kA.cell 2
      have a0 := aA.cell 2
      simp only [List.getElem?_cons_zero, List.getElem?_cons_succ] at x0 a0
      have bB : Below wr.heap.size wr (wr.alloc (.cells #[.int .u64 y.c.id, .slice y.a y.c.ps.length y.cap, .int .u64 y.c.gen, .int .u64 y.c.root, .string y.c.tx] 32)) := (Below.refl _ _).alloc (Nat.le_refl _) _
      have HBB := hide (HB.out.trans (bB.mono HB.out.size))
      have HOB := hide (HO.out.trans (Onl.ofBelow bB))
      have hdr : S.drop k = z :: S.drop (k + 1) := by
        rw [List.drop_eq_getElem_cons hkl]
        congr 1
        have := hz.out
        rw [List.getElem?_eq_getElem hkl] at this
        exact Option.some.inj this
      have HST : Hid (baseS l S (0, 0) = baseS l (S.drop (k + 1)) (if x.c.gen < y.c.gen then (y.c.id, y.c.gen) else (x.c.id, x.c.gen))) := hide (by rw [HBS.out, hdr]; simp only [baseS]; rw [hgy, hyz])
      have HKA := hide kA
      by_cases hgt : x.c.gen < y.c.gen
      · have HST2 : Hid (baseS l S (0, 0) = baseS l (S.drop (k + 1)) (y.c.id, y.c.gen)) := hide (by rw [HST.out, if_pos hgt])
        clear hrd hz hdr hzS hyX hyz hfy hgy hG hlk bB HBS HST kA aA HBB HOB HKA
        go_wp2
        obtain ⟨WS, hWS⟩ : ∃ WS, WS = ((((wr.setCell ⟨w.heap.size, 0, none⟩ (.int .u64 y.c.id)).setCell ⟨w.heap.size, 1, none⟩ (.slice y.a y.c.ps.length y.cap)).setCell ⟨w.heap.size, 2, none⟩ (.int .u64 y.c.gen)).setCell ⟨w.heap.size, 3, none⟩ (.int .u64 y.c.root)).setCell ⟨w.heap.size, 4, none⟩ (.string y.c.tx) := ⟨_, rfl⟩
        obtain ⟨kF, oF⟩ := ob_store5 HK.out hWS
        rw [← hWS]
        have HBF := hide ((Below.onl HB.out oF (fun i q => by omega) (Nat.le_refl _)).alloc (Below.onl HB.out oF (fun i q => by omega) (Nat.le_refl _)).size (.cells #[.int .u64 y.c.id, .slice y.a y.c.ps.length y.cap, .int .u64 y.c.gen, .int .u64 y.c.root, .string y.c.tx] 32))
        have HOF := hide ((HO.out.trans oF).alloc (.cells #[.int .u64 y.c.id, .slice y.a y.c.ps.length y.cap, .int .u64 y.c.gen, .int .u64 y.c.root, .string y.c.tx] 32))
        have HKF := hide (kF.alloc (.cells #[.int .u64 y.c.id, .slice y.a y.c.ps.length y.cap, .int .u64 y.c.gen, .int .u64 y.c.root, .string y.c.tx] 32))
        clear kF oF hWS
        go_roundw
        case rel => exact ⟨k + 1, y, by omega, by simp, HKF, HST2, HBF, HOF⟩
        case measure => simp [intOf]; omega
      · have HST2 : Hid (baseS l S (0, 0) = baseS l (S.drop (k + 1)) (x.c.id, x.c.gen)) := hide (by rw [HST.out, if_neg hgt])
        clear hrd hz hdr hzS hyX hyz hfy hgy hG hlk bB HBS HST kA aA
        go_wp2
        go_roundw
        case rel => exact ⟨k + 1, x, by omega, by simp, HKA, HST2, HBB, HOB⟩
        case measure => simp [intOf]; omega
    · obtain rfl : k = n := by omega
      have HE : Hid (baseS l S (0, 0) = (x.c.id, x.c.gen)) := hide (by rw [HBS.out, HN.out, List.drop_length]; rfl)
      have HBD := hide (below_drewN HB.out)
      clear HBS
      go_wp2
      go_quiet (fail)
      go_wp2
      refine bodyPost_ret (v := .tuple #[.int .u64 x.c.id, .bool (x.c.id != 0)]) (by simp [results, Try.results18, go_sem]) rfl ?_
      rw [HE.out]
      exact ⟨rfl, HBD.out _⟩
set_option maxRecDepth 100000 in
set_option maxHeartbeats 4000000 in
/-- of a graph that nobody made: none -/
theorem basep_nil (w : World) {ia ib : Int} (ha : 0 ≤ ia ∧ ia ≤ 18446744073709551615) (hb : 0 ≤ ib ∧ ib ≤ 18446744073709551615) :
    Calls Try.prog 18 #[.pointer none, .int .u64 ia, .int .u64 ib] w (BsP w (0, false)) := by
  have bA : Below w.heap.size w (w.alloc (.cells #[.int .u64 0, .slice none 0 0, .int .u64 0, .int .u64 0, .string ⟨#[]⟩] 32)) := (Below.refl _ _).alloc (Nat.le_refl _) _
  have HC := hide (basesp_any (gv_nil (w.alloc (.cells #[.int .u64 0, .slice none 0 0, .int .u64 0, .int .u64 0, .string ⟨#[]⟩] 32))) gok_nil ha hb)
  have e0 : basesG [] ia ib = [] := rfl
  rw [e0] at HC
  have HB := hide bA
  have HK : Hid (Ob (w.alloc (.cells #[.int .u64 0, .slice none 0 0, .int .u64 0, .int .u64 0, .string ⟨#[]⟩] 32)) w.heap.size 32 [.int .u64 zeroA.c.id, .slice zeroA.a zeroA.c.ps.length zeroA.cap, .int .u64 zeroA.c.gen, .int .u64 zeroA.c.root, .string zeroA.c.tx]) := hide (Ob.new w [.int .u64 0, .slice none 0 0, .int .u64 0, .int .u64 0, .string ⟨#[]⟩] 32)
  clear ha hb bA e0
  go_enter Try.func18, Try.ntmps18
  go_wp2_with fail
  refine HC.out.mono ?_
  rintro e w1 ⟨sa, sn, sc, rfl, rfl, _, b1⟩
  have HK1 := hide (HK.out.old b1)
  have HB1 := hide (HB.out.trans (b1.mono HB.out.size))
  have k0 := HK1.out.cell 0
  simp only [List.getElem?_cons_zero, zeroA, zeroCm] at k0
  clear b1 HC HK HB
  simp only [List.length_nil]
  go_wp2
  go_loopw [17] (fun v wr => v = .int .i64 0 ∧ w1 = wr) (fun _ _ => 0)
  case atStart => exact ⟨rfl, rfl⟩
  case round =>
    obtain ⟨rfl, rfl⟩ := hrel
    have HBD := hide (below_drewN HB1.out)
    go_wp2
    go_quiet (fail)
    go_wp2
    refine bodyPost_ret (v := .tuple #[.int .u64 0, .bool false]) (by simp [results, Try.results18, go_sem]) rfl ?_
    exact ⟨rfl, HBD.out _⟩
end Go.Proofs.Ytmkafoidfgaokaa
namespace Go.Proofs.Ytmkafoidfgaokaa
open Go.RowKit Apo
def cA1 : Cm := ⟨1, [], 1, 0, ⟨#[]⟩⟩
def cA2 : Cm := ⟨2, [1], 2, 0, ⟨#[]⟩⟩
def cA3 : Cm := ⟨3, [1], 2, 0, ⟨#[]⟩⟩
theorem awake_base : baseG ([cA1, cA2, cA3].foldl addL []) 2 3 = (1, true) := by kernel_rfl
theorem rdg_ob {w : World} {g : Nat} {t : TypeId} {L : List CmA} (h : Ob w g t (gcells cCm L)) : RdG cCm 5 w (some ⟨g, 0, none⟩) L := by
  intro i x hi
  refine ⟨g, 0, rfl, fun j u hu => ?_⟩
  rw [h.cell, Nat.zero_add]
  have := gcells_at cCm_len L hi hu
  exact this
def fA (n : Nat) : CsA := ⟨some ⟨n + 2, 0, none⟩, 3, [⟨cA1, none, 0⟩, ⟨cA2, some ⟨n, 0, none⟩, 1⟩, ⟨cA3, some ⟨n + 1, 0, none⟩, 1⟩]⟩
def wA (w : World) : World := ((w.alloc (.cells #[.int .u64 1] 23)).alloc (.cells #[.int .u64 1] 23)).alloc (.cells #[.int .u64 1, .slice none 0 0, .int .u64 1, .int .u64 0, .string ⟨#[]⟩, .int .u64 2, .slice (some ⟨w.heap.size, 0, none⟩) 1 1, .int .u64 2, .int .u64 0, .string ⟨#[]⟩, .int .u64 3, .slice (some ⟨w.heap.size + 1, 0, none⟩) 1 1, .int .u64 2, .int .u64 0, .string ⟨#[]⟩] 32)
theorem fA_ok (w : World) : OkCs (wA w) (fA w.heap.size) := by
  have k3 := Ob.new ((w.alloc (.cells #[.int .u64 1] 23)).alloc (.cells #[.int .u64 1] 23)) (gcells cCm (fA w.heap.size).l) 32
  have e2 : ((w.alloc (.cells #[.int .u64 1] 23)).alloc (.cells #[.int .u64 1] 23)).heap.size = w.heap.size + 2 := by simp
  have e3 : (((w.alloc (.cells #[.int .u64 1] 23)).alloc (.cells #[.int .u64 1] 23)).alloc (.cells (gcells cCm (fA w.heap.size).l).toArray 32)) = wA w := rfl
  rw [e3, e2] at k3
  have r1 : Rd .u64 (wA w) (some ⟨w.heap.size, 0, none⟩) [1] := (rd_lit1 .u64 w 23 1).below (((Below.refl _ _).alloc (Nat.le_refl _) _).alloc (by simp) _)
  have r2 : Rd .u64 (wA w) (some ⟨w.heap.size + 1, 0, none⟩) [1] := by
    have := rd_lit1 .u64 (w.alloc (.cells #[.int .u64 1] 23)) 23 1
    rw [World.size_alloc] at this
    exact this.below ((Below.refl _ _).alloc (Nat.le_refl _) _)
  refine ⟨rdg_ob k3, ?_, by show (3 : Nat) ≤ 3; omega, by show (3 : Nat) ≤ maxLen; unfold maxLen; omega⟩
  intro y hy
  simp only [fA, List.mem_cons, List.not_mem_nil, or_false] at hy
  rcases hy with rfl | rfl | rfl
  · exact ⟨⟨Rd.nil _ _ _, by simp [cA1], by simp, by show (0 : Nat) ≤ _; omega, by simp [cA1, Cm.Sz]⟩, fun _ => rfl⟩
  · exact ⟨⟨r1, by simp [cA2], by simp, by show (0 : Nat) ≤ _; omega, by simp [cA2, Cm.Sz]⟩, fun e => by cases e⟩
  · exact ⟨⟨r2, by simp [cA3], by simp, by show (0 : Nat) ≤ _; omega, by simp [cA3, Cm.Sz]⟩, fun e => by cases e⟩
set_option maxRecDepth 100000 in
set_option maxHeartbeats 4000000 in
theorem awake15 (w : World) : Calls Try.prog 9 #[] w fun e w' => e = .returned (.bool true) ∧ Below w.heap.size w w' := by
  have HC : Hid (Calls Try.prog 11 #[.slice (some ⟨w.heap.size + 2, 0, none⟩) 3 3] (wA w) fun e w' => ∃ p px, e = .returned (.tuple #[.pointer (some ⟨p, 0, none⟩), .pointer px, .bool true]) ∧ Below w.heap.size w w' ∧ Calls Try.prog 18 #[.pointer (some ⟨p, 0, none⟩), .int .u64 2, .int .u64 3] w' fun e w'' => e = .returned (.tuple #[.int .u64 1, .bool true]) ∧ Below w.heap.size w w'') := hide (by
    have bA : Below w.heap.size w (wA w) := (((Below.refl _ w).alloc (Nat.le_refl _) _).alloc (by simp) _).alloc (by simp; omega) _
    refine (made15 (wA w) (fA w.heap.size) (fA_ok w) (by show (3 : Nat) ≤ 25; omega)).mono ?_
    rintro e w' ⟨p, b, px, l, rfl, hl, _, hm⟩
    obtain ⟨X, hg⟩ := hm.g
    have hb := bA.trans (hm.bw.mono bA.size)
    refine ⟨p, _, rfl, hb, (basep_any hg hm.ok hm.pos (ia := 2) (ib := 3) (by omega) (by omega)).mono ?_⟩
    rintro e w'' ⟨rfl, b2⟩
    have e1 : baseG l 2 3 = (1, true) := by rw [hl]; exact awake_base
    rw [e1]
    exact ⟨rfl, hb.trans (b2.mono hb.size)⟩)
  unfold wA at HC
  go_enter Try.func9, Try.ntmps9
  go_wp2_with fail
  refine HC.out.mono ?_
  rintro e w' ⟨p, px, rfl, _, hc⟩
  have HB := hide hc
  clear hc HC
  go_wp2_with fail
  refine HB.out.mono ?_
  rintro e w'' ⟨rfl, hb⟩
  have HF := hide hb
  clear hb HB
  go_wp2
  go_ret
  exact ⟨rfl, HF.out⟩
end Go.Proofs.Ytmkafoidfgaokaa
