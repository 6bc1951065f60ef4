/- The way from commits to their ancestors: meet. Over the translation. -/
import Derived.Deep.RegionHeld3
import Derived.Test.YtmkafoidfgaokaaQB7
import Derived.Test.YtmkafoidfgaokaaQL1
import Derived.Test.YtmkafoidfgaokaaQL2
namespace Go.Proofs.Ytmkafoidfgaokaa
open Go.RowKit Apo
/-- a way at p over what is there (m, X): met is F, its map at bm; d waits, in blocks of O -/
structure Wy (w0 w : World) (p bm : Nat) (m : Option Nat) (O : Nat → Prop) (X F d : List CmA) : Prop where
  b : Below w0.heap.size w0 w
  q : Qe w p (.map m, .map (some bm)) O d
  hp : Hp.HeapFrom ltQ (fq d) d.length 0
  mp : Mp Try.prog 23 w bm (mC F)
  no : NoTw F
  sF : ∀ x ∈ F, x ∈ X
  sd : ∀ x ∈ d, x ∈ X
  lo : ∀ k, O k → w0.heap.size ≤ k
  lb : w0.heap.size ≤ bm
  nb : ¬ O bm
theorem Qe.onl {F O : Nat → Prop} {w w' : World} {p : Nat} {uv : Value × Value} {d : List CmA} (h : Qe w p uv O d) (o : Onl F w w') (hF : ∀ k, O k → ¬ F k) : Qe w' p uv O d := by
  obtain ⟨a, n, c, hn, ob, row⟩ := h.mem
  exact ⟨h.lo, fun k hk => Nat.lt_of_lt_of_le (h.lt k hk) o.size, a, n, c, hn, ob.onl o (hF p h.lo), row.onl o (fun g hg => hF g (row.2 g hg).1)⟩
theorem Qe.ob {O : Nat → Prop} {w : World} {p : Nat} {uv : Value × Value} {d : List CmA} (h : Qe w p uv O d) : ∃ a n c, Ob w p 78 [uv.1, uv.2, .slice a n c] := by
  obtain ⟨a, n, c, _, ob, _⟩ := h.mem
  exact ⟨a, n, c, ob⟩
theorem cs_re2 {w wr : World} {b : Nat} {X Y : List CmA} (hm : Mp Try.prog 23 wr b (mC Y)) (hs : ∀ y ∈ Y, y ∈ X) (hX : (∀ x ∈ X, CmR w x.c x.a x.cap) ∧ (∀ x ∈ X, (x.a = none → x.cap = 0) ∧ x.c.ps.length ≤ 2) ∧ NoTw X) (hb : Below w.heap.size w wr) (hN : NoTw Y) : Cs wr b Y :=
  ⟨hm, fun y hy => (hX.1 y (hs y hy)).below hb, fun y hy => hX.2.1 y (hs y hy), hN⟩
section
variable {w0 w w' : World} {p bm : Nat} {m : Option Nat} {O : Nat → Prop} {X F d : List CmA}
theorem Wy.old (h : Wy w0 w p bm m O X F d) (o : Below w.heap.size w w') : Wy w0 w' p bm m O X F d :=
  { h with b := h.b.trans (o.mono h.b.size), q := h.q.old o, mp := h.mp.below o }
theorem Wy.cs (h : Wy w0 w p bm m O X F d) (hX : CsO w0 m X) : Cs w bm F := cs_re2 h.mp h.sF hX.cm h.b h.no
end
/-- what meet leaves -/
def MtP (w0 w : World) (p bm : Nat) (m : Option Nat) (O : Nat → Prop) (X : List CmA) (l : List Cm) (id : Int) (P : List Cm) (w' : World) : Prop :=
  ∃ O' F' d', Wy w0 w' p bm m O' X F' d' ∧ WayI l id P (d'.map CmA.c) (idsX F') [] ∧ (∀ k, O' k → O k ∨ w.heap.size ≤ k) ∧ Onl (fun k => O k ∨ k = bm) w w'
set_option maxRecDepth 100000 in
set_option maxHeartbeats 8000000 in
theorem meet_any {w0 w : World} {p bm : Nat} {m : Option Nat} {O : Nat → Prop} {X F d : List CmA} {l : List Cm} {id : Int} {P : List Cm} {todo : List Int} {ta : Option Addr} {tc : Nat} (h : Wy w0 w p bm m O X F d) (hX : CsO w0 m X) (hl : X.length ≤ 1000) (G : Gok l) (hget : ∀ z, getG l z = (fX X z).map CmA.c)
    (hI : WayI l id P (d.map CmA.c) (idsX F) todo) (hr : ∀ W, Onl (fun k => O k ∨ k = bm) w W → Rd .u64 W ta todo) (hu : InU todo) (htl : todo.length ≤ 1000000) :
    Calls Try.prog 45 #[.pointer (some ⟨p, 0, none⟩), .slice ta todo.length tc] w fun e w' => e = .returned (.tuple #[]) ∧ MtP w0 w p bm m O X l id P w' := by
  have HX := hide hX
  have HXC : Hid (∀ x ∈ X, CmR w0 x.c x.a x.cap) := hide hX.cm.1
  have HXN := hide hX.cm.2.2
  have HL := hide hl
  have HGK := hide G
  have HGET := hide hget
  have HR := hide hr
  have HU := hide hu
  have HW := hide h
  have HI := hide hI
  obtain ⟨n, hn⟩ : ∃ n, n = todo.length := ⟨_, rfl⟩
  have HN := hide hn
  rw [← hn] at htl ⊢
  clear hX hl G hget hr hu h hI hn
  go_enter Try.func45, Try.ntmps45
  go_wp2
  go_loopw [12] (fun v wr => ∃ (k : Nat) (O' : Nat → Prop) (F' d' : List CmA), k ≤ n ∧ v = .int .i64 k ∧ Hid (Wy w0 wr p bm m O' X F' d') ∧ Hid (WayI l id P (d'.map CmA.c) (idsX F') (todo.drop k)) ∧ Hid (∀ k, O' k → O k ∨ w.heap.size ≤ k) ∧ Hid (Onl (fun k => O k ∨ k = bm) w wr)) (fun v _ => n - (intOf v).toNat)
  case atStart => exact ⟨0, O, F, d, Nat.zero_le _, rfl, HW, by simpa using HI, hide (fun k hk => .inl hk), hide (Onl.refl _ _)⟩
  case round =>
    clear HW HI
    obtain ⟨k, O', F', d', hk, rfl, HW, HI, HO', HO⟩ := hrel
    by_cases hlt : k < n
    · have hkl : k < todo.length := by have := HN.out; omega
      obtain ⟨g, off, z, hta, hcz, hz, _⟩ := (HR.out wr HO.out).at hkl
      rw [hta]
      have hzm := List.mem_of_getElem? hz.out
      have hzu : 0 ≤ z ∧ z ≤ 18446744073709551615 := by have := HU.out z hzm; omega
      have hdr : todo.drop k = z :: todo.drop (k + 1) := by
        rw [List.drop_eq_getElem_cons hkl]
        congr 1
        have := hz.out
        rw [List.getElem?_eq_getElem hkl] at this
        exact Option.some.inj this
      have HI1 : Hid (WayI l id P (d'.map CmA.c) (idsX F') (z :: todo.drop (k + 1))) := hide (by rw [← hdr]; exact HI.out)
      obtain ⟨qa, qn, qc, ob⟩ := HW.out.q.ob
      have p0 := ob.cell 0
      simp only [List.getElem?_cons_zero] at p0
      have hpl := ob.lt
      have hcsw : CsO wr m X := HX.out.old HW.out.b
      have hlk := hcsw.look2 hzu.1 hzu.2
      have hgz := HGET.out z
      have HPL : Hid (p < wr.heap.size) := hide hpl
      clear hz hzm hdr HI
      cases hq : fX X z with
      | none =>
        rw [hq] at hlk hgz
        have hF : fX F' z = none := fX_no (fun y hy => fX_none hq y (HW.out.sF y hy))
        have hlk1 : (Instr.lookup 61 (.map m) (.int .u64 z) true).run Try.prog wr = .ok (.tuple #[.agg #[.int .u64 0, .slice none 0 0, .int .u64 0, .int .u64 0, .string ⟨#[]⟩], .bool false]) wr := hlk
        have b1 : Below wr.heap.size wr (wr.alloc (.cells #[.int .u64 0, .slice none 0 0, .int .u64 0, .int .u64 0, .string ⟨#[]⟩] 32)) := (Below.refl _ _).alloc (Nat.le_refl _) _
        have b2 : Below wr.heap.size wr ((wr.alloc (.cells #[.int .u64 0, .slice none 0 0, .int .u64 0, .int .u64 0, .string ⟨#[]⟩] 32)).alloc (.cells #[.int .u64 0, .slice none 0 0, .int .u64 0, .int .u64 0, .string ⟨#[]⟩] 32)) := b1.alloc (by simp) _
        have p1 := (ob.old b1).cell 1
        simp only [List.getElem?_cons_zero, List.getElem?_cons_succ] at p1
        have hlkb := mc_look2 (HW.out.mp.below b1) hzu.1 hzu.2
        rw [hF] at hlkb
        have hlk2 : (Instr.lookup 61 (.map (some bm)) (.int .u64 z) true).run Try.prog (wr.alloc (.cells #[.int .u64 0, .slice none 0 0, .int .u64 0, .int .u64 0, .string ⟨#[]⟩] 32)) = .ok (.tuple #[.agg #[.int .u64 0, .slice none 0 0, .int .u64 0, .int .u64 0, .string ⟨#[]⟩], .bool false]) (wr.alloc (.cells #[.int .u64 0, .slice none 0 0, .int .u64 0, .int .u64 0, .string ⟨#[]⟩] 32)) := hlkb
        have HW2 := hide (HW.out.old b2)
        have HI2 := hide (HI1.out.skip HGK.out (.inr (by rw [hgz]; rfl)))
        have HO2 := hide (HO.out.trans (Onl.ofBelow b2))
        clear hlk hlkb b1 b2 hgz hq hF HI1 HW ob hcsw hta
        go_wp2
        go_roundw
        case rel => exact ⟨k + 1, O', F', d', by omega, by simp, HW2, HI2, HO', HO2⟩
        case measure => simp [intOf]; omega
      | some x =>
        rw [hq] at hlk hgz
        have hlk1 : (Instr.lookup 61 (.map m) (.int .u64 z) true).run Try.prog wr = .ok (.tuple #[.agg #[.int .u64 x.c.id, .slice x.a x.c.ps.length x.cap, .int .u64 x.c.gen, .int .u64 x.c.root, .string x.c.tx], .bool true]) wr := hlk
        have b1 : Below wr.heap.size wr (wr.alloc (.cells #[.int .u64 x.c.id, .slice x.a x.c.ps.length x.cap, .int .u64 x.c.gen, .int .u64 x.c.root, .string x.c.tx] 32)) := (Below.refl _ _).alloc (Nat.le_refl _) _
        have p1 := (ob.old b1).cell 1
        simp only [List.getElem?_cons_zero, List.getElem?_cons_succ] at p1
        have hlkb := mc_look2 (HW.out.mp.below b1) hzu.1 hzu.2
        rcases fX_sub HW.out.sF HXN.out hq with hF | hF
        · rw [hF] at hlkb
          have hlk2 : (Instr.lookup 61 (.map (some bm)) (.int .u64 z) true).run Try.prog (wr.alloc (.cells #[.int .u64 x.c.id, .slice x.a x.c.ps.length x.cap, .int .u64 x.c.gen, .int .u64 x.c.root, .string x.c.tx] 32)) = .ok (.tuple #[.agg #[.int .u64 0, .slice none 0 0, .int .u64 0, .int .u64 0, .string ⟨#[]⟩], .bool false]) (wr.alloc (.cells #[.int .u64 x.c.id, .slice x.a x.c.ps.length x.cap, .int .u64 x.c.gen, .int .u64 x.c.root, .string x.c.tx] 32)) := hlkb
          have b2 : Below wr.heap.size wr ((wr.alloc (.cells #[.int .u64 x.c.id, .slice x.a x.c.ps.length x.cap, .int .u64 x.c.gen, .int .u64 x.c.root, .string x.c.tx] 32)).alloc (.cells #[.int .u64 0, .slice none 0 0, .int .u64 0, .int .u64 0, .string ⟨#[]⟩] 32)) := b1.alloc (by simp) _
          obtain ⟨W2, hW2⟩ : ∃ W2, W2 = (wr.alloc (.cells #[.int .u64 x.c.id, .slice x.a x.c.ps.length x.cap, .int .u64 x.c.gen, .int .u64 x.c.root, .string x.c.tx] 32)).alloc (.cells #[.int .u64 0, .slice none 0 0, .int .u64 0, .int .u64 0, .string ⟨#[]⟩] 32) := ⟨_, rfl⟩
          have kX : Ob W2 wr.heap.size 32 [.int .u64 x.c.id, .slice x.a x.c.ps.length x.cap, .int .u64 x.c.gen, .int .u64 x.c.root, .string x.c.tx] := by rw [hW2]; exact (Ob.new wr [.int .u64 x.c.id, .slice x.a x.c.ps.length x.cap, .int .u64 x.c.gen, .int .u64 x.c.root, .string x.c.tx] 32).alloc _
          rw [← hW2] at b2
          have bD := b2.drew
          have hWD := HW.out.old bD
          obtain ⟨hxm, hxi⟩ := fX_some hq
          have hsub : ∀ y ∈ F' ++ [x], y ∈ X := fun y hy => by
            rcases List.mem_append.1 hy with q | q
            · exact hWD.sF y q
            · rw [List.mem_singleton.1 q]; exact hxm
          have hno := noTw_add hWD.no (by rw [hxi]; exact hF)
          have hfl : (F' ++ [x]).length ≤ X.length := sub_len hsub hno (fun y hy => (HXC.out y (hsub y hy)).sz.1.1)
          obtain ⟨w3, R3, cs3, o3⟩ := (hWD.cs HX.out).put (Y := F' ++ [x]) ((HXC.out x hxm).below hWD.b) (HX.out.cm.2.1 x hxm) hno (fun y => by rw [List.mem_append, List.mem_singleton]; exact Or.comm) (by rw [hxi]; exact hF) (by rw [List.length_append] at hfl; have := HL.out; omega)
          rw [hxi] at R3
          have B3 : Below w0.heap.size w0 w3 := Below.onl hWD.b o3 (fun i q => by rw [q]; exact hWD.lb) (Nat.le_refl _)
          have q3 : Qe w3 p (.map m, .map (some bm)) O' d' := hWD.q.onl o3 (fun j hj e => hWD.nb (by rw [← e]; exact hj))
          have hbw : bm < wr.heap.size := HW.out.mp.lt
          have k3 := (kX.old (Below.refl _ _).drew).onl o3 (by omega)
          have hdl : d'.length ≤ 1000 := by
            have h1 := HI1.out.perm.length_eq
            have h2 := sub_len HW.out.sF HW.out.no (fun y hy => (HXC.out y (HW.out.sF y hy)).sz.1.1)
            have h3 := HL.out
            simp only [List.length_map, List.length_append, idsX] at h1
            omega
          have HPU := hide (hpush (w := w3.drew) (q3.old (Below.refl _ _).drew) (by omega) HW.out.hp x)
          have HMT : Hid (∀ w5 d5, Qe w5 p (.map m, .map (some bm)) (Gro O' w3.drew w5) d5 → d5.Perm (d' ++ [x]) → Hp.HeapFrom ltQ (fq d5) d5.length 0 → Onl O' w3.drew w5 →
              Wy w0 w5 p bm m (Gro O' w3.drew w5) X (F' ++ [x]) d5 ∧ WayI l id P (d5.map CmA.c) (idsX (F' ++ [x])) (todo.drop (k + 1)) ∧ (∀ j, Gro O' w3.drew w5 j → O j ∨ w.heap.size ≤ j) ∧ Onl (fun k => O k ∨ k = bm) w w5 ∧ Ob w5 wr.heap.size 32 [.int .u64 x.c.id, .slice x.a x.c.ps.length x.cap, .int .u64 x.c.gen, .int .u64 x.c.root, .string x.c.tx]) := hide (by
            intro w5 d5 hq5 hp5 hh5 o5
            have hs3 : wr.heap.size ≤ w3.heap.size := Nat.le_trans bD.size o3.size
            have hmo : ∀ j, O' j → w0.heap.size ≤ j := hWD.lo
            refine ⟨⟨Below.onl B3.drew o5 hmo (Nat.le_refl _), hq5, hh5, (cs3.mp.below (Below.refl _ _).drew).onl o5 hWD.nb, hno, hsub, fun y hy => ?_, fun j hj => hj.elim (hmo j) (fun q => Nat.le_trans B3.size q.1), hWD.lb, fun hj => hj.elim hWD.nb (fun q => by have : w3.drew.heap.size = w3.heap.size := rfl; omega)⟩, ?_, ?_, ?_, ?_⟩
            · rcases List.mem_append.1 (hp5.mem_iff.1 hy) with q | q
              · exact hWD.sd y q
              · rw [List.mem_singleton.1 q]; exact hxm
            · have e1 : idsX (F' ++ [x]) = idsX F' ++ [z] := by unfold idsX; rw [List.map_append, List.map_singleton, hxi]
              rw [e1]
              refine HI1.out.take (c := x.c) (by rw [hgz]; rfl) ?_ ?_
              · have := fX_in F' z
                rw [hF] at this
                simpa using this.symm
              · have := hp5.map CmA.c
                rw [List.map_append, List.map_singleton] at this
                exact this
            · intro j hj
              rcases hj with q | q
              · exact HO'.out j q
              · right
                have h1 := HO.out.size
                have : w3.drew.heap.size = w3.heap.size := rfl
                omega
            · have h1 : Onl (fun k => O k ∨ k = bm) w w3 := (HO.out.trans (Onl.ofBelow bD)).trans (o3.mono (fun i q => .inr q))
              refine h1.drew.more o5 (fun j hj => ?_)
              rcases HO'.out j hj with q | q
              · exact .inl (.inl q)
              · exact .inr q
            · exact (k3.old (Below.refl _ _).drew).onl o5 (fun hj => by have := hWD.q.lt _ hj; have := HW.out.q.lt _ hj; omega))
          obtain ⟨np, hnp⟩ : ∃ np, np = x.c.ps.length := ⟨_, rfl⟩
          have e0 : aggC x = .agg #[.int .u64 x.c.id, .slice x.a np x.cap, .int .u64 x.c.gen, .int .u64 x.c.root, .string x.c.tx] := by rw [hnp]; rfl
          rw [e0] at R3 HPU
          have y0 := k3.cell 0
          have y1 := k3.cell 1
          have y2 := k3.cell 2
          have y3 := k3.cell 3
          have y4 := k3.cell 4
          have x0 := (kX.old (Below.refl _ _).drew).cell 0
          have x1 := (kX.old (Below.refl _ _).drew).cell 1
          have x2 := (kX.old (Below.refl _ _).drew).cell 2
          have x3 := (kX.old (Below.refl _ _).drew).cell 3
          have x4 := (kX.old (Below.refl _ _).drew).cell 4
          obtain ⟨_, _, _, obD⟩ := hWD.q.ob
          have pd := obD.cell 1
          simp only [List.getElem?_cons_zero, List.getElem?_cons_succ] at y0 y1 y2 y3 y4 x0 x1 x2 x3 x4 pd
          rw [hW2] at R3 x0 x1 x2 x3 x4 pd
          simp only [← hnp] at R3 x0 x1 x2 x3 x4 pd y1 hlk1 hlk2 HMT p1
          clear hlk hlkb b1 b2 hgz hq hF HI1 HW ob hcsw hta hW2 kX bD hWD hxm hxi hsub hno hfl cs3 o3 B3 q3 k3 hnp e0 obD HO HO'
          go_wp2
          go_region
          go_wp2
          go_region_held3 (fun W' => W'.cell? ⟨wr.heap.size, 0, none⟩ = some (.int .u64 x.c.id) ∧ W'.cell? ⟨wr.heap.size, 1, none⟩ = some (.slice x.a np x.cap) ∧ W'.cell? ⟨wr.heap.size, 2, none⟩ = some (.int .u64 x.c.gen) ∧ W'.cell? ⟨wr.heap.size, 3, none⟩ = some (.int .u64 x.c.root) ∧ W'.cell? ⟨wr.heap.size, 4, none⟩ = some (.string x.c.tx)) (go_keep) (first
            | (go_at_call 56; refine HPU.out.mono ?_; rintro en w5 ⟨rfl, d5, h51, h52, h53, h54⟩; have HF5 := hide (HMT.out w5 d5 h51 h52 h53 h54); have z0 := HF5.out.2.2.2.2.cell 0; have z1 := HF5.out.2.2.2.2.cell 1; have z2 := HF5.out.2.2.2.2.cell 2; have z3 := HF5.out.2.2.2.2.cell 3; have z4 := HF5.out.2.2.2.2.cell 4; simp only [List.getElem?_cons_zero, List.getElem?_cons_succ] at z0 z1 z2 z3 z4; clear h51 h52 h53 h54))
          go_wp2
          go_roundw
          case rel => exact ⟨k + 1, _, F' ++ [x], d5, by omega, by simp, hide HF5.out.1, hide HF5.out.2.1, hide HF5.out.2.2.1, hide HF5.out.2.2.2.1⟩
          case measure => simp [intOf]; omega
        · rw [hF] at hlkb
          have hlk2 : (Instr.lookup 61 (.map (some bm)) (.int .u64 z) true).run Try.prog (wr.alloc (.cells #[.int .u64 x.c.id, .slice x.a x.c.ps.length x.cap, .int .u64 x.c.gen, .int .u64 x.c.root, .string x.c.tx] 32)) = .ok (.tuple #[.agg #[.int .u64 x.c.id, .slice x.a x.c.ps.length x.cap, .int .u64 x.c.gen, .int .u64 x.c.root, .string x.c.tx], .bool true]) (wr.alloc (.cells #[.int .u64 x.c.id, .slice x.a x.c.ps.length x.cap, .int .u64 x.c.gen, .int .u64 x.c.root, .string x.c.tx] 32)) := hlkb
          have b2 : Below wr.heap.size wr ((wr.alloc (.cells #[.int .u64 x.c.id, .slice x.a x.c.ps.length x.cap, .int .u64 x.c.gen, .int .u64 x.c.root, .string x.c.tx] 32)).alloc (.cells #[.int .u64 x.c.id, .slice x.a x.c.ps.length x.cap, .int .u64 x.c.gen, .int .u64 x.c.root, .string x.c.tx] 32)) := b1.alloc (by simp) _
          have HW2 := hide (HW.out.old b2)
          have HI2 := hide (HI1.out.skip HGK.out (.inl (by have := fX_in F' z; rw [hF] at this; simpa using this.symm)))
          have HO2 := hide (HO.out.trans (Onl.ofBelow b2))
          clear hlk hlkb b1 b2 hgz hq hF HI1 HW ob hcsw hta
          go_wp2
          go_roundw
          case rel => exact ⟨k + 1, O', F', d', by omega, by simp, HW2, HI2, HO', HO2⟩
          case measure => simp [intOf]; omega
    · obtain rfl : k = n := by omega
      have HF : Hid (MtP w0 w p bm m O X l id P wr) := hide ⟨O', F', d', HW.out, by have := HI.out; rw [HN.out, List.drop_length] at this; exact this, HO'.out, HO.out⟩
      clear HW HI HO HO'
      go_wp2
      go_end0
      exact ⟨rfl, HF.out⟩
end Go.Proofs.Ytmkafoidfgaokaa
