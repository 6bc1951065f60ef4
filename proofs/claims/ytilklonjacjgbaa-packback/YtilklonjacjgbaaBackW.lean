/- The walk of apographlaw02.PackBack: it answers true, over the translation. -/
import Derived.Test.YtilklonjacjgbaaBackM
import Derived.Test.YtilklonjacjgbaaFieldsW
import Derived.BigQuiet
import Derived.Deep.QuietTactic
namespace Go.Proofs.Ytilklonjacjgbaa
open Go.RowKit Apo

theorem Try.info3 : (Try.prog.info? 3).map (fun i => (i.zero, i.size, i.bytes)) = some (some (.int .i64 0), 1, 8) := by kernel_rfl

/-- rows of unlike elements lie apart -/
theorem own_apart {w : World} {B1 B2 e1 e2 s1 s2 n1 n2 : Nat} {v1 v2 : Value} {xs ys : List Value} (h1 : w.ownsRow B1 e1 s1 v1 n1 xs) (h2 : w.ownsRow B2 e2 s2 v2 n2 ys) (he : e1 ≠ e2) : v1.ownBlock = none ∨ v1.ownBlock ≠ v2.ownBlock := by
  rcases h1.2 with ⟨rfl, _⟩ | ⟨g, cap, cur, rfl, _, hg, _⟩
  · exact Or.inl rfl
  · right
    rcases h2.2 with ⟨rfl, _⟩ | ⟨g2, cap2, cur2, rfl, _, hg2, _⟩
    · simp [Value.ownBlock]
    · simp only [Value.ownBlock, ne_eq, Option.some.injEq]
      rintro rfl
      rw [hg] at hg2
      simp only [Option.some.injEq, Obj.cells.injEq] at hg2
      exact he hg2.2.1

/-- the kinds of the first k fields, and the fields without what their kinds don't name, as cells -/
def kvals (l : List Fld) (k : Nat) : List Value := ((l.take k).map (·.k)).map (Value.int .i64)
def xcells (l : List Fld) (k : Nat) : List Value := fcells ((l.take k).map ownF)

/-- what loop 1 has made -/
structure Made (w wr : World) (l : List Fld) (k : Nat) (v5 v6 : Value) : Prop where
  ks : wr.ownsRow w.heap.size 3 1 v5 k (kvals l k)
  xs : wr.ownsRow w.heap.size 38 4 v6 k (xcells l k)
  known : ∀ f ∈ l.take k, Known f
  below : Below w.heap.size w wr

theorem Made.below_alloc {w wr : World} {l : List Fld} {k : Nat} {v5 v6 : Value} (h : Made w wr l k v5 v6) (o : Obj) : Made w (wr.alloc o) l k v5 v6 :=
  ⟨h.ks.alloc o, h.xs.alloc o, h.known, h.below.alloc h.below.size o⟩

theorem Made.first {w wa w1 : World} {l : List Fld} {k : Nat} {v5 v6 v5' : Value} {f : Fld} (h : Made w wa l k v5 v6) (hz : l[k]? = some f) (h1 : w1.ownsRow w.heap.size 3 1 v5' (k + 1) (kvals l k ++ [.int .i64 f.k])) (o : Obj) (hg : (wa.alloc o).grownBy w1 v5.ownBlock) :
    w1.ownsRow w.heap.size 3 1 v5' (k + 1) (kvals l (k + 1)) ∧ w1.ownsRow w.heap.size 38 4 v6 k (xcells l k) ∧ Below w.heap.size w w1 := by
  have e : l.take (k + 1) = l.take k ++ [f] := by rw [List.take_add_one, hz]; rfl
  refine ⟨by unfold kvals at h1 ⊢; rw [e]; simpa using h1, (h.xs.alloc o).kept hg ?_, ?_⟩
  · exact own_apart h.xs h.ks (by decide)
  · exact (h.below.alloc h.below.size o).grown hg (by have := h.below.size; simp; omega) (fun q hq => (h.ks.lt q hq).1)

theorem Made.second {w w1 w2 w3 : World} {l : List Fld} {k : Nat} {v5 v6 v6' : Value} {f : Fld} (hk : w1.ownsRow w.heap.size 3 1 v5 (k + 1) (kvals l (k + 1))) (hx : w1.ownsRow w.heap.size 38 4 v6 k (xcells l k)) (hb : Below w.heap.size w w1)
    (hb2 : Below w1.heap.size w1 w2) (hz : l[k]? = some f) (hkn : ∀ f ∈ l.take k, Known f) (hf : Known f) (o : Obj)
    (h3 : w3.ownsRow w.heap.size 38 4 v6' (k + 1) (xcells l k ++ [.int .i64 (ownF f).k, .int .u64 (ownF f).n, .string (ownF f).s, .bool (ownF f).b])) (hg : (w2.alloc o).grownBy w3 v6.ownBlock) : Made w w3 l (k + 1) v5 v6' := by
  have e : l.take (k + 1) = l.take k ++ [f] := by rw [List.take_add_one, hz]; rfl
  have hk2 : w2.ownsRow w.heap.size 3 1 v5 (k + 1) (kvals l (k + 1)) := hk.kept (grew_below none hb2) (by cases v5.ownBlock <;> simp)
  have hx2 : w2.ownsRow w.heap.size 38 4 v6 k (xcells l k) := hx.kept (grew_below none hb2) (by cases v6.ownBlock <;> simp)
  have b2 : Below w.heap.size w w2 := hb.trans (hb2.mono hb.size)
  refine ⟨(hk2.alloc o).kept hg (own_apart hk2 hx2 (by decide)), ?_, ?_, ?_⟩
  · unfold xcells at h3 ⊢
    rw [e, List.map_append, fcells_append]
    rw [List.map_cons, List.map_nil, fcells_one]
    exact h3
  · intro g hgm
    rw [e, List.mem_append] at hgm
    rcases hgm with hgm | hgm
    · exact hkn g hgm
    · simp at hgm; subst hgm; exact hf
  · exact (b2.alloc b2.size o).grown hg (by have := b2.size; simp; omega) (fun q hq => (hx2.lt q hq).1)

theorem Made.kinds {w wr : World} {l : List Fld} {v5 v6 : Value} (h : Made w wr l l.length v5 v6) : ∃ a cap, v5 = .slice a l.length cap ∧ Rd .i64 wr a (l.map (·.k)) := by
  have h1 := h.ks
  have e : kvals l l.length = (l.map (·.k)).map (Value.int .i64) := by unfold kvals; rw [List.take_length]
  rw [e] at h1
  obtain ⟨a, cap, rfl, _⟩ := own_form h1
  exact ⟨a, cap, rfl, (Rd.own h1).1⟩
theorem Made.fields {w wr : World} {l : List Fld} {v5 v6 : Value} (h : Made w wr l l.length v5 v6) : ∃ a cap, v6 = .slice a l.length cap ∧ RdF wr a (l.map ownF) := by
  have h1 := h.xs
  have e : xcells l l.length = fcells (l.map ownF) := by unfold xcells; rw [List.take_length]
  rw [e] at h1
  obtain ⟨a, cap, h2, h3⟩ := rdf_own h1
  rw [List.length_map] at h2
  exact ⟨a, cap, h2, h3⟩

/-- what loop 2 has made -/
structure Made2 (w wr : World) (l m : List Fld) (k : Nat) (v : Value) : Prop where
  ys : wr.ownsRow w.heap.size 38 4 v k (xcells m k)
  same : (m.take k).map (·.k) = (l.take k).map (·.k)
  below : Below w.heap.size w wr

theorem Made2.step {w wr w5 w6 : World} {l m : List Fld} {k : Nat} {v v' : Value} {f g : Fld} (h : Made2 w wr l m k v) (hz : m[k]? = some f) (hy : l[k]? = some g) (hfg : f.k = g.k) (hb : Below wr.heap.size wr w5) (o : Obj)
    (h3 : w6.ownsRow w.heap.size 38 4 v' (k + 1) (xcells m k ++ [.int .i64 (ownF f).k, .int .u64 (ownF f).n, .string (ownF f).s, .bool (ownF f).b])) (hg : (w5.alloc o).grownBy w6 v.ownBlock) : Made2 w w6 l m (k + 1) v' := by
  have e : m.take (k + 1) = m.take k ++ [f] := by rw [List.take_add_one, hz]; rfl
  have e' : l.take (k + 1) = l.take k ++ [g] := by rw [List.take_add_one, hy]; rfl
  have b5 : Below w.heap.size w w5 := h.below.trans (hb.mono h.below.size)
  refine ⟨?_, ?_, ?_⟩
  · unfold xcells at h3 ⊢
    rw [e, List.map_append, fcells_append]
    rw [List.map_cons, List.map_nil, fcells_one]
    exact h3
  · rw [e, e', List.map_append, List.map_append, h.same]
    simp [hfg]
  · exact (b5.alloc b5.size o).grown hg (by have := b5.size; simp; omega) (fun q hq => (h.ys.lt q hq).1)

theorem Made2.fields {w wr : World} {l m : List Fld} {v : Value} (h : Made2 w wr l m m.length v) : ∃ a cap, v = .slice a m.length cap ∧ RdF wr a (m.map ownF) := by
  have h1 := h.ys
  have e : xcells m m.length = fcells (m.map ownF) := by unfold xcells; rw [List.take_length]
  rw [e] at h1
  obtain ⟨a, cap, h2, h3⟩ := rdf_own h1
  rw [List.length_map] at h2
  exact ⟨a, cap, h2, h3⟩

theorem known_of {l m : List Fld} (h : m.map (·.k) = l.map (·.k)) (hl : ∀ f ∈ l, Known f) : ∀ f ∈ m, Known f := by
  intro f hf
  have h1 : f.k ∈ m.map (·.k) := List.mem_map_of_mem hf
  rw [h, List.mem_map] at h1
  obtain ⟨g, hg, e⟩ := h1
  have := hl g hg
  unfold Known at *
  rw [← e]
  exact this

theorem sameF_yesL (a : Option Addr) (acap : Nat) (l : List Fld) (n : Nat) (b : Option Addr) (bcap : Nat) (n' : Nat) (w : World) (hn : l.length = n) (hn' : l.length = n') (ha : RdF w a l) (hb : RdF w b l) (hl : l.length ≤ 9223372036854775807) :
    Calls Try.prog 13 #[.slice a n acap, .slice b n' bcap] w fun e w' => e = .returned (.bool true) ∧ Below w.heap.size w w' := by
  subst hn hn'
  exact sameF_yes a acap l b bcap w ha hb hl
theorem sameF_noL (a : Option Addr) (acap : Nat) (l : List Fld) (n : Nat) (b : Option Addr) (bcap : Nat) (m : List Fld) (n' : Nat) (w : World) (hn : l.length = n) (hn' : m.length = n') (hne : l ≠ m) (ha : RdF w a l) (hb : RdF w b m) (hl : l.length ≤ 9223372036854775807) :
    Calls Try.prog 13 #[.slice a n acap, .slice b n' bcap] w fun e w' => e = .returned (.bool false) ∧ Below w.heap.size w w' := by
  subst hn hn'
  refine (sameF_any a acap l b bcap m w ha hb hl).mono ?_
  rintro e w' ⟨rfl, h⟩
  exact ⟨by simp [hne], h⟩

attribute [local go_sem ↓] Go.wp_at_zero Go.wp_at_succ

set_option maxHeartbeats 4000000 in
theorem back_any (fa : Option Addr) (fcap : Nat) (l : List Fld) (ma : Option Addr) (mcap : Nat) (m : List Fld) (w : World) (hf : RdF w fa l) (hok : ∀ f ∈ l, OkF f) (hfl : l.length ≤ 9223372036854775807) (hfs : ∀ f ∈ l, f.s.size ≤ 9223372036854775807)
    (hm : RdF w ma m) (mok : ∀ f ∈ m, OkF f) (hml : m.length ≤ 9223372036854775807) (hms : ∀ f ∈ m, f.s.size ≤ 9223372036854775807) :
    Calls Try.prog 4 #[.slice fa l.length fcap, .slice ma m.length mcap] w fun e w' => e = .returned (.bool true) ∧ Below w.heap.size w w' := by
  obtain ⟨i0, hi, hz0, hz1, hz2⟩ := info_parts Try.info38
  obtain ⟨i3, hi3, hy0, hy1, hy2⟩ := info_parts Try.info3
  have HF := hide hf
  have HM := hide hm
  have HO := hide hok
  have HP := hide mok
  have HS := hide hfs
  have HT := hide hms
  clear hf hm hok mok hfs hms
  by_cases hfew : fewF l = true
  · by_cases mfew : fewF m = true
    · have hl20 : l.length ≤ 20 := by simp [fewF] at hfew; exact hfew.2
      have hm20 : m.length ≤ 20 := by simp [fewF] at mfew; exact mfew.2
      have hS2 : Hid (∀ f ∈ l, f.s.size ≤ 200) := by
        intro f hf
        simp [fewF] at hfew
        exact hfew.1 f hf
      have hT2 : Hid (∀ f ∈ m, f.s.size ≤ 200) := by
        intro f hf
        simp [fewF] at mfew
        exact mfew.1 f hf
      go_enter Try.func4, Try.ntmps4
      go_wp2_with fail
      refine (awake_any _).mono ?_
      rintro e w1 ⟨rfl, hb1⟩
      have HC := hide (few_any fa fcap l w1 (HF.out.below hb1) hfl HS.out)
      rw [hfew] at HC
      go_wp2_with fail
      refine HC.out.mono ?_
      rintro e w2 ⟨rfl, hb2⟩
      have b2 : Below w.heap.size w w2 := hb1.trans (hb2.mono hb1.size)
      have HC2 := hide (few_any ma mcap m w2 (HM.out.below b2) hml HT.out)
      rw [mfew] at HC2
      clear HC hb1 hb2
      go_wp2_with fail
      refine HC2.out.mono ?_
      rintro e w3 ⟨rfl, hb3⟩
      have b3 : Below w.heap.size w w3 := b2.trans (hb3.mono b2.size)
      clear HC2 hb3 b2
      go_wp2
      go_loopw [5, 6, 26] (fun v5 v6 i wr => ∃ k : Nat, k ≤ l.length ∧ i = .int .i64 k ∧ Made w wr l k v5 v6) (fun _ _ i _ => l.length - (intOf i).toNat)
      case atStart => exact ⟨0, Nat.zero_le _, rfl, World.ownsRow_nil _ _ _ _, World.ownsRow_nil _ _ _ _, by intro f hf; simp at hf, b3⟩
      case round =>
        clear b3
        obtain ⟨k, hk, rfl, hM⟩ := hrel
        have hsz := hM.below.size
        by_cases hlt : k < l.length
        · have hz : l[k]? = some l[k] := List.getElem?_eq_getElem hlt
          generalize l[k] = f at hz
          obtain ⟨b, off, rfl, c0, c1, c2, c3⟩ := (HF.out.below hM.below) k f hz
          have hMa := hM.below_alloc (.cells #[.int .i64 f.k, .int .u64 f.n, .string f.s, .bool f.b] 38)
          have HMa := hide hMa
          have HZ := hide hz
          have OB := hide (Ob.new wr [.int .i64 f.k, .int .u64 f.n, .string f.s, .bool f.b] 38)
          have hlt5 : Hid (∀ q, u5.ownBlock = some q → q < wr.heap.size) := fun q hq => (hM.ks.lt q hq).2
          have hbA := hMa.below
          clear hM hMa hz
          by_cases hkn : Known f
          · have hkb : 1 ≤ f.k ∧ f.k ≤ 3 := by rcases hkn with h | h | h <;> omega
            have HKN := hide hkn
            clear hkn
            go_wp2_with (at_builtin; refine wpList_append_own _ rfl (.tmp 38) (.tmp 41) 24 rfl w.heap.size 3 i3 (.int .i64 0) 1 8 Try.underlying24 hi3 hy0 hy1 hy2 rfl (by decide) _ k (kvals l k) rfl (HMa.out.ks.alloc _) ⟨wr.heap.size + 1, 0, none⟩ 1 1 [.int .i64 f.k] rfl rfl (cells_newq _ _ _ _ (by simp)) (ints_oneCell _ [f.k]) (by unfold maxLen; omega) (by omega) (by simp; omega) ?_)
            intro v5 w4 o4 g4 _
            obtain ⟨o5, o6, b4⟩ := Made.first HMa.out HZ.out o4 _ g4
            have ob4 := (OB.out.alloc _).kept g4 (fun e => by have := hlt5.out _ e; omega)
            have d0 := ob4.cell 0
            have d1 := ob4.cell 1
            have d2 := ob4.cell 2
            have d3 := ob4.cell 3
            simp only [List.getElem?_cons_zero, List.getElem?_cons_succ] at d0 d1 d2 d3
            have O5 := hide o5
            have O6 := hide o6
            have B4 := hide b4
            have hs4 := b4.size
            have HKn := hide HMa.out.known
            clear o4 g4 o5 o6 b4 ob4 HMa OB
            go_wp2_with fail
            refine (own_any f w4).mono ?_
            rintro e w5 ⟨rfl, b5⟩
            have hs5 := b5.size
            have B5 := hide b5
            have O6' : Hid (w5.ownsRow w.heap.size 38 4 u6 k (xcells l k)) := O6.out.kept (grew_below none b5) (by cases u6.ownBlock <;> simp)
            clear b5 d0 d1 d2 d3
            go_wp2_with (at_builtin; refine wpList_append_own _ rfl (.tmp 43) (.tmp 46) 22 rfl w.heap.size 38 i0 _ 4 40 Try.underlying22 hi hz0 hz1 hz2 rfl (by decide) _ k (xcells l k) rfl (O6'.out.alloc _) ⟨w5.heap.size, 0, none⟩ 1 1 [.int .i64 (ownF f).k, .int .u64 (ownF f).n, .string (ownF f).s, .bool (ownF f).b] rfl rfl (cells_newq _ _ _ _ (by simp)) (fld_one (ownF f)) (by unfold maxLen; omega) (by omega) (by simp; omega) ?_)
            intro v6 w6 o6 g6 _
            have M6 := hide (Made.second O5.out O6.out B4.out B5.out HZ.out HKn.out HKN.out _ o6 g6)
            clear o6 g6 O5 O6 O6' B4 B5
            go_wp2
            go_roundw
            case rel => exact ⟨k + 1, by omega, by go_num, M6⟩
            case measure => simp [intOf]; omega
          · by_cases hk1 : f.k < 1
            · go_wp2
              go_ret
              exact ⟨rfl, hbA⟩
            · have hk3 : 3 < f.k := by
                rcases Int.lt_or_le 3 f.k with h | h
                · exact h
                · exfalso
                  apply hkn
                  unfold Known
                  omega
              go_wp2
              go_ret
              exact ⟨rfl, hbA⟩
        · have hkk : k = l.length := by omega
          subst hkk
          obtain ⟨a5, c5, q5⟩ := Made.kinds hM
          obtain ⟨a6, c6, q6⟩ := Made.fields hM
          obtain ⟨rfl, rd5⟩ := q5
          obtain ⟨rfl, rd6⟩ := q6
          have b7 := hM.below
          have HKn : Hid (∀ f ∈ l, Known f) := fun f hf => hM.known f (by rw [List.take_length]; exact hf)
          have R5 := hide rd5
          have R6 := hide rd6
          have hfe : (fencs l).length ≤ 4200 := by
            have h1 := fencs_len hS2.out
            have h2 := Nat.mul_le_mul_right (200 + 10) hl20
            omega
          have hPut := hide (pput_any fa fcap l wr (HF.out.below b7) HO.out (by omega) (fun f hf => by have := hS2.out f hf; omega))
          clear hM rd5 rd6
          go_wp2_with fail
          refine hPut.out.mono ?_
          rintro e w7 ⟨v7, rfl, o7, hb7⟩
          obtain ⟨a7, c7, rfl, hc7, hn7⟩ := own_form o7
          have b8 : Below w.heap.size w w7 := b7.trans (hb7.mono b7.size)
          have hOf := hide (pof_any a7 c7 (fencs l) a5 c5 (l.map (·.k)) w7 (Rd.own o7).1 hc7 hn7 (fencs_byte HO.out (fun f hf => by have := hS2.out f hf; omega)) (by omega) (R5.out.below hb7) (by rw [List.length_map]; omega))
          rw [List.length_map, ofF_back HKn.out HO.out (fun f hf => by have := hS2.out f hf; omega)] at hOf
          have R5' := hide (R5.out.below hb7)
          have R6' := hide (R6.out.below hb7)
          clear hPut o7 hb7 b7 R5 R6 hn7
          go_wp2_with fail
          refine hOf.out.mono ?_
          rintro e w8 ⟨h1, _, hb8⟩
          obtain ⟨v8, rfl, o8⟩ := h1 _ rfl
          obtain ⟨a8, c8, rfl, rd8⟩ := rdf_own o8
          have b9 : Below w.heap.size w w8 := b8.trans (hb8.mono b8.size)
          have hSm := hide (sameF_yes a8 c8 (l.map ownF) a6 c6 w8 rd8 (R6'.out.below hb8) (by rw [List.length_map]; omega))
          rw [List.length_map] at hSm
          rw [List.length_map]
          have R5'' := hide (R5'.out.below hb8)
          have R6'' := hide (R6'.out.below hb8)
          clear hOf h1 o8 rd8 R5' R6' b8 hb8
          go_wp2_with fail
          refine hSm.out.mono ?_
          rintro e w9 ⟨rfl, hb9⟩
          have b10 : Below w.heap.size w w9 := b9.trans (hb9.mono b9.size)
          have R5 := hide (R5''.out.below hb9)
          have R6 := hide (R6''.out.below hb9)
          clear hSm R5'' R6'' hb9 b9
          by_cases hlen : l.length = m.length
          · have hlb : ((l.length : Int) != (m.length : Int)) = false := by simp; omega
            have HL := hide hlen
            have hml2 : m.length ≤ l.length := by omega
            clear hlen
            go_wp2
            clear hlb
            go_loopw [7, 71] (fun v i wr => ∃ k : Nat, k ≤ m.length ∧ i = .int .i64 k ∧ Made2 w9 wr l m k v) (fun _ i _ => m.length - (intOf i).toNat)
            case atStart => exact ⟨0, Nat.zero_le _, rfl, World.ownsRow_nil _ _ _ _, by simp, Below.refl _ _⟩
            case round =>
              obtain ⟨k, hk, rfl, hM⟩ := hrel
              have hsz := hM.below.size
              have bM : Below w.heap.size w _ := b10.trans (hM.below.mono b10.size)
              by_cases hlt : k < m.length
              · have hz : m[k]? = some m[k] := List.getElem?_eq_getElem hlt
                generalize m[k] = f at hz
                have hlt2 : k < l.length := by omega
                have hy : l[k]? = some l[k] := List.getElem?_eq_getElem hlt2
                generalize l[k] = g at hy
                obtain ⟨b, off, hma, c0, c1, c2, c3⟩ := (HM.out.below bM) k f hz
                obtain ⟨b', off', z, ha5, hc, hzz, _⟩ := (R5.out.below hM.below).at (i := k) (by rw [List.length_map]; exact hlt2)
                have hzg : z = g.k := by
                  have h := hzz.out
                  rw [List.getElem?_map, hy] at h
                  simpa using h.symm
                subst hzg ha5 hma
                have hcA : (wr.alloc (.cells #[.int .i64 f.k, .int .u64 f.n, .string f.s, .bool f.b] 38)).cell? ⟨b', off' + k, none⟩ = some (.int .i64 g.k) := (((Below.refl wr.heap.size wr).alloc (Nat.le_refl _) _).cell (by exact World.block_lt_of_cell? _ _ hc)).trans hc
                clear hc
                have HH := hide hM
                have HZ := hide hz
                have HY := hide hy
                have BM := hide bM
                clear hM bM hz hy hzz
                by_cases hfg : f.k = g.k
                · have hfb : (f.k == g.k) = true := by simpa using hfg
                  have HFG := hide hfg
                  rw [← hfg] at hcA
                  clear hfg hfb
                  go_wp2
                  go_quiet (fail)
                  go_wp2_with fail
                  refine (own_any f _).mono ?_
                  rintro e w5 ⟨rfl, b5⟩
                  have b5' : Below wr.heap.size wr w5 := (below_drewN ((Below.refl wr.heap.size wr).alloc (Nat.le_refl _) _) nq).trans (b5.mono (by show _ ≤ (World.drewN _ _).heap.size; simp))
                  have hs5 := b5'.size
                  have B5 := hide b5'
                  have O6 : Hid (w5.ownsRow w9.heap.size 38 4 u7 k (xcells m k)) := HH.out.ys.kept (grew_below none b5') (by cases u7.ownBlock <;> simp)
                  clear b5 b5' c0 c1 c2 c3 hcA
                  go_wp2_with (at_builtin; refine wpList_append_own _ rfl (.tmp 83) (.tmp 86) 22 rfl w9.heap.size 38 i0 _ 4 40 Try.underlying22 hi hz0 hz1 hz2 rfl (by decide) _ k (xcells m k) rfl (O6.out.alloc _) ⟨w5.heap.size, 0, none⟩ 1 1 [.int .i64 (ownF f).k, .int .u64 (ownF f).n, .string (ownF f).s, .bool (ownF f).b] rfl rfl (cells_newq _ _ _ _ (by simp)) (fld_one (ownF f)) (by unfold maxLen; omega) (by omega) (by simp; omega) ?_)
                  intro v6 w6 o6 g6 _
                  have M6 := hide (Made2.step HH.out HZ.out HY.out HFG.out B5.out _ o6 g6)
                  clear o6 g6 O6 B5 HH BM
                  go_wp2
                  go_roundw
                  case rel => exact ⟨k + 1, by omega, by go_num, M6⟩
                  case measure => simp [intOf]; omega
                · have hfb : (f.k == g.k) = false := by simpa using hfg
                  go_wp2
                  go_quiet (fail)
                  go_wp2
                  go_ret
                  exact ⟨rfl, below_drewN (BM.out.alloc BM.out.size _) nq⟩
              · have hkk : k = m.length := by omega
                subst hkk
                obtain ⟨a10, c10, q10⟩ := Made2.fields hM
                obtain ⟨rfl, rd10⟩ := q10
                have hmk : Hid (m.map (·.k) = l.map (·.k)) := by
                  have h := hM.same
                  rw [List.take_length, ← HL.out, List.take_length] at h
                  exact h
                have HMn : Hid (∀ f ∈ m, Known f) := known_of hmk.out HKn.out
                have hIff := hide (fencs_iff hmk.out HKn.out HO.out (fun f hf => by have := hS2.out f hf; omega) HMn.out HP.out (fun f hf => by have := hT2.out f hf; omega))
                have hbl := hide (fencs_byte HO.out (fun f hf => by have := hS2.out f hf; omega))
                have hbm := hide (fencs_byte HP.out (fun f hf => by have := hT2.out f hf; omega))
                have R10 := hide rd10
                have R6' := hide (R6.out.below hM.below)
                have hbd : Below w.heap.size w wr.drew := bM.drew
                have hbdd : Below wr.heap.size wr wr.drew := (Below.refl _ _).drew
                have BMh := hide bM
                clear hM bM rd10 hmk
                by_cases hE : fencs m = fencs l
                · have hOw := hIff.out.1 hE
                  have HE := hide hE
                  rw [← hOw] at R10
                  clear hE hOw hIff
                  go_wp2
                  go_region_law (go_simp; first
                    | (go_at_call_of 11 (Value.slice ma m.length mcap); refine (pput_any ma mcap m wr.drew (HM.out.below hbd) HP.out (by omega) (fun f hf => by have := hT2.out f hf; omega)).mono ?_; rintro e w11 ⟨v11, rfl, o11, hb11⟩; have cv11 := conv_own o11; rw [HE.out] at cv11; have hb1111 := Below.refl w11.heap.size w11; have b11 : Below wr.heap.size wr w11 := hbdd.trans hb11; have bw11 : Below w.heap.size w w11 := BMh.out.trans (b11.mono BMh.out.size); clear o11 hb11)
                    | (go_at_call_of 11 (Value.slice fa l.length fcap); refine (pput_any fa fcap l w11 (HF.out.below bw11) HO.out (by omega) (fun f hf => by have := hS2.out f hf; omega)).mono ?_; rintro e w12 ⟨v12, rfl, o12, hb12⟩; have cv12 := conv_own o12; have hb1212 := Below.refl w12.heap.size w12; have b12 : Below wr.heap.size wr w12 := b11.trans (hb12.mono b11.size); have bw12 : Below w.heap.size w w12 := BMh.out.trans (b12.mono BMh.out.size); clear o12)
                    | (go_at_call 13; refine (sameF_yesL a6 c6 (l.map ownF) l.length a10 c10 m.length w12 (List.length_map ..) (by rw [List.length_map]; exact HL.out) (R6'.out.below b12) (R10.out.below b12) (by rw [List.length_map]; omega)).mono ?_; rintro e w13 ⟨rfl, hb13⟩; have bw13 : Below w.heap.size w w13 := bw12.trans (hb13.mono bw12.size); have hb1113 : Below w11.heap.size w11 w13 := hb12.trans (hb13.mono hb12.size)))
                  all_goals
                    go_wp2
                    go_ret
                    refine ⟨?_, by assumption⟩
                    simp [Act.put]
                · have hOw : l.map ownF ≠ m.map ownF := fun e => hE (hIff.out.2 e)
                  have HOw := hide hOw
                  have hne2 : ((strOfNums (fencs m)).toList == (strOfNums (fencs l)).toList) = false := by
                    rw [beq_eq_false_iff_ne]
                    intro h
                    rw [ByteArray.toList_eq, ByteArray.toList_eq] at h
                    exact hE (strOfNums_inj hbm.out hbl.out (ByteArray.ext (Array.ext' h)))
                  clear hE hOw hIff
                  go_wp2
                  go_region_law (go_simp; first
                    | (go_at_call_of 11 (Value.slice ma m.length mcap); refine (pput_any ma mcap m wr.drew (HM.out.below hbd) HP.out (by omega) (fun f hf => by have := hT2.out f hf; omega)).mono ?_; rintro e w11 ⟨v11, rfl, o11, hb11⟩; have cv11 := conv_own o11; have hb1111 := Below.refl w11.heap.size w11; have b11 : Below wr.heap.size wr w11 := hbdd.trans hb11; have bw11 : Below w.heap.size w w11 := BMh.out.trans (b11.mono BMh.out.size); clear o11 hb11)
                    | (go_at_call_of 11 (Value.slice fa l.length fcap); refine (pput_any fa fcap l w11 (HF.out.below bw11) HO.out (by omega) (fun f hf => by have := hS2.out f hf; omega)).mono ?_; rintro e w12 ⟨v12, rfl, o12, hb12⟩; have cv12 := conv_own o12; have hb1212 := Below.refl w12.heap.size w12; have b12 : Below wr.heap.size wr w12 := b11.trans (hb12.mono b11.size); have bw12 : Below w.heap.size w w12 := BMh.out.trans (b12.mono BMh.out.size); clear o12)
                    | (go_at_call 13; refine (sameF_noL a6 c6 (l.map ownF) l.length a10 c10 (m.map ownF) m.length w12 (List.length_map ..) (List.length_map ..) HOw.out (R6'.out.below b12) (R10.out.below b12) (by rw [List.length_map]; omega)).mono ?_; rintro e w13 ⟨rfl, hb13⟩; have bw13 : Below w.heap.size w w13 := bw12.trans (hb13.mono bw12.size); have hb1113 : Below w11.heap.size w11 w13 := hb12.trans (hb13.mono hb12.size)))
                  all_goals
                    go_wp2
                    go_ret
                    refine ⟨?_, by assumption⟩
                    simp [Act.put]
          · have hlb : ((l.length : Int) == (m.length : Int)) = false := by simp; omega
            go_wp2
            go_ret
            exact ⟨rfl, b10⟩
    · have mfew : fewF m = false := by simpa using mfew
      go_enter Try.func4, Try.ntmps4
      go_wp2_with fail
      refine (awake_any _).mono ?_
      rintro e w1 ⟨rfl, hb1⟩
      have HC := hide (few_any fa fcap l w1 (HF.out.below hb1) hfl HS.out)
      rw [hfew] at HC
      go_wp2_with fail
      refine HC.out.mono ?_
      rintro e w2 ⟨rfl, hb2⟩
      have b2 : Below w.heap.size w w2 := hb1.trans (hb2.mono hb1.size)
      have HC2 := hide (few_any ma mcap m w2 (HM.out.below b2) hml HT.out)
      rw [mfew] at HC2
      clear HC hb1 hb2
      go_wp2_with fail
      refine HC2.out.mono ?_
      rintro e w3 ⟨rfl, hb3⟩
      have b3 : Below w.heap.size w w3 := b2.trans (hb3.mono b2.size)
      clear HC2 hb3 b2
      go_wp2
      go_ret
      exact ⟨rfl, b3⟩
  · have hfew : fewF l = false := by simpa using hfew
    go_enter Try.func4, Try.ntmps4
    go_wp2_with fail
    refine (awake_any _).mono ?_
    rintro e w1 ⟨rfl, hb1⟩
    have HC := hide (few_any fa fcap l w1 (HF.out.below hb1) hfl HS.out)
    rw [hfew] at HC
    go_wp2_with fail
    refine HC.out.mono ?_
    rintro e w2 ⟨rfl, hb2⟩
    have b2 : Below w.heap.size w w2 := hb1.trans (hb2.mono hb1.size)
    clear HC hb1 hb2
    go_wp2
    go_ret
    exact ⟨rfl, b2⟩
end Go.Proofs.Ytilklonjacjgbaa
