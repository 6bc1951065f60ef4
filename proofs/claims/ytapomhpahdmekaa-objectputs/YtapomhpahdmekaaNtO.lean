/- The document's Text behind a row that somebody owns. Over the translation. -/
import Derived.Test.YtapomhpahdmekaaNuO
namespace Go.Proofs.Ytapomhpahdmekaa
open Go.RowKit Apo
attribute [local go_sem ↓] Apo.app_exec
set_option maxRecDepth 100000 in
theorem app_txt {O : Nat → Prop} {W : World} {v : Value} {l : List Int} (h : Row O W 5 1 v l.length (l.map (Value.int .u8))) (h0 : 0 < l.length) (s : ByteArray) (hl : l.length + s.size ≤ 1000000000000) :
    ∃ v' w', (Builtin.append_ #[26, 9] 26 #[v, .string s]).run Try.prog W = .ok v' w' ∧ Row (Gro O W w') w' 5 1 v' (l ++ nums s).length ((l ++ nums s).map (Value.int .u8)) ∧ Onl O W w' := by
  obtain ⟨i0, hi, hz0, hz1, hz2⟩ := info_parts infoU8
  obtain ⟨v', w', RR, r, g, _⟩ := Lib.run_append_own_string (P := Try.prog) W 0 26 9 26 5 i0 Try.underlying26 Try.underlying9 hi hz0 hz1 hz2 v l.length (l.map (Value.int .u8)) h.1 s (by unfold maxLen; omega) (by omega) (Nat.zero_le _)
  have hloc : v'.ownBlock = v.ownBlock ∨ v'.ownBlock = some W.heap.size := by
    rcases h.1.2 with ⟨_, hz⟩ | ⟨gb, cap, cur, rfl, _, hg, h1, h2, h3, h4⟩
    · omega
    · by_cases hroom : l.length + s.size ≤ cap
      · have hr := Lib.run_append_room_string (P := Try.prog) W 26 9 26 5 i0 Try.underlying26 Try.underlying9 hi hz1 gb l.length cap cur hg s hroom (by simp at h3; omega)
        rw [RR] at hr
        injection hr with e1 e2
        left
        rw [e1]
        rfl
      · have holds : ∀ j u, (l.map (Value.int .u8))[j]? = some u → W.cell? ((⟨gb, 0, none⟩ : Addr).add j) = some u := by
          intro j u hu
          have hj := (List.getElem?_eq_some_iff.1 hu).1
          rw [List.length_map] at hj
          rw [← h4, List.getElem?_take_of_lt (by omega)] at hu
          have : (⟨gb, 0, none⟩ : Addr).add j = ⟨gb, j, none⟩ := by unfold Addr.add; split <;> simp_all
          rw [this, cell_of_row W gb j _ _ _ hg]
          simpa using hu
        have hr := Lib.run_append_grow_string (P := Try.prog) W 26 9 26 5 i0 (.int .u8 0) Try.underlying26 Try.underlying9 hi hz0 ⟨gb, 0, none⟩ l.length cap (l.map (Value.int .u8)) (by rw [hz1]; simp) holds s (by omega) (by omega) (by rw [hz2]; exact growslice_fits (by omega) (by omega))
        rw [RR] at hr
        injection hr with e1 e2
        right
        rw [e1]
        rfl
  obtain ⟨rr, oo⟩ := row_grown (O := O) (w := W) (wr := W) (w1 := W) (h.mono (fun i q => .inl q)) (Onl.refl _ _) (Below.refl _ _) r g hloc
  refine ⟨v', w', RR, ?_, oo⟩
  rw [strCells_nums, ← List.map_append] at rr
  rw [List.length_append, nums_length]
  exact rr
end Go.Proofs.Ytapomhpahdmekaa
