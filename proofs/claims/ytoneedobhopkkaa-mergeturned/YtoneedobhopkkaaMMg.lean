/- What a merge tells, read. -/
import Derived.Test.YtoneedobhopkkaaMOf
namespace Go.Proofs.Ytoneedobhopkkaa
open Go.RowKit Apo
theorem TwR.rd {B : Nat} {W : World} {es : List En} {cs : List Cl} {va ua : Option Addr} {vc uc : Nat} (h : TwR B W es cs va vc ua uc) : RdEn W va es ∧ RdG cCl 7 W ua cs := by
  obtain ⟨a', cp', hv', rd', _⟩ := rd_gcells cEn_len h.re
  injection hv' with e1 e2 e3
  subst e1 e3
  obtain ⟨a2, cp2, hv2, rd2, _⟩ := rd_gcells cCl_len h.rc
  injection hv2 with e4 e5 e6
  subst e4 e6
  exact ⟨RdG.en.1 rd', rd2⟩
theorem mem_all {a b c : List En} {ks : List ByteArray} (h : KsS ks (allK a b c)) : (∀ e ∈ a, e.k ∈ ks) ∧ (∀ e ∈ b, e.k ∈ ks) ∧ (∀ e ∈ c, e.k ∈ ks) := by
  have key : ∀ e : En, (e ∈ a ∨ e ∈ b ∨ e ∈ c) → e.k ∈ ks := fun e he => (h.mem _).2 (by
    unfold allK
    rw [List.mem_map]
    refine ⟨e, ?_, rfl⟩
    rw [List.mem_append, List.mem_append]
    exact he)
  exact ⟨fun e he => key e (.inl he), fun e he => key e (.inr (.inl he)), fun e he => key e (.inr (.inr he))⟩
/-- both sides are one: that comes -/
theorem tell_idle {b a : List En} {ks : List ByteArray} (h : KsS ks (allK b a a)) (hr : RiseE a) : mL b a a ks = a ∧ cL b a a ks = [] :=
  ⟨mL_one h.rise hr (fun k => by unfold pk; rw [pickP_idle]) (mem_all h).2.1, cL_nil ks (fun k => by unfold pk; rw [pickP_idle])⟩
/-- ours alone changed -/
theorem tell_ours {a b : List En} {ks : List ByteArray} (h : KsS ks (allK a b a)) (hr : RiseE b) : mL a b a ks = b ∧ cL a b a ks = [] :=
  ⟨mL_one h.rise hr (fun k => by unfold pk; rw [pickP_ours]) (mem_all h).2.1, cL_nil ks (fun k => by unfold pk; rw [pickP_ours])⟩
/-- theirs alone changed -/
theorem tell_theirs {a c : List En} {ks : List ByteArray} (h : KsS ks (allK a a c)) (hr : RiseE c) : mL a a c ks = c ∧ cL a a c ks = [] :=
  ⟨mL_one h.rise hr (fun k => by unfold pk; rw [pickP_theirs]) (mem_all h).2.2, cL_nil ks (fun k => by unfold pk; rw [pickP_theirs])⟩
theorem allK_turn {a b c : List En} (k : ByteArray) : k ∈ allK a c b ↔ k ∈ allK a b c := by
  unfold allK
  simp only [List.mem_map, List.mem_append]
  constructor <;> (rintro ⟨e, h, rfl⟩; exact ⟨e, by rcases h with h | h | h <;> simp [h], rfl⟩)
end Go.Proofs.Ytoneedobhopkkaa
