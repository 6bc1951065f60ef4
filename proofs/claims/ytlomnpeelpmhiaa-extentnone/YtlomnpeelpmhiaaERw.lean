/- slices.Replace at rows of spans: its walks, with the runs of what it calls as premises. Over the translation. -/
import Derived.Test.YtlomnpeelpmhiaaEIs
namespace Go.Proofs.Ytlomnpeelpmhiaa
open Go.RowKit Apo
attribute [local go_sem ↓] Apo.app_exec Apo.cp_exec Apo.cl_exec

set_option maxRecDepth 100000 in
set_option maxHeartbeats 4000000 in
theorem replace_ins0 {w : World} {va : Option Addr} {m mc : Nat} {Q : Value → World → Prop} (hI : Calls Try.prog 40 #[.slice none 0 0, .int .i64 0, .slice va m mc] w fun e w' => ∃ a n2 c2, e = .returned (.slice a n2 c2) ∧ Q (.slice a n2 c2) w') :
    Calls Try.prog 38 #[.slice none 0 0, .int .i64 0, .int .i64 0, .slice va m mc] w fun e w' => ∃ u, e = .returned u ∧ Q u w' := by
  go_enter Try.func38, Try.ntmps38
  go_wp2_with fail
  refine hI.mono ?_
  rintro e w' ⟨a, n2, c2, rfl, hq⟩
  have HQ := hide hq
  clear hq hI
  go_wp2
  go_ret
  exact ⟨_, rfl, HQ.out⟩
set_option maxRecDepth 100000 in
set_option maxHeartbeats 4000000 in
theorem replace_ins {w : World} {va : Option Addr} {m mc : Nat} {g n cap i : Nat} {Q : Value → World → Prop} (hi : i ≤ n) (hn : n ≤ cap) (_ : n ≤ 16384) (hc : cap ≤ 9223372036854775807) (hI : Calls Try.prog 40 #[.slice (some ⟨g, 0, none⟩) n cap, .int .i64 i, .slice va m mc] w fun e w' => ∃ a n2 c2, e = .returned (.slice a n2 c2) ∧ Q (.slice a n2 c2) w') :
    Calls Try.prog 38 #[.slice (some ⟨g, 0, none⟩) n cap, .int .i64 i, .int .i64 i, .slice va m mc] w fun e w' => ∃ u, e = .returned u ∧ Q u w' := by
  rcases Nat.eq_or_lt_of_le (Nat.le_trans hi hn) with hci | hci
  all_goals
    first | subst hci | have ne1 : cap ≠ i := by omega
    go_enter Try.func38, Try.ntmps38
    go_wp2_with fail
    refine hI.mono ?_
    rintro e w' ⟨a, n2, c2, rfl, hq⟩
    have HQ := hide hq
    clear hq hI
    go_wp2
    go_ret
    exact ⟨_, rfl, HQ.out⟩
set_option maxRecDepth 100000 in
set_option maxHeartbeats 4000000 in
theorem replace_endn {w w1 : World} {g n cap i m mc T c2 : Nat} {va a2 : Option Addr} (hi : i < n) (hn : n ≤ cap) (_ : n ≤ 16384) (_ : cap ≤ 9223372036854775807) (hT : n ≤ T)
    (q1 : AppRuns Try.prog w #[37, 37] 37 #[.slice (some ⟨g, 0, none⟩) i cap, .slice va m mc]) (q2 : appVal Try.prog w #[37, 37] 37 #[.slice (some ⟨g, 0, none⟩) i cap, .slice va m mc] = .slice a2 T c2) (q3 : appWld Try.prog w #[37, 37] 37 #[.slice (some ⟨g, 0, none⟩) i cap, .slice va m mc] = w1) :
    Calls Try.prog 38 #[.slice (some ⟨g, 0, none⟩) n cap, .int .i64 i, .int .i64 n, .slice va m mc] w fun e w' => e = .returned (.slice a2 T c2) ∧ w' = w1 := by
  have hne : ((i : Int) == (n : Int)) = false := by simp; omega
  have ne1 : cap ≠ i := by omega
  go_enter Try.func38, Try.ntmps38
  go_wp2
  go_ret
  exact ⟨rfl, rfl⟩
set_option maxRecDepth 100000 in
set_option maxHeartbeats 4000000 in
theorem replace_endc {w w1 w2 : World} {g n cap i m mc T c2 : Nat} {va a2 : Option Addr} {z : Value} (hi : i < n) (hn : n ≤ cap) (_ : n ≤ 16384) (_ : cap ≤ 9223372036854775807) (hT : T < n)
    (q1 : AppRuns Try.prog w #[37, 37] 37 #[.slice (some ⟨g, 0, none⟩) i cap, .slice va m mc]) (q2 : appVal Try.prog w #[37, 37] 37 #[.slice (some ⟨g, 0, none⟩) i cap, .slice va m mc] = .slice a2 T c2) (q3 : appWld Try.prog w #[37, 37] 37 #[.slice (some ⟨g, 0, none⟩) i cap, .slice va m mc] = w1)
    (r1 : ClRuns Try.prog w1 #[37] 0 #[.slice (some ⟨g, T * 2, none⟩) (n - T) (cap - T)]) (r2 : clVal Try.prog w1 #[37] 0 #[.slice (some ⟨g, T * 2, none⟩) (n - T) (cap - T)] = z) (r3 : clWld Try.prog w1 #[37] 0 #[.slice (some ⟨g, T * 2, none⟩) (n - T) (cap - T)] = w2) :
    Calls Try.prog 38 #[.slice (some ⟨g, 0, none⟩) n cap, .int .i64 i, .int .i64 n, .slice va m mc] w fun e w' => e = .returned (.slice a2 T c2) ∧ w' = w2 := by
  have hne : ((i : Int) == (n : Int)) = false := by simp; omega
  have ne1 : cap ≠ i := by omega
  have ne2 : cap ≠ T := by omega
  go_enter Try.func38, Try.ntmps38
  go_wp2
  go_ret
  exact ⟨rfl, rfl⟩
set_option maxRecDepth 100000 in
set_option maxHeartbeats 4000000 in
theorem replace_grow {w w1 w2 w3 : World} {g n cap i j m mc J T k s2 c2 : Nat} {va : Option Addr} {z1 z2 : Value} (hij : i < j) (hj : j < n) (hn : n ≤ cap) (_ : n ≤ 16384) (_ : m ≤ 16384) (_ : cap ≤ 9223372036854775807) (eJ : IntKind.i64.wrap ((i : Int) + (m : Int)) = (J : Int)) (eT : IntKind.i64.wrap ((J : Int) + ((n - j : Nat) : Int)) = (T : Int)) (hg : cap < T) (hJT : J < T) (hiT : i < T) (hT : T ≤ c2) (_ : T ≤ 32768) (_ : c2 ≤ 9223372036854775807) (ek : IntKind.i64.wrap ((T : Int) - (i : Int)) = (k : Int))
    (q1 : AppRuns Try.prog w.drew #[37, 3] 37 #[.slice (some ⟨g, 0, none⟩) i cap, .int .i64 k]) (q2 : appVal Try.prog w.drew #[37, 3] 37 #[.slice (some ⟨g, 0, none⟩) i cap, .int .i64 k] = .slice (some ⟨s2, 0, none⟩) T c2) (q3 : appWld Try.prog w.drew #[37, 3] 37 #[.slice (some ⟨g, 0, none⟩) i cap, .int .i64 k] = w1)
    (r1 : CpRuns Try.prog w1 #[37, 37] 3 #[.slice (some ⟨s2, i * 2, none⟩) (T - i) (c2 - i), .slice va m mc]) (r2 : cpVal Try.prog w1 #[37, 37] 3 #[.slice (some ⟨s2, i * 2, none⟩) (T - i) (c2 - i), .slice va m mc] = z1) (r3 : cpWld Try.prog w1 #[37, 37] 3 #[.slice (some ⟨s2, i * 2, none⟩) (T - i) (c2 - i), .slice va m mc] = w2)
    (s1 : CpRuns Try.prog w2.drew #[37, 37] 3 #[.slice (some ⟨s2, J * 2, none⟩) (T - J) (c2 - J), .slice (some ⟨g, j * 2, none⟩) (n - j) (cap - j)]) (s2' : cpVal Try.prog w2.drew #[37, 37] 3 #[.slice (some ⟨s2, J * 2, none⟩) (T - J) (c2 - J), .slice (some ⟨g, j * 2, none⟩) (n - j) (cap - j)] = z2) (s3 : cpWld Try.prog w2.drew #[37, 37] 3 #[.slice (some ⟨s2, J * 2, none⟩) (T - J) (c2 - J), .slice (some ⟨g, j * 2, none⟩) (n - j) (cap - j)] = w3) :
    Calls Try.prog 38 #[.slice (some ⟨g, 0, none⟩) n cap, .int .i64 i, .int .i64 j, .slice va m mc] w fun e w' => e = .returned (.slice (some ⟨s2, 0, none⟩) T c2) ∧ w' = w3 := by
  have hne : ((i : Int) == (j : Int)) = false := by simp; omega
  have hne2 : ((j : Int) == (n : Int)) = false := by simp; omega
  have ne1 : cap ≠ i := by omega
  have ne2 : cap ≠ j := by omega
  have ne3 : c2 ≠ i := by omega
  have ne4 : c2 ≠ J := by omega
  go_enter Try.func38, Try.ntmps38
  go_wp2
  go_region
  go_wp2
  go_region
  go_wp2
  go_ret
  exact ⟨rfl, rfl⟩
set_option maxRecDepth 100000 in
set_option maxHeartbeats 4000000 in
theorem replace_fit {w w2 w3 w4 : World} {g n cap i j m mc J T : Nat} {va : Option Addr} {z1 z2 z3 : Value} (hij : i < j) (hj : j < n) (hn : n ≤ cap) (_ : n ≤ 16384) (_ : m ≤ 16384) (_ : cap ≤ 9223372036854775807) (eJ : IntKind.i64.wrap ((i : Int) + (m : Int)) = (J : Int)) (eT : IntKind.i64.wrap ((J : Int) + ((n - j : Nat) : Int)) = (T : Int)) (hg : T < cap) (hJj : J ≤ j) (hJT : J < T) (hiT : i < T) (hTn : T ≤ n)
    (r1 : CpRuns Try.prog w.drew #[37, 37] 3 #[.slice (some ⟨g, i * 2, none⟩) (T - i) (cap - i), .slice va m mc]) (r2 : cpVal Try.prog w.drew #[37, 37] 3 #[.slice (some ⟨g, i * 2, none⟩) (T - i) (cap - i), .slice va m mc] = z1) (r3 : cpWld Try.prog w.drew #[37, 37] 3 #[.slice (some ⟨g, i * 2, none⟩) (T - i) (cap - i), .slice va m mc] = w2)
    (s1 : CpRuns Try.prog w2.drew #[37, 37] 3 #[.slice (some ⟨g, J * 2, none⟩) (T - J) (cap - J), .slice (some ⟨g, j * 2, none⟩) (n - j) (cap - j)]) (s2 : cpVal Try.prog w2.drew #[37, 37] 3 #[.slice (some ⟨g, J * 2, none⟩) (T - J) (cap - J), .slice (some ⟨g, j * 2, none⟩) (n - j) (cap - j)] = z2) (s3 : cpWld Try.prog w2.drew #[37, 37] 3 #[.slice (some ⟨g, J * 2, none⟩) (T - J) (cap - J), .slice (some ⟨g, j * 2, none⟩) (n - j) (cap - j)] = w3)
    (c1 : ClRuns Try.prog w3 #[37] 0 #[.slice (some ⟨g, T * 2, none⟩) (n - T) (cap - T)]) (c2 : clVal Try.prog w3 #[37] 0 #[.slice (some ⟨g, T * 2, none⟩) (n - T) (cap - T)] = z3) (c3 : clWld Try.prog w3 #[37] 0 #[.slice (some ⟨g, T * 2, none⟩) (n - T) (cap - T)] = w4) :
    Calls Try.prog 38 #[.slice (some ⟨g, 0, none⟩) n cap, .int .i64 i, .int .i64 j, .slice va m mc] w fun e w' => e = .returned (.slice (some ⟨g, 0, none⟩) T cap) ∧ w' = w4 := by
  have hne : ((i : Int) == (j : Int)) = false := by simp; omega
  have hne2 : ((j : Int) == (n : Int)) = false := by simp; omega
  have ne1 : cap ≠ i := by omega
  have ne2 : cap ≠ j := by omega
  have ne3 : cap ≠ J := by omega
  have ne4 : cap ≠ T := by omega
  go_enter Try.func38, Try.ntmps38
  go_wp2
  go_region
  go_wp2
  go_region
  go_wp2
  go_ret
  exact ⟨rfl, rfl⟩
set_option maxRecDepth 100000 in
set_option maxHeartbeats 4000000 in
theorem replace_full {w w2 w3 w4 : World} {g n i j m mc J : Nat} {va : Option Addr} {z1 z2 z3 : Value} (hij : i < j) (hj : j < n) (_ : n ≤ 16384) (_ : m ≤ 16384) (_ : n ≤ 9223372036854775807) (eJ : IntKind.i64.wrap ((i : Int) + (m : Int)) = (J : Int)) (eT : IntKind.i64.wrap ((J : Int) + ((n - j : Nat) : Int)) = (n : Int)) (hJj : J ≤ j) (hJT : J < n)
    (r1 : CpRuns Try.prog w.drew #[37, 37] 3 #[.slice (some ⟨g, i * 2, none⟩) (n - i) (n - i), .slice va m mc]) (r2 : cpVal Try.prog w.drew #[37, 37] 3 #[.slice (some ⟨g, i * 2, none⟩) (n - i) (n - i), .slice va m mc] = z1) (r3 : cpWld Try.prog w.drew #[37, 37] 3 #[.slice (some ⟨g, i * 2, none⟩) (n - i) (n - i), .slice va m mc] = w2)
    (s1 : CpRuns Try.prog w2.drew #[37, 37] 3 #[.slice (some ⟨g, J * 2, none⟩) (n - J) (n - J), .slice (some ⟨g, j * 2, none⟩) (n - j) (n - j)]) (s2 : cpVal Try.prog w2.drew #[37, 37] 3 #[.slice (some ⟨g, J * 2, none⟩) (n - J) (n - J), .slice (some ⟨g, j * 2, none⟩) (n - j) (n - j)] = z2) (s3 : cpWld Try.prog w2.drew #[37, 37] 3 #[.slice (some ⟨g, J * 2, none⟩) (n - J) (n - J), .slice (some ⟨g, j * 2, none⟩) (n - j) (n - j)] = w3)
    (c1 : ClRuns Try.prog w3 #[37] 0 #[.slice (some ⟨g, 0, none⟩) 0 0]) (c2 : clVal Try.prog w3 #[37] 0 #[.slice (some ⟨g, 0, none⟩) 0 0] = z3) (c3 : clWld Try.prog w3 #[37] 0 #[.slice (some ⟨g, 0, none⟩) 0 0] = w4) :
    Calls Try.prog 38 #[.slice (some ⟨g, 0, none⟩) n n, .int .i64 i, .int .i64 j, .slice va m mc] w fun e w' => e = .returned (.slice (some ⟨g, 0, none⟩) n n) ∧ w' = w4 := by
  have hne : ((i : Int) == (j : Int)) = false := by simp; omega
  have hne2 : ((j : Int) == (n : Int)) = false := by simp; omega
  have ne1 : n ≠ i := by omega
  have ne2 : n ≠ j := by omega
  have ne3 : n ≠ J := by omega
  go_enter Try.func38, Try.ntmps38
  go_wp2
  go_region
  go_wp2
  go_region
  go_wp2
  go_ret
  exact ⟨rfl, rfl⟩
set_option maxRecDepth 100000 in
set_option maxHeartbeats 4000000 in
theorem replace_more {w w2 w3 : World} {g h n cap i j m mc J T : Nat} {z1 z2 : Value} (hij : i < j) (hj : j < n) (hn : n ≤ cap) (_ : n ≤ 16384) (_ : m ≤ 16384) (_ : cap ≤ 9223372036854775807) (eJ : IntKind.i64.wrap ((i : Int) + (m : Int)) = (J : Int)) (eT : IntKind.i64.wrap ((J : Int) + ((n - j : Nat) : Int)) = (T : Int)) (hg : T ≤ cap) (hJj : j < J) (hJT : J < T) (hiT : i < T)
    (ov : (callFunc 41 #[.slice (some ⟨g, J * 2, none⟩) (T - J) (cap - J), .slice (some ⟨h, 0, none⟩) m mc]).run Try.prog w.drew = .ok (.value (.bool false)) w.drew)
    (r1 : CpRuns Try.prog w.drew.drew #[37, 37] 3 #[.slice (some ⟨g, J * 2, none⟩) (T - J) (cap - J), .slice (some ⟨g, j * 2, none⟩) (n - j) (cap - j)]) (r2 : cpVal Try.prog w.drew.drew #[37, 37] 3 #[.slice (some ⟨g, J * 2, none⟩) (T - J) (cap - J), .slice (some ⟨g, j * 2, none⟩) (n - j) (cap - j)] = z1) (r3 : cpWld Try.prog w.drew.drew #[37, 37] 3 #[.slice (some ⟨g, J * 2, none⟩) (T - J) (cap - J), .slice (some ⟨g, j * 2, none⟩) (n - j) (cap - j)] = w2)
    (s1 : CpRuns Try.prog w2 #[37, 37] 3 #[.slice (some ⟨g, i * 2, none⟩) (T - i) (cap - i), .slice (some ⟨h, 0, none⟩) m mc]) (s2 : cpVal Try.prog w2 #[37, 37] 3 #[.slice (some ⟨g, i * 2, none⟩) (T - i) (cap - i), .slice (some ⟨h, 0, none⟩) m mc] = z2) (s3 : cpWld Try.prog w2 #[37, 37] 3 #[.slice (some ⟨g, i * 2, none⟩) (T - i) (cap - i), .slice (some ⟨h, 0, none⟩) m mc] = w3) :
    Calls Try.prog 38 #[.slice (some ⟨g, 0, none⟩) n cap, .int .i64 i, .int .i64 j, .slice (some ⟨h, 0, none⟩) m mc] w fun e w' => e = .returned (.slice (some ⟨g, 0, none⟩) T cap) ∧ w' = w3 := by
  have hne : ((i : Int) == (j : Int)) = false := by simp; omega
  have hne2 : ((j : Int) == (n : Int)) = false := by simp; omega
  have ne1 : cap ≠ i := by omega
  have ne2 : cap ≠ j := by omega
  have ne3 : cap ≠ J := by omega
  go_enter Try.func38, Try.ntmps38
  go_wp2
  go_region
  go_wp2
  go_region
  go_wp2
  go_ret
  exact ⟨rfl, rfl⟩
end Go.Proofs.Ytlomnpeelpmhiaa
