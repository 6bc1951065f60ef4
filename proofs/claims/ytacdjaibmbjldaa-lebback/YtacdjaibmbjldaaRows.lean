/-
  No cell of these rows narrows 'for every input' (looked for: loops, veiled, ifaces, maps, wideKeys, modest, calm, conditions, laid).
  DERIVED. THE GIVEN ROWS OF THIS SEAT. 5 by the template 'for every input the law returns true; each argument reads behind the call as it read before'; 0 by the template 'total and deterministic' (their statements: YtacdjaibmbjldaaTotals.lean).
  GIVEN WITH THE SEED: the statements are not yours to turn. If you find one false, say at which input.
  Laid BY PROGRAM, IN A SANDBOX (cutbox-rows.mjs): the forced cells as the released guide's own fill.sh prints them over the translation 18cd68044d6c100f… (all of the seat's roots in one cut). By AI agents, Wed Nov 11 2026. No macro, syntax, notation, axiom, sorry.
-/
import Derived.Test.YtacdjaibmbjldaaChecked
import GoSem.Claim
import GoSem.ClaimJoined
import GoSem.ClaimMapViews
import Derived.JoinedTies
import Derived.KernelRfl
namespace Go.Proofs.Ytacdjaibmbjldaa
/- THE CELL 'sum', in the pinned program and in every row, IS THE sha256 OF THE DUMP (.gsa) THAT YtacdjaibmbjldaaProg.lean LOADS. Nothing in Lean hashes anything: it is a label: what it is worth is what the hold of that sum in a sandbox is worth. -/
noncomputable def Try.pinned : Pinned := { name := "ytacdjaibmbjldaa", sum := "18cd68044d6c100f36e3597d31f0f25c64d74488211eae28cee31ecc3f19bf66", checked := Try.checked }
namespace Rows
def none {H : Type} : Left H := { results := [], args := [] }

/-- 'apographlaw01.LebPuts': WHATEVER THE INPUT: true; the input reads as it did. -/
def lebPutsSpec : ChangeSpec := { name := "lebPuts", fn := fun _ => fun
  | [d1, d2, d3] => { results := [.lit (.bool true)], args := [d1, d2, d3] }
  | _ => none }
def lebPutsRow : OpenClaim := { program := "ytacdjaibmbjldaa", sum := "18cd68044d6c100f36e3597d31f0f25c64d74488211eae28cee31ecc3f19bf66", func := "apograph/apographlaw01.LebPuts", spec := "lebPuts", apart := false }
def LebPutsSaid : Prop := lebPutsRow.holds Try.pinned (OpenSpec.ofChange lebPutsSpec)

/-- ITS FALSE NEIGHBOUR: 'it returns false'. Refute it at one input. -/
def lebPutsWrong : ChangeSpec := { name := "lebPuts", fn := fun _ => fun
  | [d1, d2, d3] => { results := [.lit (.bool false)], args := [d1, d2, d3] }
  | _ => none }
def LebPutsWrongFalsely : Prop := lebPutsRow.holds Try.pinned (OpenSpec.ofChange lebPutsWrong)

/-- 'apographlaw01.LebOf': WHATEVER THE INPUT: true; the input reads as it did. -/
def lebOfSpec : ChangeSpec := { name := "lebOf", fn := fun _ => fun
  | [d] => { results := [.lit (.bool true)], args := [d] }
  | _ => none }
def lebOfRow : OpenClaim := { program := "ytacdjaibmbjldaa", sum := "18cd68044d6c100f36e3597d31f0f25c64d74488211eae28cee31ecc3f19bf66", func := "apograph/apographlaw01.LebOf", spec := "lebOf", apart := false }
def LebOfSaid : Prop := lebOfRow.holds Try.pinned (OpenSpec.ofChange lebOfSpec)

/-- ITS FALSE NEIGHBOUR: 'it returns false'. Refute it at one input. -/
def lebOfWrong : ChangeSpec := { name := "lebOf", fn := fun _ => fun
  | [d] => { results := [.lit (.bool false)], args := [d] }
  | _ => none }
def LebOfWrongFalsely : Prop := lebOfRow.holds Try.pinned (OpenSpec.ofChange lebOfWrong)

/-- 'apographlaw01.LebBack': WHATEVER THE INPUT: true; the input reads as it did. -/
def lebBackSpec : ChangeSpec := { name := "lebBack", fn := fun _ => fun
  | [d1, d2] => { results := [.lit (.bool true)], args := [d1, d2] }
  | _ => none }
def lebBackRow : OpenClaim := { program := "ytacdjaibmbjldaa", sum := "18cd68044d6c100f36e3597d31f0f25c64d74488211eae28cee31ecc3f19bf66", func := "apograph/apographlaw01.LebBack", spec := "lebBack", apart := false }
def LebBackSaid : Prop := lebBackRow.holds Try.pinned (OpenSpec.ofChange lebBackSpec)

/-- ITS FALSE NEIGHBOUR: 'it returns false'. Refute it at one input. -/
def lebBackWrong : ChangeSpec := { name := "lebBack", fn := fun _ => fun
  | [d1, d2] => { results := [.lit (.bool false)], args := [d1, d2] }
  | _ => none }
def LebBackWrongFalsely : Prop := lebBackRow.holds Try.pinned (OpenSpec.ofChange lebBackWrong)

/-- 'apographlaw01.LebZig': WHATEVER THE INPUT: true; the input reads as it did. -/
def lebZigSpec : ChangeSpec := { name := "lebZig", fn := fun _ => fun
  | [d1, d2] => { results := [.lit (.bool true)], args := [d1, d2] }
  | _ => none }
def lebZigRow : OpenClaim := { program := "ytacdjaibmbjldaa", sum := "18cd68044d6c100f36e3597d31f0f25c64d74488211eae28cee31ecc3f19bf66", func := "apograph/apographlaw01.LebZig", spec := "lebZig", apart := false }
def LebZigSaid : Prop := lebZigRow.holds Try.pinned (OpenSpec.ofChange lebZigSpec)

/-- ITS FALSE NEIGHBOUR: 'it returns false'. Refute it at one input. -/
def lebZigWrong : ChangeSpec := { name := "lebZig", fn := fun _ => fun
  | [d1, d2] => { results := [.lit (.bool false)], args := [d1, d2] }
  | _ => none }
def LebZigWrongFalsely : Prop := lebZigRow.holds Try.pinned (OpenSpec.ofChange lebZigWrong)

/-- 'apographlaw01.LebGrows': WHATEVER THE INPUT: true; the input reads as it did. -/
def lebGrowsSpec : ChangeSpec := { name := "lebGrows", fn := fun _ => fun
  | [d1, d2] => { results := [.lit (.bool true)], args := [d1, d2] }
  | _ => none }
def lebGrowsRow : OpenClaim := { program := "ytacdjaibmbjldaa", sum := "18cd68044d6c100f36e3597d31f0f25c64d74488211eae28cee31ecc3f19bf66", func := "apograph/apographlaw01.LebGrows", spec := "lebGrows", apart := false }
def LebGrowsSaid : Prop := lebGrowsRow.holds Try.pinned (OpenSpec.ofChange lebGrowsSpec)

/-- ITS FALSE NEIGHBOUR: 'it returns false'. Refute it at one input. -/
def lebGrowsWrong : ChangeSpec := { name := "lebGrows", fn := fun _ => fun
  | [d1, d2] => { results := [.lit (.bool false)], args := [d1, d2] }
  | _ => none }
def LebGrowsWrongFalsely : Prop := lebGrowsRow.holds Try.pinned (OpenSpec.ofChange lebGrowsWrong)

/- THE SECOND FORM. 'bulk': how many values and letters a reading holds, each counted each time it is reached (what is shared counts as often as it is met; a slice's spare places count too). A statement '..UptoSaid' is the law's where the arguments, and the package variables that the reading takes, are together of bulk at most 1048576: NARROWER than '..Said'. Prove '..Said' where nothing that the law and all that it calls make is longer than what came in: it says more and counts as full. Else prove '..UptoSaid'. A law counts once. -/
mutual
def uptoBulk {H : Type} : DataW H → Nat
  | .lit (.string bytes) => bytes.length + 1
  | .lit _ => 1
  | .nil => 1
  | .ptr d => uptoBulk d + 1
  | .slice elems spare => uptoBulkAll elems + uptoBulkAll spare + 1
  | .agg parts => uptoBulkAll parts + 1
  | .iface _ d => uptoBulk d + 1
  | .map entries => uptoBulkEntries entries + 1
  | .held _ => 1
def uptoBulkAll {H : Type} : List (DataW H) → Nat
  | [] => 0
  | d :: r => uptoBulk d + uptoBulkAll r
def uptoBulkEntries {H : Type} : List (Lit × DataW H) → Nat
  | [] => 0
  | x :: r => uptoBulkEntry x + uptoBulkEntries r
def uptoBulkEntry {H : Type} : Lit × DataW H → Nat
  | (.string bytes, d) => bytes.length + uptoBulk d + 1
  | (_, d) => uptoBulk d + 1
 end
def uptoSmall : (H : Type) → List (DataW H) → Bool := fun _ ds => decide (uptoBulkAll ds ≤ 1048576)
def OpenSpec.upto (s : _root_.Go.ChangeSpec) : _root_.Go.OpenSpec := { _root_.Go.OpenSpec.ofChange s with cond := some uptoSmall }

/-- 'apographlaw01.LebPuts', WHERE WHAT IT READS IS OF BULK AT MOST 1048576: true; the input reads as it did. -/
def lebPutsUptoRow : OpenClaim := { program := "ytacdjaibmbjldaa", sum := "18cd68044d6c100f36e3597d31f0f25c64d74488211eae28cee31ecc3f19bf66", func := "apograph/apographlaw01.LebPuts", spec := "lebPuts", apart := false, narrowed := true }
def LebPutsUptoSaid : Prop := lebPutsUptoRow.holds Try.pinned (OpenSpec.upto lebPutsSpec)

/-- 'apographlaw01.LebOf', WHERE WHAT IT READS IS OF BULK AT MOST 1048576: true; the input reads as it did. -/
def lebOfUptoRow : OpenClaim := { program := "ytacdjaibmbjldaa", sum := "18cd68044d6c100f36e3597d31f0f25c64d74488211eae28cee31ecc3f19bf66", func := "apograph/apographlaw01.LebOf", spec := "lebOf", apart := false, narrowed := true }
def LebOfUptoSaid : Prop := lebOfUptoRow.holds Try.pinned (OpenSpec.upto lebOfSpec)

/-- 'apographlaw01.LebBack', WHERE WHAT IT READS IS OF BULK AT MOST 1048576: true; the input reads as it did. -/
def lebBackUptoRow : OpenClaim := { program := "ytacdjaibmbjldaa", sum := "18cd68044d6c100f36e3597d31f0f25c64d74488211eae28cee31ecc3f19bf66", func := "apograph/apographlaw01.LebBack", spec := "lebBack", apart := false, narrowed := true }
def LebBackUptoSaid : Prop := lebBackUptoRow.holds Try.pinned (OpenSpec.upto lebBackSpec)

/-- 'apographlaw01.LebZig', WHERE WHAT IT READS IS OF BULK AT MOST 1048576: true; the input reads as it did. -/
def lebZigUptoRow : OpenClaim := { program := "ytacdjaibmbjldaa", sum := "18cd68044d6c100f36e3597d31f0f25c64d74488211eae28cee31ecc3f19bf66", func := "apograph/apographlaw01.LebZig", spec := "lebZig", apart := false, narrowed := true }
def LebZigUptoSaid : Prop := lebZigUptoRow.holds Try.pinned (OpenSpec.upto lebZigSpec)

/-- 'apographlaw01.LebGrows', WHERE WHAT IT READS IS OF BULK AT MOST 1048576: true; the input reads as it did. -/
def lebGrowsUptoRow : OpenClaim := { program := "ytacdjaibmbjldaa", sum := "18cd68044d6c100f36e3597d31f0f25c64d74488211eae28cee31ecc3f19bf66", func := "apograph/apographlaw01.LebGrows", spec := "lebGrows", apart := false, narrowed := true }
def LebGrowsUptoSaid : Prop := lebGrowsUptoRow.holds Try.pinned (OpenSpec.upto lebGrowsSpec)

end Rows
end Go.Proofs.Ytacdjaibmbjldaa
