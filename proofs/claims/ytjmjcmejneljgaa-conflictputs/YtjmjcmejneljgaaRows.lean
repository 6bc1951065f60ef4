/-
  No cell of these rows narrows 'for every input' (looked for: loops, veiled, ifaces, maps, wideKeys, modest, calm, conditions, laid).
  DERIVED. THE GIVEN ROWS OF THIS SEAT. 3 by the template 'for every input the law returns true; each argument reads behind the call as it read before'; 0 by the template 'total and deterministic' (their statements: YtjmjcmejneljgaaTotals.lean).
  GIVEN WITH THE SEED: the statements are not yours to turn. If you find one false, say at which input.
  Laid BY PROGRAM, IN A SANDBOX (cutbox-rows.mjs): the forced cells as the released guide's own fill.sh prints them over the translation d713a536aeca499c… (all of the seat's roots in one cut). By AI agents, Wed Nov 11 2026. No macro, syntax, notation, axiom, sorry.
-/
import Derived.Test.YtjmjcmejneljgaaChecked
import GoSem.Claim
import GoSem.ClaimJoined
import GoSem.ClaimMapViews
import Derived.JoinedTies
import Derived.KernelRfl
namespace Go.Proofs.Ytjmjcmejneljgaa
/- THE CELL 'sum', in the pinned program and in every row, IS THE sha256 OF THE DUMP (.gsa) THAT YtjmjcmejneljgaaProg.lean LOADS. Nothing in Lean hashes anything: it is a label: what it is worth is what the hold of that sum in a sandbox is worth. -/
noncomputable def Try.pinned : Pinned := { name := "ytjmjcmejneljgaa", sum := "d713a536aeca499cfa787485f0158daf8c1d84c9d52eafed664d4ee057e3a957", checked := Try.checked }
namespace Rows
def none {H : Type} : Left H := { results := [], args := [] }

/-- 'apographlaw13.ConflictPuts': WHATEVER THE INPUT: true; the input reads as it did. -/
def conflictPutsSpec : ChangeSpec := { name := "conflictPuts", fn := fun _ => fun
  | [d1, d2] => { results := [.lit (.bool true)], args := [d1, d2] }
  | _ => none }
def conflictPutsRow : OpenClaim := { program := "ytjmjcmejneljgaa", sum := "d713a536aeca499cfa787485f0158daf8c1d84c9d52eafed664d4ee057e3a957", func := "apograph/apographlaw13.ConflictPuts", spec := "conflictPuts", unfollowed := true, recurses := true, apart := false }
def ConflictPutsSaid : Prop := conflictPutsRow.holds Try.pinned (OpenSpec.ofChange conflictPutsSpec)

/-- ITS FALSE NEIGHBOUR: 'it returns false'. Refute it at one input. -/
def conflictPutsWrong : ChangeSpec := { name := "conflictPuts", fn := fun _ => fun
  | [d1, d2] => { results := [.lit (.bool false)], args := [d1, d2] }
  | _ => none }
def ConflictPutsWrongFalsely : Prop := conflictPutsRow.holds Try.pinned (OpenSpec.ofChange conflictPutsWrong)

/-- 'apographlaw13.ConflictBack': WHATEVER THE INPUT: true; the input reads as it did. -/
def conflictBackSpec : ChangeSpec := { name := "conflictBack", fn := fun _ => fun
  | [d1, d2] => { results := [.lit (.bool true)], args := [d1, d2] }
  | _ => none }
def conflictBackRow : OpenClaim := { program := "ytjmjcmejneljgaa", sum := "d713a536aeca499cfa787485f0158daf8c1d84c9d52eafed664d4ee057e3a957", func := "apograph/apographlaw13.ConflictBack", spec := "conflictBack", unfollowed := true, recurses := true, apart := false }
def ConflictBackSaid : Prop := conflictBackRow.holds Try.pinned (OpenSpec.ofChange conflictBackSpec)

/-- ITS FALSE NEIGHBOUR: 'it returns false'. Refute it at one input. -/
def conflictBackWrong : ChangeSpec := { name := "conflictBack", fn := fun _ => fun
  | [d1, d2] => { results := [.lit (.bool false)], args := [d1, d2] }
  | _ => none }
def ConflictBackWrongFalsely : Prop := conflictBackRow.holds Try.pinned (OpenSpec.ofChange conflictBackWrong)

/-- 'apographlaw13.ConflictSettles': WHATEVER THE INPUT: true; the input reads as it did. -/
def conflictSettlesSpec : ChangeSpec := { name := "conflictSettles", fn := fun _ => fun
  | [d1, d2, d3] => { results := [.lit (.bool true)], args := [d1, d2, d3] }
  | _ => none }
def conflictSettlesRow : OpenClaim := { program := "ytjmjcmejneljgaa", sum := "d713a536aeca499cfa787485f0158daf8c1d84c9d52eafed664d4ee057e3a957", func := "apograph/apographlaw13.ConflictSettles", spec := "conflictSettles", unfollowed := true, recurses := true, apart := false }
def ConflictSettlesSaid : Prop := conflictSettlesRow.holds Try.pinned (OpenSpec.ofChange conflictSettlesSpec)

/-- ITS FALSE NEIGHBOUR: 'it returns false'. Refute it at one input. -/
def conflictSettlesWrong : ChangeSpec := { name := "conflictSettles", fn := fun _ => fun
  | [d1, d2, d3] => { results := [.lit (.bool false)], args := [d1, d2, d3] }
  | _ => none }
def ConflictSettlesWrongFalsely : Prop := conflictSettlesRow.holds Try.pinned (OpenSpec.ofChange conflictSettlesWrong)

/- THE SECOND FORM. 'bulk': how many values and letters a reading holds, each counted each time it is reached (what is shared counts as often as it is met; a slice's spare places count too). A statement '..UptoSaid' is the law's where the arguments, and the package variables that the reading takes, are together of bulk at most 1048576: NARROWER than '..Said'. Prove '..Said' where nothing that the law and all that it calls make is longer than what came in: it says more and counts as full. Else prove '..UptoSaid'. A law counts once. -/
mutual
def uptoBulk {H : Type} : DataW H → Nat
  | .lit (.string bytes) => bytes.length + 1
  | .lit _ => 1
  | .nil => 1
  | .ptr d => uptoBulk d + 1
  | .slice elems spare => uptoBulkAll elems + uptoBulkAll spare + 1
  | .agg parts => uptoBulkAll parts + 1
  | .iface _ d => uptoBulk d + 1
  | .map entries => uptoBulkEntries entries + 1
  | .held _ => 1
def uptoBulkAll {H : Type} : List (DataW H) → Nat
  | [] => 0
  | d :: r => uptoBulk d + uptoBulkAll r
def uptoBulkEntries {H : Type} : List (Lit × DataW H) → Nat
  | [] => 0
  | x :: r => uptoBulkEntry x + uptoBulkEntries r
def uptoBulkEntry {H : Type} : Lit × DataW H → Nat
  | (.string bytes, d) => bytes.length + uptoBulk d + 1
  | (_, d) => uptoBulk d + 1
 end
def uptoSmall : (H : Type) → List (DataW H) → Bool := fun _ ds => decide (uptoBulkAll ds ≤ 1048576)
def OpenSpec.upto (s : _root_.Go.ChangeSpec) : _root_.Go.OpenSpec := { _root_.Go.OpenSpec.ofChange s with cond := some uptoSmall }

/-- 'apographlaw13.ConflictPuts', WHERE WHAT IT READS IS OF BULK AT MOST 1048576: true; the input reads as it did. -/
def conflictPutsUptoRow : OpenClaim := { program := "ytjmjcmejneljgaa", sum := "d713a536aeca499cfa787485f0158daf8c1d84c9d52eafed664d4ee057e3a957", func := "apograph/apographlaw13.ConflictPuts", spec := "conflictPuts", unfollowed := true, recurses := true, apart := false, narrowed := true }
def ConflictPutsUptoSaid : Prop := conflictPutsUptoRow.holds Try.pinned (OpenSpec.upto conflictPutsSpec)

/-- 'apographlaw13.ConflictBack', WHERE WHAT IT READS IS OF BULK AT MOST 1048576: true; the input reads as it did. -/
def conflictBackUptoRow : OpenClaim := { program := "ytjmjcmejneljgaa", sum := "d713a536aeca499cfa787485f0158daf8c1d84c9d52eafed664d4ee057e3a957", func := "apograph/apographlaw13.ConflictBack", spec := "conflictBack", unfollowed := true, recurses := true, apart := false, narrowed := true }
def ConflictBackUptoSaid : Prop := conflictBackUptoRow.holds Try.pinned (OpenSpec.upto conflictBackSpec)

/-- 'apographlaw13.ConflictSettles', WHERE WHAT IT READS IS OF BULK AT MOST 1048576: true; the input reads as it did. -/
def conflictSettlesUptoRow : OpenClaim := { program := "ytjmjcmejneljgaa", sum := "d713a536aeca499cfa787485f0158daf8c1d84c9d52eafed664d4ee057e3a957", func := "apograph/apographlaw13.ConflictSettles", spec := "conflictSettles", unfollowed := true, recurses := true, apart := false, narrowed := true }
def ConflictSettlesUptoSaid : Prop := conflictSettlesUptoRow.holds Try.pinned (OpenSpec.upto conflictSettlesSpec)

end Rows
end Go.Proofs.Ytjmjcmejneljgaa
