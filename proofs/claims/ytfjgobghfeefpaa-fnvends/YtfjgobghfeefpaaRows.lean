/-
  No cell of these rows narrows 'for every input' (looked for: loops, veiled, ifaces, maps, wideKeys, modest, calm, conditions, laid).
  DERIVED. THE GIVEN ROWS OF THIS SEAT. 4 by the template 'for every input the law returns true; each argument reads behind the call as it read before'; 0 by the template 'total and deterministic' (their statements: YtfjgobghfeefpaaTotals.lean).
  GIVEN WITH THE SEED: the statements are not yours to turn. If you find one false, say at which input.
  Laid BY PROGRAM, IN A SANDBOX (cutbox-rows.mjs): the forced cells as the released guide's own fill.sh prints them over the translation a45ad4d99f402c41… (all of the seat's roots in one cut). By AI agents, Wed Nov 11 2026. No macro, syntax, notation, axiom, sorry.
-/
import Derived.Test.YtfjgobghfeefpaaChecked
import GoSem.Claim
import GoSem.ClaimJoined
import GoSem.ClaimMapViews
import Derived.JoinedTies
import Derived.KernelRfl
namespace Go.Proofs.Ytfjgobghfeefpaa
/- THE CELL 'sum', in the pinned program and in every row, IS THE sha256 OF THE DUMP (.gsa) THAT YtfjgobghfeefpaaProg.lean LOADS. Nothing in Lean hashes anything: it is a label: what it is worth is what the hold of that sum in a sandbox is worth. -/
noncomputable def Try.pinned : Pinned := { name := "ytfjgobghfeefpaa", sum := "a45ad4d99f402c415c908d3cc4614c324084a0cb22844881f4d771cf26725d05", checked := Try.checked }
namespace Rows
def none {H : Type} : Left H := { results := [], args := [] }

/-- 'apographlaw03.FnvSums': WHATEVER THE INPUT: true; the input reads as it did. -/
def fnvSumsSpec : ChangeSpec := { name := "fnvSums", fn := fun _ => fun
  | [d1, d2] => { results := [.lit (.bool true)], args := [d1, d2] }
  | _ => none }
def fnvSumsRow : OpenClaim := { program := "ytfjgobghfeefpaa", sum := "a45ad4d99f402c415c908d3cc4614c324084a0cb22844881f4d771cf26725d05", func := "apograph/apographlaw03.FnvSums", spec := "fnvSums", apart := false }
def FnvSumsSaid : Prop := fnvSumsRow.holds Try.pinned (OpenSpec.ofChange fnvSumsSpec)

/-- ITS FALSE NEIGHBOUR: 'it returns false'. Refute it at one input. -/
def fnvSumsWrong : ChangeSpec := { name := "fnvSums", fn := fun _ => fun
  | [d1, d2] => { results := [.lit (.bool false)], args := [d1, d2] }
  | _ => none }
def FnvSumsWrongFalsely : Prop := fnvSumsRow.holds Try.pinned (OpenSpec.ofChange fnvSumsWrong)

/-- 'apographlaw03.FnvPieces': WHATEVER THE INPUT: true; the input reads as it did. -/
def fnvPiecesSpec : ChangeSpec := { name := "fnvPieces", fn := fun _ => fun
  | [d1, d2, d3] => { results := [.lit (.bool true)], args := [d1, d2, d3] }
  | _ => none }
def fnvPiecesRow : OpenClaim := { program := "ytfjgobghfeefpaa", sum := "a45ad4d99f402c415c908d3cc4614c324084a0cb22844881f4d771cf26725d05", func := "apograph/apographlaw03.FnvPieces", spec := "fnvPieces", apart := false }
def FnvPiecesSaid : Prop := fnvPiecesRow.holds Try.pinned (OpenSpec.ofChange fnvPiecesSpec)

/-- ITS FALSE NEIGHBOUR: 'it returns false'. Refute it at one input. -/
def fnvPiecesWrong : ChangeSpec := { name := "fnvPieces", fn := fun _ => fun
  | [d1, d2, d3] => { results := [.lit (.bool false)], args := [d1, d2, d3] }
  | _ => none }
def FnvPiecesWrongFalsely : Prop := fnvPiecesRow.holds Try.pinned (OpenSpec.ofChange fnvPiecesWrong)

/-- 'apographlaw03.FnvEnds': WHATEVER THE INPUT: true; the input reads as it did. -/
def fnvEndsSpec : ChangeSpec := { name := "fnvEnds", fn := fun _ => fun
  | [d1, d2] => { results := [.lit (.bool true)], args := [d1, d2] }
  | _ => none }
def fnvEndsRow : OpenClaim := { program := "ytfjgobghfeefpaa", sum := "a45ad4d99f402c415c908d3cc4614c324084a0cb22844881f4d771cf26725d05", func := "apograph/apographlaw03.FnvEnds", spec := "fnvEnds", apart := false }
def FnvEndsSaid : Prop := fnvEndsRow.holds Try.pinned (OpenSpec.ofChange fnvEndsSpec)

/-- ITS FALSE NEIGHBOUR: 'it returns false'. Refute it at one input. -/
def fnvEndsWrong : ChangeSpec := { name := "fnvEnds", fn := fun _ => fun
  | [d1, d2] => { results := [.lit (.bool false)], args := [d1, d2] }
  | _ => none }
def FnvEndsWrongFalsely : Prop := fnvEndsRow.holds Try.pinned (OpenSpec.ofChange fnvEndsWrong)

/-- 'apographlaw03.FnvLevels': WHATEVER THE INPUT: true; the input reads as it did. -/
def fnvLevelsSpec : ChangeSpec := { name := "fnvLevels", fn := fun _ => fun
  | [d1, d2] => { results := [.lit (.bool true)], args := [d1, d2] }
  | _ => none }
def fnvLevelsRow : OpenClaim := { program := "ytfjgobghfeefpaa", sum := "a45ad4d99f402c415c908d3cc4614c324084a0cb22844881f4d771cf26725d05", func := "apograph/apographlaw03.FnvLevels", spec := "fnvLevels", apart := false }
def FnvLevelsSaid : Prop := fnvLevelsRow.holds Try.pinned (OpenSpec.ofChange fnvLevelsSpec)

/-- ITS FALSE NEIGHBOUR: 'it returns false'. Refute it at one input. -/
def fnvLevelsWrong : ChangeSpec := { name := "fnvLevels", fn := fun _ => fun
  | [d1, d2] => { results := [.lit (.bool false)], args := [d1, d2] }
  | _ => none }
def FnvLevelsWrongFalsely : Prop := fnvLevelsRow.holds Try.pinned (OpenSpec.ofChange fnvLevelsWrong)

/- THE SECOND FORM. 'bulk': how many values and letters a reading holds, each counted each time it is reached (what is shared counts as often as it is met; a slice's spare places count too). A statement '..UptoSaid' is the law's where the arguments, and the package variables that the reading takes, are together of bulk at most 1048576: NARROWER than '..Said'. Prove '..Said' where nothing that the law and all that it calls make is longer than what came in: it says more and counts as full. Else prove '..UptoSaid'. A law counts once. -/
mutual
def uptoBulk {H : Type} : DataW H → Nat
  | .lit (.string bytes) => bytes.length + 1
  | .lit _ => 1
  | .nil => 1
  | .ptr d => uptoBulk d + 1
  | .slice elems spare => uptoBulkAll elems + uptoBulkAll spare + 1
  | .agg parts => uptoBulkAll parts + 1
  | .iface _ d => uptoBulk d + 1
  | .map entries => uptoBulkEntries entries + 1
  | .held _ => 1
def uptoBulkAll {H : Type} : List (DataW H) → Nat
  | [] => 0
  | d :: r => uptoBulk d + uptoBulkAll r
def uptoBulkEntries {H : Type} : List (Lit × DataW H) → Nat
  | [] => 0
  | x :: r => uptoBulkEntry x + uptoBulkEntries r
def uptoBulkEntry {H : Type} : Lit × DataW H → Nat
  | (.string bytes, d) => bytes.length + uptoBulk d + 1
  | (_, d) => uptoBulk d + 1
 end
def uptoSmall : (H : Type) → List (DataW H) → Bool := fun _ ds => decide (uptoBulkAll ds ≤ 1048576)
def OpenSpec.upto (s : _root_.Go.ChangeSpec) : _root_.Go.OpenSpec := { _root_.Go.OpenSpec.ofChange s with cond := some uptoSmall }

/-- 'apographlaw03.FnvSums', WHERE WHAT IT READS IS OF BULK AT MOST 1048576: true; the input reads as it did. -/
def fnvSumsUptoRow : OpenClaim := { program := "ytfjgobghfeefpaa", sum := "a45ad4d99f402c415c908d3cc4614c324084a0cb22844881f4d771cf26725d05", func := "apograph/apographlaw03.FnvSums", spec := "fnvSums", apart := false, narrowed := true }
def FnvSumsUptoSaid : Prop := fnvSumsUptoRow.holds Try.pinned (OpenSpec.upto fnvSumsSpec)

/-- 'apographlaw03.FnvPieces', WHERE WHAT IT READS IS OF BULK AT MOST 1048576: true; the input reads as it did. -/
def fnvPiecesUptoRow : OpenClaim := { program := "ytfjgobghfeefpaa", sum := "a45ad4d99f402c415c908d3cc4614c324084a0cb22844881f4d771cf26725d05", func := "apograph/apographlaw03.FnvPieces", spec := "fnvPieces", apart := false, narrowed := true }
def FnvPiecesUptoSaid : Prop := fnvPiecesUptoRow.holds Try.pinned (OpenSpec.upto fnvPiecesSpec)

/-- 'apographlaw03.FnvEnds', WHERE WHAT IT READS IS OF BULK AT MOST 1048576: true; the input reads as it did. -/
def fnvEndsUptoRow : OpenClaim := { program := "ytfjgobghfeefpaa", sum := "a45ad4d99f402c415c908d3cc4614c324084a0cb22844881f4d771cf26725d05", func := "apograph/apographlaw03.FnvEnds", spec := "fnvEnds", apart := false, narrowed := true }
def FnvEndsUptoSaid : Prop := fnvEndsUptoRow.holds Try.pinned (OpenSpec.upto fnvEndsSpec)

/-- 'apographlaw03.FnvLevels', WHERE WHAT IT READS IS OF BULK AT MOST 1048576: true; the input reads as it did. -/
def fnvLevelsUptoRow : OpenClaim := { program := "ytfjgobghfeefpaa", sum := "a45ad4d99f402c415c908d3cc4614c324084a0cb22844881f4d771cf26725d05", func := "apograph/apographlaw03.FnvLevels", spec := "fnvLevels", apart := false, narrowed := true }
def FnvLevelsUptoSaid : Prop := fnvLevelsUptoRow.holds Try.pinned (OpenSpec.upto fnvLevelsSpec)

end Rows
end Go.Proofs.Ytfjgobghfeefpaa
