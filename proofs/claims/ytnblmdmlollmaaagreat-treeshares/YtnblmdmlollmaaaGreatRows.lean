/-
  No cell of these rows narrows 'for every input' (looked for: loops, veiled, ifaces, maps, wideKeys, modest, calm, conditions, laid).
  DERIVED. THE GIVEN ROWS OF THIS SEAT. 6 by the template 'for every input the law returns true; each argument reads behind the call as it read before'; 0 by the template 'total and deterministic' (their statements: YtnblmdmlollmaaaGreatTotals.lean).
  GIVEN WITH THE SEED: the statements are not yours to turn. If you find one false, say at which input.
  Laid BY PROGRAM, IN A SANDBOX (cutbox-rows.mjs): the forced cells as the released guide's own fill.sh prints them over the translation ac1d12b7c3bcbb78… (all of the seat's roots in one cut). By AI agents, Wed Nov 11 2026. No macro, syntax, notation, axiom, sorry.
-/
import Derived.Test.YtnblmdmlollmaaaGreatChecked
import GoSem.Claim
import GoSem.ClaimJoined
import GoSem.ClaimMapViews
import Derived.JoinedTies
import Derived.KernelRfl
namespace Go.Proofs.YtnblmdmlollmaaaGreat
/- THE CELL 'sum', in the pinned program and in every row, IS THE sha256 OF THE DUMP (.gsa) THAT YtnblmdmlollmaaaGreatProg.lean LOADS. Nothing in Lean hashes anything: it is a label: what it is worth is what the hold of that sum in a sandbox is worth. -/
noncomputable def Tryz.pinned : Pinned := { name := "ytnblmdmlollmaaagreat", sum := "ac1d12b7c3bcbb7872621b8d509665d441a67a242229c39f98b6ac624c1af2c8", checked := Tryz.checked }
namespace Rows
def none {H : Type} : Left H := { results := [], args := [] }

/-- 'apographlaw10.TreeShapes': WHATEVER THE INPUT: true; the input reads as it did. -/
def treeShapesSpec : ChangeSpec := { name := "treeShapes", fn := fun _ => fun
  | [d1, d2, d3] => { results := [.lit (.bool true)], args := [d1, d2, d3] }
  | _ => none }
def treeShapesRow : OpenClaim := { program := "ytnblmdmlollmaaagreat", sum := "ac1d12b7c3bcbb7872621b8d509665d441a67a242229c39f98b6ac624c1af2c8", func := "apograph/apographlaw10.TreeShapes", spec := "treeShapes", inPlace := ["slices.overlaps[apograph/api.Span]", "slices.overlaps[uint64]", "internal/bytealg.abigen_runtime_cmpstring"], unfollowed := true, recurses := true, plainKeys := false, apart := false }
def TreeShapesSaid : Prop := treeShapesRow.holds Tryz.pinned (OpenSpec.ofChange treeShapesSpec)

/-- ITS FALSE NEIGHBOUR: 'it returns false'. Refute it at one input. -/
def treeShapesWrong : ChangeSpec := { name := "treeShapes", fn := fun _ => fun
  | [d1, d2, d3] => { results := [.lit (.bool false)], args := [d1, d2, d3] }
  | _ => none }
def TreeShapesWrongFalsely : Prop := treeShapesRow.holds Tryz.pinned (OpenSpec.ofChange treeShapesWrong)

/-- 'apographlaw10.TreeEdits': WHATEVER THE INPUT: true; the input reads as it did. -/
def treeEditsSpec : ChangeSpec := { name := "treeEdits", fn := fun _ => fun
  | [d1, d2, d3] => { results := [.lit (.bool true)], args := [d1, d2, d3] }
  | _ => none }
def treeEditsRow : OpenClaim := { program := "ytnblmdmlollmaaagreat", sum := "ac1d12b7c3bcbb7872621b8d509665d441a67a242229c39f98b6ac624c1af2c8", func := "apograph/apographlaw10.TreeEdits", spec := "treeEdits", inPlace := ["slices.overlaps[apograph/api.Span]", "slices.overlaps[uint64]", "internal/bytealg.abigen_runtime_cmpstring"], unfollowed := true, recurses := true, plainKeys := false, apart := false }
def TreeEditsSaid : Prop := treeEditsRow.holds Tryz.pinned (OpenSpec.ofChange treeEditsSpec)

/-- ITS FALSE NEIGHBOUR: 'it returns false'. Refute it at one input. -/
def treeEditsWrong : ChangeSpec := { name := "treeEdits", fn := fun _ => fun
  | [d1, d2, d3] => { results := [.lit (.bool false)], args := [d1, d2, d3] }
  | _ => none }
def TreeEditsWrongFalsely : Prop := treeEditsRow.holds Tryz.pinned (OpenSpec.ofChange treeEditsWrong)

/-- 'apographlaw10.TreeNodes': WHATEVER THE INPUT: true; the input reads as it did. -/
def treeNodesSpec : ChangeSpec := { name := "treeNodes", fn := fun _ => fun
  | [d] => { results := [.lit (.bool true)], args := [d] }
  | _ => none }
def treeNodesRow : OpenClaim := { program := "ytnblmdmlollmaaagreat", sum := "ac1d12b7c3bcbb7872621b8d509665d441a67a242229c39f98b6ac624c1af2c8", func := "apograph/apographlaw10.TreeNodes", spec := "treeNodes", inPlace := ["slices.overlaps[apograph/api.Span]", "slices.overlaps[uint64]", "internal/bytealg.abigen_runtime_cmpstring"], unfollowed := true, recurses := true, plainKeys := false, apart := false }
def TreeNodesSaid : Prop := treeNodesRow.holds Tryz.pinned (OpenSpec.ofChange treeNodesSpec)

/-- ITS FALSE NEIGHBOUR: 'it returns false'. Refute it at one input. -/
def treeNodesWrong : ChangeSpec := { name := "treeNodes", fn := fun _ => fun
  | [d] => { results := [.lit (.bool false)], args := [d] }
  | _ => none }
def TreeNodesWrongFalsely : Prop := treeNodesRow.holds Tryz.pinned (OpenSpec.ofChange treeNodesWrong)

/-- 'apographlaw10.TreeShares': WHATEVER THE INPUT: true; the input reads as it did. -/
def treeSharesSpec : ChangeSpec := { name := "treeShares", fn := fun _ => fun
  | [d1, d2] => { results := [.lit (.bool true)], args := [d1, d2] }
  | _ => none }
def treeSharesRow : OpenClaim := { program := "ytnblmdmlollmaaagreat", sum := "ac1d12b7c3bcbb7872621b8d509665d441a67a242229c39f98b6ac624c1af2c8", func := "apograph/apographlaw10.TreeShares", spec := "treeShares", inPlace := ["slices.overlaps[apograph/api.Span]", "slices.overlaps[uint64]", "internal/bytealg.abigen_runtime_cmpstring"], unfollowed := true, recurses := true, plainKeys := false, apart := false }
def TreeSharesSaid : Prop := treeSharesRow.holds Tryz.pinned (OpenSpec.ofChange treeSharesSpec)

/-- ITS FALSE NEIGHBOUR: 'it returns false'. Refute it at one input. -/
def treeSharesWrong : ChangeSpec := { name := "treeShares", fn := fun _ => fun
  | [d1, d2] => { results := [.lit (.bool false)], args := [d1, d2] }
  | _ => none }
def TreeSharesWrongFalsely : Prop := treeSharesRow.holds Tryz.pinned (OpenSpec.ofChange treeSharesWrong)

/-- 'apographlaw11.DiffTrees': WHATEVER THE INPUT: true; the input reads as it did. -/
def diffTreesSpec : ChangeSpec := { name := "diffTrees", fn := fun _ => fun
  | [d1, d2, d3] => { results := [.lit (.bool true)], args := [d1, d2, d3] }
  | _ => none }
def diffTreesRow : OpenClaim := { program := "ytnblmdmlollmaaagreat", sum := "ac1d12b7c3bcbb7872621b8d509665d441a67a242229c39f98b6ac624c1af2c8", func := "apograph/apographlaw11.DiffTrees", spec := "diffTrees", inPlace := ["slices.overlaps[apograph/api.Span]", "slices.overlaps[uint64]", "internal/bytealg.abigen_runtime_cmpstring"], unfollowed := true, recurses := true, plainKeys := false, apart := false }
def DiffTreesSaid : Prop := diffTreesRow.holds Tryz.pinned (OpenSpec.ofChange diffTreesSpec)

/-- ITS FALSE NEIGHBOUR: 'it returns false'. Refute it at one input. -/
def diffTreesWrong : ChangeSpec := { name := "diffTrees", fn := fun _ => fun
  | [d1, d2, d3] => { results := [.lit (.bool false)], args := [d1, d2, d3] }
  | _ => none }
def DiffTreesWrongFalsely : Prop := diffTreesRow.holds Tryz.pinned (OpenSpec.ofChange diffTreesWrong)

/-- 'apographlaw12.MergeTrees': WHATEVER THE INPUT: true; the input reads as it did. -/
def mergeTreesSpec : ChangeSpec := { name := "mergeTrees", fn := fun _ => fun
  | [d1, d2, d3] => { results := [.lit (.bool true)], args := [d1, d2, d3] }
  | _ => none }
def mergeTreesRow : OpenClaim := { program := "ytnblmdmlollmaaagreat", sum := "ac1d12b7c3bcbb7872621b8d509665d441a67a242229c39f98b6ac624c1af2c8", func := "apograph/apographlaw12.MergeTrees", spec := "mergeTrees", inPlace := ["slices.overlaps[apograph/api.Span]", "slices.overlaps[uint64]", "internal/bytealg.abigen_runtime_cmpstring"], unfollowed := true, recurses := true, plainKeys := false, apart := false }
def MergeTreesSaid : Prop := mergeTreesRow.holds Tryz.pinned (OpenSpec.ofChange mergeTreesSpec)

/-- ITS FALSE NEIGHBOUR: 'it returns false'. Refute it at one input. -/
def mergeTreesWrong : ChangeSpec := { name := "mergeTrees", fn := fun _ => fun
  | [d1, d2, d3] => { results := [.lit (.bool false)], args := [d1, d2, d3] }
  | _ => none }
def MergeTreesWrongFalsely : Prop := mergeTreesRow.holds Tryz.pinned (OpenSpec.ofChange mergeTreesWrong)

/- THE SECOND FORM. 'bulk': how many values and letters a reading holds, each counted each time it is reached (what is shared counts as often as it is met; a slice's spare places count too). A statement '..UptoSaid' is the law's where the arguments, and the package variables that the reading takes, are together of bulk at most 1048576: NARROWER than '..Said'. Prove '..Said' where nothing that the law and all that it calls make is longer than what came in: it says more and counts as full. Else prove '..UptoSaid'. A law counts once. -/
mutual
def uptoBulk {H : Type} : DataW H → Nat
  | .lit (.string bytes) => bytes.length + 1
  | .lit _ => 1
  | .nil => 1
  | .ptr d => uptoBulk d + 1
  | .slice elems spare => uptoBulkAll elems + uptoBulkAll spare + 1
  | .agg parts => uptoBulkAll parts + 1
  | .iface _ d => uptoBulk d + 1
  | .map entries => uptoBulkEntries entries + 1
  | .held _ => 1
def uptoBulkAll {H : Type} : List (DataW H) → Nat
  | [] => 0
  | d :: r => uptoBulk d + uptoBulkAll r
def uptoBulkEntries {H : Type} : List (Lit × DataW H) → Nat
  | [] => 0
  | x :: r => uptoBulkEntry x + uptoBulkEntries r
def uptoBulkEntry {H : Type} : Lit × DataW H → Nat
  | (.string bytes, d) => bytes.length + uptoBulk d + 1
  | (_, d) => uptoBulk d + 1
 end
def uptoSmall : (H : Type) → List (DataW H) → Bool := fun _ ds => decide (uptoBulkAll ds ≤ 1048576)
def OpenSpec.upto (s : _root_.Go.ChangeSpec) : _root_.Go.OpenSpec := { _root_.Go.OpenSpec.ofChange s with cond := some uptoSmall }

/-- 'apographlaw10.TreeShapes', WHERE WHAT IT READS IS OF BULK AT MOST 1048576: true; the input reads as it did. -/
def treeShapesUptoRow : OpenClaim := { program := "ytnblmdmlollmaaagreat", sum := "ac1d12b7c3bcbb7872621b8d509665d441a67a242229c39f98b6ac624c1af2c8", func := "apograph/apographlaw10.TreeShapes", spec := "treeShapes", inPlace := ["slices.overlaps[apograph/api.Span]", "slices.overlaps[uint64]", "internal/bytealg.abigen_runtime_cmpstring"], unfollowed := true, recurses := true, plainKeys := false, apart := false, narrowed := true }
def TreeShapesUptoSaid : Prop := treeShapesUptoRow.holds Tryz.pinned (OpenSpec.upto treeShapesSpec)

/-- 'apographlaw10.TreeEdits', WHERE WHAT IT READS IS OF BULK AT MOST 1048576: true; the input reads as it did. -/
def treeEditsUptoRow : OpenClaim := { program := "ytnblmdmlollmaaagreat", sum := "ac1d12b7c3bcbb7872621b8d509665d441a67a242229c39f98b6ac624c1af2c8", func := "apograph/apographlaw10.TreeEdits", spec := "treeEdits", inPlace := ["slices.overlaps[apograph/api.Span]", "slices.overlaps[uint64]", "internal/bytealg.abigen_runtime_cmpstring"], unfollowed := true, recurses := true, plainKeys := false, apart := false, narrowed := true }
def TreeEditsUptoSaid : Prop := treeEditsUptoRow.holds Tryz.pinned (OpenSpec.upto treeEditsSpec)

/-- 'apographlaw10.TreeNodes', WHERE WHAT IT READS IS OF BULK AT MOST 1048576: true; the input reads as it did. -/
def treeNodesUptoRow : OpenClaim := { program := "ytnblmdmlollmaaagreat", sum := "ac1d12b7c3bcbb7872621b8d509665d441a67a242229c39f98b6ac624c1af2c8", func := "apograph/apographlaw10.TreeNodes", spec := "treeNodes", inPlace := ["slices.overlaps[apograph/api.Span]", "slices.overlaps[uint64]", "internal/bytealg.abigen_runtime_cmpstring"], unfollowed := true, recurses := true, plainKeys := false, apart := false, narrowed := true }
def TreeNodesUptoSaid : Prop := treeNodesUptoRow.holds Tryz.pinned (OpenSpec.upto treeNodesSpec)

/-- 'apographlaw10.TreeShares', WHERE WHAT IT READS IS OF BULK AT MOST 1048576: true; the input reads as it did. -/
def treeSharesUptoRow : OpenClaim := { program := "ytnblmdmlollmaaagreat", sum := "ac1d12b7c3bcbb7872621b8d509665d441a67a242229c39f98b6ac624c1af2c8", func := "apograph/apographlaw10.TreeShares", spec := "treeShares", inPlace := ["slices.overlaps[apograph/api.Span]", "slices.overlaps[uint64]", "internal/bytealg.abigen_runtime_cmpstring"], unfollowed := true, recurses := true, plainKeys := false, apart := false, narrowed := true }
def TreeSharesUptoSaid : Prop := treeSharesUptoRow.holds Tryz.pinned (OpenSpec.upto treeSharesSpec)

/-- 'apographlaw11.DiffTrees', WHERE WHAT IT READS IS OF BULK AT MOST 1048576: true; the input reads as it did. -/
def diffTreesUptoRow : OpenClaim := { program := "ytnblmdmlollmaaagreat", sum := "ac1d12b7c3bcbb7872621b8d509665d441a67a242229c39f98b6ac624c1af2c8", func := "apograph/apographlaw11.DiffTrees", spec := "diffTrees", inPlace := ["slices.overlaps[apograph/api.Span]", "slices.overlaps[uint64]", "internal/bytealg.abigen_runtime_cmpstring"], unfollowed := true, recurses := true, plainKeys := false, apart := false, narrowed := true }
def DiffTreesUptoSaid : Prop := diffTreesUptoRow.holds Tryz.pinned (OpenSpec.upto diffTreesSpec)

/-- 'apographlaw12.MergeTrees', WHERE WHAT IT READS IS OF BULK AT MOST 1048576: true; the input reads as it did. -/
def mergeTreesUptoRow : OpenClaim := { program := "ytnblmdmlollmaaagreat", sum := "ac1d12b7c3bcbb7872621b8d509665d441a67a242229c39f98b6ac624c1af2c8", func := "apograph/apographlaw12.MergeTrees", spec := "mergeTrees", inPlace := ["slices.overlaps[apograph/api.Span]", "slices.overlaps[uint64]", "internal/bytealg.abigen_runtime_cmpstring"], unfollowed := true, recurses := true, plainKeys := false, apart := false, narrowed := true }
def MergeTreesUptoSaid : Prop := mergeTreesUptoRow.holds Tryz.pinned (OpenSpec.upto mergeTreesSpec)

end Rows
end Go.Proofs.YtnblmdmlollmaaaGreat
