/-
  No cell of these rows narrows 'for every input' (looked for: loops, veiled, ifaces, maps, wideKeys, modest, calm, conditions, laid).
  DERIVED. THE GIVEN ROWS OF THIS SEAT. 4 by the template 'for every input the law returns true; each argument reads behind the call as it read before'; 0 by the template 'total and deterministic' (their statements: YtdhebpnkfookcaaGreatTotals.lean).
  GIVEN WITH THE SEED: the statements are not yours to turn. If you find one false, say at which input.
  Laid BY PROGRAM, IN A SANDBOX (cutbox-rows.mjs): the forced cells as the released guide's own fill.sh prints them over the translation 28ac9e5df8cdc3ee… (all of the seat's roots in one cut). By AI agents, Wed Nov 11 2026. No macro, syntax, notation, axiom, sorry.
-/
import Derived.Test.YtdhebpnkfookcaaGreatChecked
import GoSem.Claim
import GoSem.ClaimJoined
import GoSem.ClaimMapViews
import Derived.JoinedTies
import Derived.KernelRfl
namespace Go.Proofs.YtdhebpnkfookcaaGreat
/- THE CELL 'sum', in the pinned program and in every row, IS THE sha256 OF THE DUMP (.gsa) THAT YtdhebpnkfookcaaGreatProg.lean LOADS. Nothing in Lean hashes anything: it is a label: what it is worth is what the hold of that sum in a sandbox is worth. -/
noncomputable def Tryz.pinned : Pinned := { name := "ytdhebpnkfookcaagreat", sum := "28ac9e5df8cdc3ee3c425b240a32cd4de72c8839744ad40fe3126ad4a8ed1c4a", checked := Tryz.checked }
namespace Rows
def none {H : Type} : Left H := { results := [], args := [] }

/-- 'apographlaw18.WorkPuts': WHATEVER THE INPUT: true; the input reads as it did. -/
def workPutsSpec : ChangeSpec := { name := "workPuts", fn := fun _ => fun
  | [d1, d2, d3] => { results := [.lit (.bool true)], args := [d1, d2, d3] }
  | _ => none }
def workPutsRow : OpenClaim := { program := "ytdhebpnkfookcaagreat", sum := "28ac9e5df8cdc3ee3c425b240a32cd4de72c8839744ad40fe3126ad4a8ed1c4a", func := "apograph/apographlaw18.WorkPuts", spec := "workPuts", inPlace := ["slices.overlaps[apograph/api.Span]", "slices.overlaps[uint64]", "internal/bytealg.abigen_runtime_cmpstring"], unfollowed := true, recurses := true, plainKeys := false, apart := false }
def WorkPutsSaid : Prop := workPutsRow.holds Tryz.pinned (OpenSpec.ofChange workPutsSpec)

/-- ITS FALSE NEIGHBOUR: 'it returns false'. Refute it at one input. -/
def workPutsWrong : ChangeSpec := { name := "workPuts", fn := fun _ => fun
  | [d1, d2, d3] => { results := [.lit (.bool false)], args := [d1, d2, d3] }
  | _ => none }
def WorkPutsWrongFalsely : Prop := workPutsRow.holds Tryz.pinned (OpenSpec.ofChange workPutsWrong)

/-- 'apographlaw18.WorkMany': WHATEVER THE INPUT: true; the input reads as it did. -/
def workManySpec : ChangeSpec := { name := "workMany", fn := fun _ => fun
  | [d1, d2] => { results := [.lit (.bool true)], args := [d1, d2] }
  | _ => none }
def workManyRow : OpenClaim := { program := "ytdhebpnkfookcaagreat", sum := "28ac9e5df8cdc3ee3c425b240a32cd4de72c8839744ad40fe3126ad4a8ed1c4a", func := "apograph/apographlaw18.WorkMany", spec := "workMany", inPlace := ["slices.overlaps[apograph/api.Span]", "slices.overlaps[uint64]", "internal/bytealg.abigen_runtime_cmpstring"], unfollowed := true, recurses := true, plainKeys := false, apart := false }
def WorkManySaid : Prop := workManyRow.holds Tryz.pinned (OpenSpec.ofChange workManySpec)

/-- ITS FALSE NEIGHBOUR: 'it returns false'. Refute it at one input. -/
def workManyWrong : ChangeSpec := { name := "workMany", fn := fun _ => fun
  | [d1, d2] => { results := [.lit (.bool false)], args := [d1, d2] }
  | _ => none }
def WorkManyWrongFalsely : Prop := workManyRow.holds Tryz.pinned (OpenSpec.ofChange workManyWrong)

/-- 'apographlaw18.WorkScans': WHATEVER THE INPUT: true; the input reads as it did. -/
def workScansSpec : ChangeSpec := { name := "workScans", fn := fun _ => fun
  | [d1, d2, d3, d4, d5] => { results := [.lit (.bool true)], args := [d1, d2, d3, d4, d5] }
  | _ => none }
def workScansRow : OpenClaim := { program := "ytdhebpnkfookcaagreat", sum := "28ac9e5df8cdc3ee3c425b240a32cd4de72c8839744ad40fe3126ad4a8ed1c4a", func := "apograph/apographlaw18.WorkScans", spec := "workScans", inPlace := ["slices.overlaps[apograph/api.Span]", "slices.overlaps[uint64]", "internal/bytealg.abigen_runtime_cmpstring"], unfollowed := true, recurses := true, plainKeys := false, apart := false }
def WorkScansSaid : Prop := workScansRow.holds Tryz.pinned (OpenSpec.ofChange workScansSpec)

/-- ITS FALSE NEIGHBOUR: 'it returns false'. Refute it at one input. -/
def workScansWrong : ChangeSpec := { name := "workScans", fn := fun _ => fun
  | [d1, d2, d3, d4, d5] => { results := [.lit (.bool false)], args := [d1, d2, d3, d4, d5] }
  | _ => none }
def WorkScansWrongFalsely : Prop := workScansRow.holds Tryz.pinned (OpenSpec.ofChange workScansWrong)

/-- 'apographlaw18.WorkBack': WHATEVER THE INPUT: true; the input reads as it did. -/
def workBackSpec : ChangeSpec := { name := "workBack", fn := fun _ => fun
  | [d1, d2, d3] => { results := [.lit (.bool true)], args := [d1, d2, d3] }
  | _ => none }
def workBackRow : OpenClaim := { program := "ytdhebpnkfookcaagreat", sum := "28ac9e5df8cdc3ee3c425b240a32cd4de72c8839744ad40fe3126ad4a8ed1c4a", func := "apograph/apographlaw18.WorkBack", spec := "workBack", inPlace := ["slices.overlaps[apograph/api.Span]", "slices.overlaps[uint64]", "internal/bytealg.abigen_runtime_cmpstring"], unfollowed := true, recurses := true, plainKeys := false, apart := false }
def WorkBackSaid : Prop := workBackRow.holds Tryz.pinned (OpenSpec.ofChange workBackSpec)

/-- ITS FALSE NEIGHBOUR: 'it returns false'. Refute it at one input. -/
def workBackWrong : ChangeSpec := { name := "workBack", fn := fun _ => fun
  | [d1, d2, d3] => { results := [.lit (.bool false)], args := [d1, d2, d3] }
  | _ => none }
def WorkBackWrongFalsely : Prop := workBackRow.holds Tryz.pinned (OpenSpec.ofChange workBackWrong)

/- THE SECOND FORM. 'bulk': how many values and letters a reading holds, each counted each time it is reached (what is shared counts as often as it is met; a slice's spare places count too). A statement '..UptoSaid' is the law's where the arguments, and the package variables that the reading takes, are together of bulk at most 1048576: NARROWER than '..Said'. Prove '..Said' where nothing that the law and all that it calls make is longer than what came in: it says more and counts as full. Else prove '..UptoSaid'. A law counts once. -/
mutual
def uptoBulk {H : Type} : DataW H → Nat
  | .lit (.string bytes) => bytes.length + 1
  | .lit _ => 1
  | .nil => 1
  | .ptr d => uptoBulk d + 1
  | .slice elems spare => uptoBulkAll elems + uptoBulkAll spare + 1
  | .agg parts => uptoBulkAll parts + 1
  | .iface _ d => uptoBulk d + 1
  | .map entries => uptoBulkEntries entries + 1
  | .held _ => 1
def uptoBulkAll {H : Type} : List (DataW H) → Nat
  | [] => 0
  | d :: r => uptoBulk d + uptoBulkAll r
def uptoBulkEntries {H : Type} : List (Lit × DataW H) → Nat
  | [] => 0
  | x :: r => uptoBulkEntry x + uptoBulkEntries r
def uptoBulkEntry {H : Type} : Lit × DataW H → Nat
  | (.string bytes, d) => bytes.length + uptoBulk d + 1
  | (_, d) => uptoBulk d + 1
 end
def uptoSmall : (H : Type) → List (DataW H) → Bool := fun _ ds => decide (uptoBulkAll ds ≤ 1048576)
def OpenSpec.upto (s : _root_.Go.ChangeSpec) : _root_.Go.OpenSpec := { _root_.Go.OpenSpec.ofChange s with cond := some uptoSmall }

/-- 'apographlaw18.WorkPuts', WHERE WHAT IT READS IS OF BULK AT MOST 1048576: true; the input reads as it did. -/
def workPutsUptoRow : OpenClaim := { program := "ytdhebpnkfookcaagreat", sum := "28ac9e5df8cdc3ee3c425b240a32cd4de72c8839744ad40fe3126ad4a8ed1c4a", func := "apograph/apographlaw18.WorkPuts", spec := "workPuts", inPlace := ["slices.overlaps[apograph/api.Span]", "slices.overlaps[uint64]", "internal/bytealg.abigen_runtime_cmpstring"], unfollowed := true, recurses := true, plainKeys := false, apart := false, narrowed := true }
def WorkPutsUptoSaid : Prop := workPutsUptoRow.holds Tryz.pinned (OpenSpec.upto workPutsSpec)

/-- 'apographlaw18.WorkMany', WHERE WHAT IT READS IS OF BULK AT MOST 1048576: true; the input reads as it did. -/
def workManyUptoRow : OpenClaim := { program := "ytdhebpnkfookcaagreat", sum := "28ac9e5df8cdc3ee3c425b240a32cd4de72c8839744ad40fe3126ad4a8ed1c4a", func := "apograph/apographlaw18.WorkMany", spec := "workMany", inPlace := ["slices.overlaps[apograph/api.Span]", "slices.overlaps[uint64]", "internal/bytealg.abigen_runtime_cmpstring"], unfollowed := true, recurses := true, plainKeys := false, apart := false, narrowed := true }
def WorkManyUptoSaid : Prop := workManyUptoRow.holds Tryz.pinned (OpenSpec.upto workManySpec)

/-- 'apographlaw18.WorkScans', WHERE WHAT IT READS IS OF BULK AT MOST 1048576: true; the input reads as it did. -/
def workScansUptoRow : OpenClaim := { program := "ytdhebpnkfookcaagreat", sum := "28ac9e5df8cdc3ee3c425b240a32cd4de72c8839744ad40fe3126ad4a8ed1c4a", func := "apograph/apographlaw18.WorkScans", spec := "workScans", inPlace := ["slices.overlaps[apograph/api.Span]", "slices.overlaps[uint64]", "internal/bytealg.abigen_runtime_cmpstring"], unfollowed := true, recurses := true, plainKeys := false, apart := false, narrowed := true }
def WorkScansUptoSaid : Prop := workScansUptoRow.holds Tryz.pinned (OpenSpec.upto workScansSpec)

/-- 'apographlaw18.WorkBack', WHERE WHAT IT READS IS OF BULK AT MOST 1048576: true; the input reads as it did. -/
def workBackUptoRow : OpenClaim := { program := "ytdhebpnkfookcaagreat", sum := "28ac9e5df8cdc3ee3c425b240a32cd4de72c8839744ad40fe3126ad4a8ed1c4a", func := "apograph/apographlaw18.WorkBack", spec := "workBack", inPlace := ["slices.overlaps[apograph/api.Span]", "slices.overlaps[uint64]", "internal/bytealg.abigen_runtime_cmpstring"], unfollowed := true, recurses := true, plainKeys := false, apart := false, narrowed := true }
def WorkBackUptoSaid : Prop := workBackUptoRow.holds Tryz.pinned (OpenSpec.upto workBackSpec)

end Rows
end Go.Proofs.YtdhebpnkfookcaaGreat
