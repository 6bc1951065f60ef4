/-
  No cell of these rows narrows 'for every input' (looked for: loops, veiled, ifaces, maps, wideKeys, modest, calm, conditions, laid).
  DERIVED. THE GIVEN ROWS OF THIS SEAT. 6 by the template 'for every input the law returns true; each argument reads behind the call as it read before'; 0 by the template 'total and deterministic' (their statements: YtmkafoidfgaokaaTotals.lean).
  GIVEN WITH THE SEED: the statements are not yours to turn. If you find one false, say at which input.
  Laid BY PROGRAM, IN A SANDBOX (cutbox-rows.mjs): the forced cells as the released guide's own fill.sh prints them over the translation 4e13f40aa3d43d20… (all of the seat's roots in one cut). By AI agents, Wed Nov 11 2026. No macro, syntax, notation, axiom, sorry.
-/
import Derived.Test.YtmkafoidfgaokaaChecked
import GoSem.Claim
import GoSem.ClaimJoined
import GoSem.ClaimMapViews
import Derived.JoinedTies
import Derived.KernelRfl
namespace Go.Proofs.Ytmkafoidfgaokaa
/- THE CELL 'sum', in the pinned program and in every row, IS THE sha256 OF THE DUMP (.gsa) THAT YtmkafoidfgaokaaProg.lean LOADS. Nothing in Lean hashes anything: it is a label: what it is worth is what the hold of that sum in a sandbox is worth. -/
noncomputable def Try.pinned : Pinned := { name := "ytmkafoidfgaokaa", sum := "4e13f40aa3d43d2094267c21bddb8ff01218be5cc43950cc07b1cd4269b32e6f", checked := Try.checked }
namespace Rows
def none {H : Type} : Left H := { results := [], args := [] }

/-- 'apographlaw15.GraphAdds': WHATEVER THE INPUT: true; the input reads as it did. -/
def graphAddsSpec : ChangeSpec := { name := "graphAdds", fn := fun _ => fun
  | [d1, d2] => { results := [.lit (.bool true)], args := [d1, d2] }
  | _ => none }
def graphAddsRow : OpenClaim := { program := "ytmkafoidfgaokaa", sum := "4e13f40aa3d43d2094267c21bddb8ff01218be5cc43950cc07b1cd4269b32e6f", func := "apograph/apographlaw15.GraphAdds", spec := "graphAdds", inPlace := ["maps.clone"], unfollowed := true, recurses := true, apart := false }
def GraphAddsSaid : Prop := graphAddsRow.holds Try.pinned (OpenSpec.ofChange graphAddsSpec)

/-- ITS FALSE NEIGHBOUR: 'it returns false'. Refute it at one input. -/
def graphAddsWrong : ChangeSpec := { name := "graphAdds", fn := fun _ => fun
  | [d1, d2] => { results := [.lit (.bool false)], args := [d1, d2] }
  | _ => none }
def GraphAddsWrongFalsely : Prop := graphAddsRow.holds Try.pinned (OpenSpec.ofChange graphAddsWrong)

/-- 'apographlaw15.GraphBases': WHATEVER THE INPUT: true; the input reads as it did. -/
def graphBasesSpec : ChangeSpec := { name := "graphBases", fn := fun _ => fun
  | [d1, d2, d3, d4] => { results := [.lit (.bool true)], args := [d1, d2, d3, d4] }
  | _ => none }
def graphBasesRow : OpenClaim := { program := "ytmkafoidfgaokaa", sum := "4e13f40aa3d43d2094267c21bddb8ff01218be5cc43950cc07b1cd4269b32e6f", func := "apograph/apographlaw15.GraphBases", spec := "graphBases", inPlace := ["maps.clone"], unfollowed := true, recurses := true, apart := false }
def GraphBasesSaid : Prop := graphBasesRow.holds Try.pinned (OpenSpec.ofChange graphBasesSpec)

/-- ITS FALSE NEIGHBOUR: 'it returns false'. Refute it at one input. -/
def graphBasesWrong : ChangeSpec := { name := "graphBases", fn := fun _ => fun
  | [d1, d2, d3, d4] => { results := [.lit (.bool false)], args := [d1, d2, d3, d4] }
  | _ => none }
def GraphBasesWrongFalsely : Prop := graphBasesRow.holds Try.pinned (OpenSpec.ofChange graphBasesWrong)

/-- 'apographlaw15.GraphBest': WHATEVER THE INPUT: true; the input reads as it did. -/
def graphBestSpec : ChangeSpec := { name := "graphBest", fn := fun _ => fun
  | [d1, d2, d3] => { results := [.lit (.bool true)], args := [d1, d2, d3] }
  | _ => none }
def graphBestRow : OpenClaim := { program := "ytmkafoidfgaokaa", sum := "4e13f40aa3d43d2094267c21bddb8ff01218be5cc43950cc07b1cd4269b32e6f", func := "apograph/apographlaw15.GraphBest", spec := "graphBest", inPlace := ["maps.clone"], unfollowed := true, recurses := true, apart := false }
def GraphBestSaid : Prop := graphBestRow.holds Try.pinned (OpenSpec.ofChange graphBestSpec)

/-- ITS FALSE NEIGHBOUR: 'it returns false'. Refute it at one input. -/
def graphBestWrong : ChangeSpec := { name := "graphBest", fn := fun _ => fun
  | [d1, d2, d3] => { results := [.lit (.bool false)], args := [d1, d2, d3] }
  | _ => none }
def GraphBestWrongFalsely : Prop := graphBestRow.holds Try.pinned (OpenSpec.ofChange graphBestWrong)

/-- 'apographlaw15.GraphOrders': WHATEVER THE INPUT: true; the input reads as it did. -/
def graphOrdersSpec : ChangeSpec := { name := "graphOrders", fn := fun _ => fun
  | [d1, d2, d3, d4] => { results := [.lit (.bool true)], args := [d1, d2, d3, d4] }
  | _ => none }
def graphOrdersRow : OpenClaim := { program := "ytmkafoidfgaokaa", sum := "4e13f40aa3d43d2094267c21bddb8ff01218be5cc43950cc07b1cd4269b32e6f", func := "apograph/apographlaw15.GraphOrders", spec := "graphOrders", inPlace := ["maps.clone"], unfollowed := true, recurses := true, apart := false }
def GraphOrdersSaid : Prop := graphOrdersRow.holds Try.pinned (OpenSpec.ofChange graphOrdersSpec)

/-- ITS FALSE NEIGHBOUR: 'it returns false'. Refute it at one input. -/
def graphOrdersWrong : ChangeSpec := { name := "graphOrders", fn := fun _ => fun
  | [d1, d2, d3, d4] => { results := [.lit (.bool false)], args := [d1, d2, d3, d4] }
  | _ => none }
def GraphOrdersWrongFalsely : Prop := graphOrdersRow.holds Try.pinned (OpenSpec.ofChange graphOrdersWrong)

/-- 'apographlaw15.GraphKeeps': WHATEVER THE INPUT: true; the input reads as it did. -/
def graphKeepsSpec : ChangeSpec := { name := "graphKeeps", fn := fun _ => fun
  | [d1, d2, d3] => { results := [.lit (.bool true)], args := [d1, d2, d3] }
  | _ => none }
def graphKeepsRow : OpenClaim := { program := "ytmkafoidfgaokaa", sum := "4e13f40aa3d43d2094267c21bddb8ff01218be5cc43950cc07b1cd4269b32e6f", func := "apograph/apographlaw15.GraphKeeps", spec := "graphKeeps", inPlace := ["maps.clone"], unfollowed := true, recurses := true, apart := false }
def GraphKeepsSaid : Prop := graphKeepsRow.holds Try.pinned (OpenSpec.ofChange graphKeepsSpec)

/-- ITS FALSE NEIGHBOUR: 'it returns false'. Refute it at one input. -/
def graphKeepsWrong : ChangeSpec := { name := "graphKeeps", fn := fun _ => fun
  | [d1, d2, d3] => { results := [.lit (.bool false)], args := [d1, d2, d3] }
  | _ => none }
def GraphKeepsWrongFalsely : Prop := graphKeepsRow.holds Try.pinned (OpenSpec.ofChange graphKeepsWrong)

/-- 'apographlaw15.GraphGens': WHATEVER THE INPUT: true; the input reads as it did. -/
def graphGensSpec : ChangeSpec := { name := "graphGens", fn := fun _ => fun
  | [d1, d2] => { results := [.lit (.bool true)], args := [d1, d2] }
  | _ => none }
def graphGensRow : OpenClaim := { program := "ytmkafoidfgaokaa", sum := "4e13f40aa3d43d2094267c21bddb8ff01218be5cc43950cc07b1cd4269b32e6f", func := "apograph/apographlaw15.GraphGens", spec := "graphGens", inPlace := ["maps.clone"], unfollowed := true, recurses := true, apart := false }
def GraphGensSaid : Prop := graphGensRow.holds Try.pinned (OpenSpec.ofChange graphGensSpec)

/-- ITS FALSE NEIGHBOUR: 'it returns false'. Refute it at one input. -/
def graphGensWrong : ChangeSpec := { name := "graphGens", fn := fun _ => fun
  | [d1, d2] => { results := [.lit (.bool false)], args := [d1, d2] }
  | _ => none }
def GraphGensWrongFalsely : Prop := graphGensRow.holds Try.pinned (OpenSpec.ofChange graphGensWrong)

/- THE SECOND FORM. 'bulk': how many values and letters a reading holds, each counted each time it is reached (what is shared counts as often as it is met; a slice's spare places count too). A statement '..UptoSaid' is the law's where the arguments, and the package variables that the reading takes, are together of bulk at most 1048576: NARROWER than '..Said'. Prove '..Said' where nothing that the law and all that it calls make is longer than what came in: it says more and counts as full. Else prove '..UptoSaid'. A law counts once. -/
mutual
def uptoBulk {H : Type} : DataW H → Nat
  | .lit (.string bytes) => bytes.length + 1
  | .lit _ => 1
  | .nil => 1
  | .ptr d => uptoBulk d + 1
  | .slice elems spare => uptoBulkAll elems + uptoBulkAll spare + 1
  | .agg parts => uptoBulkAll parts + 1
  | .iface _ d => uptoBulk d + 1
  | .map entries => uptoBulkEntries entries + 1
  | .held _ => 1
def uptoBulkAll {H : Type} : List (DataW H) → Nat
  | [] => 0
  | d :: r => uptoBulk d + uptoBulkAll r
def uptoBulkEntries {H : Type} : List (Lit × DataW H) → Nat
  | [] => 0
  | x :: r => uptoBulkEntry x + uptoBulkEntries r
def uptoBulkEntry {H : Type} : Lit × DataW H → Nat
  | (.string bytes, d) => bytes.length + uptoBulk d + 1
  | (_, d) => uptoBulk d + 1
 end
def uptoSmall : (H : Type) → List (DataW H) → Bool := fun _ ds => decide (uptoBulkAll ds ≤ 1048576)
def OpenSpec.upto (s : _root_.Go.ChangeSpec) : _root_.Go.OpenSpec := { _root_.Go.OpenSpec.ofChange s with cond := some uptoSmall }

/-- 'apographlaw15.GraphAdds', WHERE WHAT IT READS IS OF BULK AT MOST 1048576: true; the input reads as it did. -/
def graphAddsUptoRow : OpenClaim := { program := "ytmkafoidfgaokaa", sum := "4e13f40aa3d43d2094267c21bddb8ff01218be5cc43950cc07b1cd4269b32e6f", func := "apograph/apographlaw15.GraphAdds", spec := "graphAdds", inPlace := ["maps.clone"], unfollowed := true, recurses := true, apart := false, narrowed := true }
def GraphAddsUptoSaid : Prop := graphAddsUptoRow.holds Try.pinned (OpenSpec.upto graphAddsSpec)

/-- 'apographlaw15.GraphBases', WHERE WHAT IT READS IS OF BULK AT MOST 1048576: true; the input reads as it did. -/
def graphBasesUptoRow : OpenClaim := { program := "ytmkafoidfgaokaa", sum := "4e13f40aa3d43d2094267c21bddb8ff01218be5cc43950cc07b1cd4269b32e6f", func := "apograph/apographlaw15.GraphBases", spec := "graphBases", inPlace := ["maps.clone"], unfollowed := true, recurses := true, apart := false, narrowed := true }
def GraphBasesUptoSaid : Prop := graphBasesUptoRow.holds Try.pinned (OpenSpec.upto graphBasesSpec)

/-- 'apographlaw15.GraphBest', WHERE WHAT IT READS IS OF BULK AT MOST 1048576: true; the input reads as it did. -/
def graphBestUptoRow : OpenClaim := { program := "ytmkafoidfgaokaa", sum := "4e13f40aa3d43d2094267c21bddb8ff01218be5cc43950cc07b1cd4269b32e6f", func := "apograph/apographlaw15.GraphBest", spec := "graphBest", inPlace := ["maps.clone"], unfollowed := true, recurses := true, apart := false, narrowed := true }
def GraphBestUptoSaid : Prop := graphBestUptoRow.holds Try.pinned (OpenSpec.upto graphBestSpec)

/-- 'apographlaw15.GraphOrders', WHERE WHAT IT READS IS OF BULK AT MOST 1048576: true; the input reads as it did. -/
def graphOrdersUptoRow : OpenClaim := { program := "ytmkafoidfgaokaa", sum := "4e13f40aa3d43d2094267c21bddb8ff01218be5cc43950cc07b1cd4269b32e6f", func := "apograph/apographlaw15.GraphOrders", spec := "graphOrders", inPlace := ["maps.clone"], unfollowed := true, recurses := true, apart := false, narrowed := true }
def GraphOrdersUptoSaid : Prop := graphOrdersUptoRow.holds Try.pinned (OpenSpec.upto graphOrdersSpec)

/-- 'apographlaw15.GraphKeeps', WHERE WHAT IT READS IS OF BULK AT MOST 1048576: true; the input reads as it did. -/
def graphKeepsUptoRow : OpenClaim := { program := "ytmkafoidfgaokaa", sum := "4e13f40aa3d43d2094267c21bddb8ff01218be5cc43950cc07b1cd4269b32e6f", func := "apograph/apographlaw15.GraphKeeps", spec := "graphKeeps", inPlace := ["maps.clone"], unfollowed := true, recurses := true, apart := false, narrowed := true }
def GraphKeepsUptoSaid : Prop := graphKeepsUptoRow.holds Try.pinned (OpenSpec.upto graphKeepsSpec)

/-- 'apographlaw15.GraphGens', WHERE WHAT IT READS IS OF BULK AT MOST 1048576: true; the input reads as it did. -/
def graphGensUptoRow : OpenClaim := { program := "ytmkafoidfgaokaa", sum := "4e13f40aa3d43d2094267c21bddb8ff01218be5cc43950cc07b1cd4269b32e6f", func := "apograph/apographlaw15.GraphGens", spec := "graphGens", inPlace := ["maps.clone"], unfollowed := true, recurses := true, apart := false, narrowed := true }
def GraphGensUptoSaid : Prop := graphGensUptoRow.holds Try.pinned (OpenSpec.upto graphGensSpec)

end Rows
end Go.Proofs.Ytmkafoidfgaokaa
