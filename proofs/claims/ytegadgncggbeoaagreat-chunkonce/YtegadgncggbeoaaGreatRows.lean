/-
  No cell of these rows narrows 'for every input' (looked for: loops, veiled, ifaces, maps, wideKeys, modest, calm, conditions, laid).
  DERIVED. THE GIVEN ROWS OF THIS SEAT. 4 by the template 'for every input the law returns true; each argument reads behind the call as it read before'; 0 by the template 'total and deterministic' (their statements: YtegadgncggbeoaaGreatTotals.lean).
  GIVEN WITH THE SEED: the statements are not yours to turn. If you find one false, say at which input.
  Laid BY PROGRAM, IN A SANDBOX (cutbox-rows.mjs): the forced cells as the released guide's own fill.sh prints them over the translation c797dae2b8e420f8… (all of the seat's roots in one cut). By AI agents, Wed Nov 11 2026. No macro, syntax, notation, axiom, sorry.
-/
import Derived.Test.YtegadgncggbeoaaGreatChecked
import GoSem.Claim
import GoSem.ClaimJoined
import GoSem.ClaimMapViews
import Derived.JoinedTies
import Derived.KernelRfl
namespace Go.Proofs.YtegadgncggbeoaaGreat
/- THE CELL 'sum', in the pinned program and in every row, IS THE sha256 OF THE DUMP (.gsa) THAT YtegadgncggbeoaaGreatProg.lean LOADS. Nothing in Lean hashes anything: it is a label: what it is worth is what the hold of that sum in a sandbox is worth. -/
noncomputable def Tryz.pinned : Pinned := { name := "ytegadgncggbeoaagreat", sum := "c797dae2b8e420f87f7b66873a9ac728cc6a47d45eea43218df42ff30b143bfb", checked := Tryz.checked }
namespace Rows
def none {H : Type} : Left H := { results := [], args := [] }

/-- 'apographlaw08.ChunkDoes': WHATEVER THE INPUT: true; the input reads as it did. -/
def chunkDoesSpec : ChangeSpec := { name := "chunkDoes", fn := fun _ => fun
  | [d1, d2] => { results := [.lit (.bool true)], args := [d1, d2] }
  | _ => none }
def chunkDoesRow : OpenClaim := { program := "ytegadgncggbeoaagreat", sum := "c797dae2b8e420f87f7b66873a9ac728cc6a47d45eea43218df42ff30b143bfb", func := "apograph/apographlaw08.ChunkDoes", spec := "chunkDoes", inPlace := ["slices.overlaps[apograph/api.Span]", "slices.overlaps[uint64]"], unfollowed := true, recurses := true, apart := false }
def ChunkDoesSaid : Prop := chunkDoesRow.holds Tryz.pinned (OpenSpec.ofChange chunkDoesSpec)

/-- ITS FALSE NEIGHBOUR: 'it returns false'. Refute it at one input. -/
def chunkDoesWrong : ChangeSpec := { name := "chunkDoes", fn := fun _ => fun
  | [d1, d2] => { results := [.lit (.bool false)], args := [d1, d2] }
  | _ => none }
def ChunkDoesWrongFalsely : Prop := chunkDoesRow.holds Tryz.pinned (OpenSpec.ofChange chunkDoesWrong)

/-- 'apographlaw08.ChunkKeeps': WHATEVER THE INPUT: true; the input reads as it did. -/
def chunkKeepsSpec : ChangeSpec := { name := "chunkKeeps", fn := fun _ => fun
  | [d1, d2, d3, d4] => { results := [.lit (.bool true)], args := [d1, d2, d3, d4] }
  | _ => none }
def chunkKeepsRow : OpenClaim := { program := "ytegadgncggbeoaagreat", sum := "c797dae2b8e420f87f7b66873a9ac728cc6a47d45eea43218df42ff30b143bfb", func := "apograph/apographlaw08.ChunkKeeps", spec := "chunkKeeps", inPlace := ["slices.overlaps[apograph/api.Span]", "slices.overlaps[uint64]"], unfollowed := true, recurses := true, apart := false }
def ChunkKeepsSaid : Prop := chunkKeepsRow.holds Tryz.pinned (OpenSpec.ofChange chunkKeepsSpec)

/-- ITS FALSE NEIGHBOUR: 'it returns false'. Refute it at one input. -/
def chunkKeepsWrong : ChangeSpec := { name := "chunkKeeps", fn := fun _ => fun
  | [d1, d2, d3, d4] => { results := [.lit (.bool false)], args := [d1, d2, d3, d4] }
  | _ => none }
def ChunkKeepsWrongFalsely : Prop := chunkKeepsRow.holds Tryz.pinned (OpenSpec.ofChange chunkKeepsWrong)

/-- 'apographlaw08.ChunkOpens': WHATEVER THE INPUT: true; the input reads as it did. -/
def chunkOpensSpec : ChangeSpec := { name := "chunkOpens", fn := fun _ => fun
  | [d1, d2, d3, d4, d5, d6] => { results := [.lit (.bool true)], args := [d1, d2, d3, d4, d5, d6] }
  | _ => none }
def chunkOpensRow : OpenClaim := { program := "ytegadgncggbeoaagreat", sum := "c797dae2b8e420f87f7b66873a9ac728cc6a47d45eea43218df42ff30b143bfb", func := "apograph/apographlaw08.ChunkOpens", spec := "chunkOpens", inPlace := ["slices.overlaps[apograph/api.Span]", "slices.overlaps[uint64]"], unfollowed := true, recurses := true, apart := false }
def ChunkOpensSaid : Prop := chunkOpensRow.holds Tryz.pinned (OpenSpec.ofChange chunkOpensSpec)

/-- ITS FALSE NEIGHBOUR: 'it returns false'. Refute it at one input. -/
def chunkOpensWrong : ChangeSpec := { name := "chunkOpens", fn := fun _ => fun
  | [d1, d2, d3, d4, d5, d6] => { results := [.lit (.bool false)], args := [d1, d2, d3, d4, d5, d6] }
  | _ => none }
def ChunkOpensWrongFalsely : Prop := chunkOpensRow.holds Tryz.pinned (OpenSpec.ofChange chunkOpensWrong)

/-- 'apographlaw08.ChunkOnce': WHATEVER THE INPUT: true; the input reads as it did. -/
def chunkOnceSpec : ChangeSpec := { name := "chunkOnce", fn := fun _ => fun
  | [d1, d2] => { results := [.lit (.bool true)], args := [d1, d2] }
  | _ => none }
def chunkOnceRow : OpenClaim := { program := "ytegadgncggbeoaagreat", sum := "c797dae2b8e420f87f7b66873a9ac728cc6a47d45eea43218df42ff30b143bfb", func := "apograph/apographlaw08.ChunkOnce", spec := "chunkOnce", inPlace := ["slices.overlaps[apograph/api.Span]", "slices.overlaps[uint64]"], unfollowed := true, recurses := true, apart := false }
def ChunkOnceSaid : Prop := chunkOnceRow.holds Tryz.pinned (OpenSpec.ofChange chunkOnceSpec)

/-- ITS FALSE NEIGHBOUR: 'it returns false'. Refute it at one input. -/
def chunkOnceWrong : ChangeSpec := { name := "chunkOnce", fn := fun _ => fun
  | [d1, d2] => { results := [.lit (.bool false)], args := [d1, d2] }
  | _ => none }
def ChunkOnceWrongFalsely : Prop := chunkOnceRow.holds Tryz.pinned (OpenSpec.ofChange chunkOnceWrong)

/- THE SECOND FORM. 'bulk': how many values and letters a reading holds, each counted each time it is reached (what is shared counts as often as it is met; a slice's spare places count too). A statement '..UptoSaid' is the law's where the arguments, and the package variables that the reading takes, are together of bulk at most 1048576: NARROWER than '..Said'. Prove '..Said' where nothing that the law and all that it calls make is longer than what came in: it says more and counts as full. Else prove '..UptoSaid'. A law counts once. -/
mutual
def uptoBulk {H : Type} : DataW H → Nat
  | .lit (.string bytes) => bytes.length + 1
  | .lit _ => 1
  | .nil => 1
  | .ptr d => uptoBulk d + 1
  | .slice elems spare => uptoBulkAll elems + uptoBulkAll spare + 1
  | .agg parts => uptoBulkAll parts + 1
  | .iface _ d => uptoBulk d + 1
  | .map entries => uptoBulkEntries entries + 1
  | .held _ => 1
def uptoBulkAll {H : Type} : List (DataW H) → Nat
  | [] => 0
  | d :: r => uptoBulk d + uptoBulkAll r
def uptoBulkEntries {H : Type} : List (Lit × DataW H) → Nat
  | [] => 0
  | x :: r => uptoBulkEntry x + uptoBulkEntries r
def uptoBulkEntry {H : Type} : Lit × DataW H → Nat
  | (.string bytes, d) => bytes.length + uptoBulk d + 1
  | (_, d) => uptoBulk d + 1
 end
def uptoSmall : (H : Type) → List (DataW H) → Bool := fun _ ds => decide (uptoBulkAll ds ≤ 1048576)
def OpenSpec.upto (s : _root_.Go.ChangeSpec) : _root_.Go.OpenSpec := { _root_.Go.OpenSpec.ofChange s with cond := some uptoSmall }

/-- 'apographlaw08.ChunkDoes', WHERE WHAT IT READS IS OF BULK AT MOST 1048576: true; the input reads as it did. -/
def chunkDoesUptoRow : OpenClaim := { program := "ytegadgncggbeoaagreat", sum := "c797dae2b8e420f87f7b66873a9ac728cc6a47d45eea43218df42ff30b143bfb", func := "apograph/apographlaw08.ChunkDoes", spec := "chunkDoes", inPlace := ["slices.overlaps[apograph/api.Span]", "slices.overlaps[uint64]"], unfollowed := true, recurses := true, apart := false, narrowed := true }
def ChunkDoesUptoSaid : Prop := chunkDoesUptoRow.holds Tryz.pinned (OpenSpec.upto chunkDoesSpec)

/-- 'apographlaw08.ChunkKeeps', WHERE WHAT IT READS IS OF BULK AT MOST 1048576: true; the input reads as it did. -/
def chunkKeepsUptoRow : OpenClaim := { program := "ytegadgncggbeoaagreat", sum := "c797dae2b8e420f87f7b66873a9ac728cc6a47d45eea43218df42ff30b143bfb", func := "apograph/apographlaw08.ChunkKeeps", spec := "chunkKeeps", inPlace := ["slices.overlaps[apograph/api.Span]", "slices.overlaps[uint64]"], unfollowed := true, recurses := true, apart := false, narrowed := true }
def ChunkKeepsUptoSaid : Prop := chunkKeepsUptoRow.holds Tryz.pinned (OpenSpec.upto chunkKeepsSpec)

/-- 'apographlaw08.ChunkOpens', WHERE WHAT IT READS IS OF BULK AT MOST 1048576: true; the input reads as it did. -/
def chunkOpensUptoRow : OpenClaim := { program := "ytegadgncggbeoaagreat", sum := "c797dae2b8e420f87f7b66873a9ac728cc6a47d45eea43218df42ff30b143bfb", func := "apograph/apographlaw08.ChunkOpens", spec := "chunkOpens", inPlace := ["slices.overlaps[apograph/api.Span]", "slices.overlaps[uint64]"], unfollowed := true, recurses := true, apart := false, narrowed := true }
def ChunkOpensUptoSaid : Prop := chunkOpensUptoRow.holds Tryz.pinned (OpenSpec.upto chunkOpensSpec)

/-- 'apographlaw08.ChunkOnce', WHERE WHAT IT READS IS OF BULK AT MOST 1048576: true; the input reads as it did. -/
def chunkOnceUptoRow : OpenClaim := { program := "ytegadgncggbeoaagreat", sum := "c797dae2b8e420f87f7b66873a9ac728cc6a47d45eea43218df42ff30b143bfb", func := "apograph/apographlaw08.ChunkOnce", spec := "chunkOnce", inPlace := ["slices.overlaps[apograph/api.Span]", "slices.overlaps[uint64]"], unfollowed := true, recurses := true, apart := false, narrowed := true }
def ChunkOnceUptoSaid : Prop := chunkOnceUptoRow.holds Tryz.pinned (OpenSpec.upto chunkOnceSpec)

end Rows
end Go.Proofs.YtegadgncggbeoaaGreat
