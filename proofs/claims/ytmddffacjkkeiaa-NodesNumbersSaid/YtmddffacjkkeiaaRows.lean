/-
  No cell of these rows narrows 'for every input' (looked for: loops, veiled, ifaces, maps, wideKeys, modest, calm, conditions, laid).
  DERIVED. THE GIVEN ROWS OF THIS SEAT. 2 by the template 'for every input the law returns true; each argument reads behind the call as it read before'; 0 by the template 'total and deterministic' (their statements: YtmddffacjkkeiaaTotals.lean).
  GIVEN WITH THE SEED: the statements are not yours to turn. If you find one false, say at which input.
  Laid BY PROGRAM, IN A SANDBOX (cutbox-rows.mjs): the forced cells as the released guide's own fill.sh prints them over the translation 24a6f283404c737a… (all of the seat's roots in one cut). By AI agents, Wed Nov 11 2026. No macro, syntax, notation, axiom, sorry.
-/
import Derived.Test.YtmddffacjkkeiaaChecked
import GoSem.Claim
import GoSem.ClaimJoined
import GoSem.ClaimMapViews
import Derived.JoinedTies
import Derived.KernelRfl
namespace Go.Proofs.Ytmddffacjkkeiaa
/- THE CELL 'sum', in the pinned program and in every row, IS THE sha256 OF THE DUMP (.gsa) THAT YtmddffacjkkeiaaProg.lean LOADS. Nothing in Lean hashes anything: it is a label: what it is worth is what the hold of that sum in a sandbox is worth. -/
noncomputable def Try.pinned : Pinned := { name := "ytmddffacjkkeiaa", sum := "24a6f283404c737a7d9f931ad24fbc6faa23cd34d9eb582448ab4f9aeb841d16", checked := Try.checked }
namespace Rows
def none {H : Type} : Left H := { results := [], args := [] }

/-- 'twinsteplaw05.NodesNumbers': WHATEVER THE INPUT: true; the input reads as it did. -/
def nodesNumbersSpec : ChangeSpec := { name := "nodesNumbers", fn := fun _ => fun
  | [] => { results := [.lit (.bool true)], args := [] }
  | _ => none }
def nodesNumbersRow : OpenClaim := { program := "ytmddffacjkkeiaa", sum := "24a6f283404c737a7d9f931ad24fbc6faa23cd34d9eb582448ab4f9aeb841d16", func := "twinstep/twinsteplaw05.NodesNumbers", spec := "nodesNumbers", unfollowed := true, recurses := true, apart := false }
def NodesNumbersSaid : Prop := nodesNumbersRow.holds Try.pinned (OpenSpec.ofChange nodesNumbersSpec)

/-- ITS FALSE NEIGHBOUR: 'it returns false'. Refute it at one input. -/
def nodesNumbersWrong : ChangeSpec := { name := "nodesNumbers", fn := fun _ => fun
  | [] => { results := [.lit (.bool false)], args := [] }
  | _ => none }
def NodesNumbersWrongFalsely : Prop := nodesNumbersRow.holds Try.pinned (OpenSpec.ofChange nodesNumbersWrong)

/-- 'twinsteplaw05.NodesMoved': WHATEVER THE INPUT: true; the input reads as it did. -/
def nodesMovedSpec : ChangeSpec := { name := "nodesMoved", fn := fun _ => fun
  | [d1, d2, d3] => { results := [.lit (.bool true)], args := [d1, d2, d3] }
  | _ => none }
def nodesMovedRow : OpenClaim := { program := "ytmddffacjkkeiaa", sum := "24a6f283404c737a7d9f931ad24fbc6faa23cd34d9eb582448ab4f9aeb841d16", func := "twinstep/twinsteplaw05.NodesMoved", spec := "nodesMoved", unfollowed := true, recurses := true, apart := false }
def NodesMovedSaid : Prop := nodesMovedRow.holds Try.pinned (OpenSpec.ofChange nodesMovedSpec)

/-- ITS FALSE NEIGHBOUR: 'it returns false'. Refute it at one input. -/
def nodesMovedWrong : ChangeSpec := { name := "nodesMoved", fn := fun _ => fun
  | [d1, d2, d3] => { results := [.lit (.bool false)], args := [d1, d2, d3] }
  | _ => none }
def NodesMovedWrongFalsely : Prop := nodesMovedRow.holds Try.pinned (OpenSpec.ofChange nodesMovedWrong)

/- THE SECOND FORM. 'bulk': how many values and letters a reading holds, each counted each time it is reached (what is shared counts as often as it is met; a slice's spare places count too). A statement '..UptoSaid' is the law's where the arguments, and the package variables that the reading takes, are together of bulk at most 1048576: NARROWER than '..Said'. Prove '..Said' where nothing that the law and all that it calls make is longer than what came in: it says more and counts as full. Else prove '..UptoSaid'. A law counts once. -/
mutual
def uptoBulk {H : Type} : DataW H → Nat
  | .lit (.string bytes) => bytes.length + 1
  | .lit _ => 1
  | .nil => 1
  | .ptr d => uptoBulk d + 1
  | .slice elems spare => uptoBulkAll elems + uptoBulkAll spare + 1
  | .agg parts => uptoBulkAll parts + 1
  | .iface _ d => uptoBulk d + 1
  | .map entries => uptoBulkEntries entries + 1
  | .held _ => 1
def uptoBulkAll {H : Type} : List (DataW H) → Nat
  | [] => 0
  | d :: r => uptoBulk d + uptoBulkAll r
def uptoBulkEntries {H : Type} : List (Lit × DataW H) → Nat
  | [] => 0
  | x :: r => uptoBulkEntry x + uptoBulkEntries r
def uptoBulkEntry {H : Type} : Lit × DataW H → Nat
  | (.string bytes, d) => bytes.length + uptoBulk d + 1
  | (_, d) => uptoBulk d + 1
 end
def uptoSmall : (H : Type) → List (DataW H) → Bool := fun _ ds => decide (uptoBulkAll ds ≤ 1048576)
def OpenSpec.upto (s : _root_.Go.ChangeSpec) : _root_.Go.OpenSpec := { _root_.Go.OpenSpec.ofChange s with cond := some uptoSmall }

/-- 'twinsteplaw05.NodesNumbers', WHERE WHAT IT READS IS OF BULK AT MOST 1048576: true; the input reads as it did. -/
def nodesNumbersUptoRow : OpenClaim := { program := "ytmddffacjkkeiaa", sum := "24a6f283404c737a7d9f931ad24fbc6faa23cd34d9eb582448ab4f9aeb841d16", func := "twinstep/twinsteplaw05.NodesNumbers", spec := "nodesNumbers", unfollowed := true, recurses := true, apart := false, narrowed := true }
def NodesNumbersUptoSaid : Prop := nodesNumbersUptoRow.holds Try.pinned (OpenSpec.upto nodesNumbersSpec)

/-- 'twinsteplaw05.NodesMoved', WHERE WHAT IT READS IS OF BULK AT MOST 1048576: true; the input reads as it did. -/
def nodesMovedUptoRow : OpenClaim := { program := "ytmddffacjkkeiaa", sum := "24a6f283404c737a7d9f931ad24fbc6faa23cd34d9eb582448ab4f9aeb841d16", func := "twinstep/twinsteplaw05.NodesMoved", spec := "nodesMoved", unfollowed := true, recurses := true, apart := false, narrowed := true }
def NodesMovedUptoSaid : Prop := nodesMovedUptoRow.holds Try.pinned (OpenSpec.upto nodesMovedSpec)

end Rows
end Go.Proofs.Ytmddffacjkkeiaa
