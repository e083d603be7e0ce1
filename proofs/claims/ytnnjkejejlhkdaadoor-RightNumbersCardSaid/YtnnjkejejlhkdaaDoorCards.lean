/-
  DERIVED. GIVEN WITH THE SEED: THE CARDS: each row of YtnnjkejejlhkdaaDoorRows.lean that lists a variable, with what it lists TIED to the program's text (the seventh form; the later family's looks); each row that meets fmt, with fmt's text TOLD by the authors' own Lean function (tested against real Go, not proved from fmt's source: count such statements apart). THE CARD IS WHAT COUNTS. Prove the row's statement (the work); the ties are given (YtnnjkejejlhkdaaDoorTie.lean); close each card by the builder's one call (the guide's Derived/Test/ToyasCard.lean, 'card_holds'). Laid BY PROGRAM, IN A SANDBOX (cutbox-door.mjs). By AI agents, Wed Nov 11 2026. No macro, syntax, notation, axiom, sorry.
-/
import Derived.Test.YtnnjkejejlhkdaaDoorRows
import GoSem.ClaimSeven
namespace Go.Proofs.YtnnjkejejlhkdaaDoor
namespace Rows

/-- THE TIED CARD OF 'twinsteplaw09.RightNumbers'. -/
def rightNumbersCard : Claim7 := { stood := { row := rightNumbersRow, standIns := [], harness := (true, "5092cdd4a59e6449c708d75709fd6c7c582a43c2ebc06d9ada0672b5c73007a9"), looks := false }, kinds := [], alts := [], laidByText := true, laidKinds := [.data], laidTests := true, laidLooks := .later }
def RightNumbersCardSaid : Prop := Claim7.holds Tryd.pinned (.plain (OpenSpec.ofChange rightNumbersSpec)) rightNumbersCard

/-- THE SECOND FORM's CARD OF 'twinsteplaw09.RightNumbers'. -/
def rightNumbersUptoCard : Claim7 := { stood := { row := rightNumbersUptoRow, standIns := [], harness := (true, "5092cdd4a59e6449c708d75709fd6c7c582a43c2ebc06d9ada0672b5c73007a9"), looks := false }, kinds := [], alts := [], laidByText := true, laidKinds := [.data], laidTests := true, laidLooks := .later }
def RightNumbersUptoCardSaid : Prop := Claim7.holds Tryd.pinned (.plain (OpenSpec.upto rightNumbersSpec)) rightNumbersUptoCard
end Rows
end Go.Proofs.YtnnjkejejlhkdaaDoor
