/-
  DERIVED. GIVEN WITH THE SEED: THE CARDS: each row of YtldjjcpfldaefaaDoorRows.lean that lists a variable, with what it lists TIED to the program's text (the seventh form; the later family's looks); each row that meets fmt, with fmt's text TOLD by the authors' own Lean function (tested against real Go, not proved from fmt's source: count such statements apart). THE CARD IS WHAT COUNTS. Prove the row's statement (the work); the ties are given (YtldjjcpfldaefaaDoorTie.lean); close each card by the builder's one call (the guide's Derived/Test/ToyasCard.lean, 'card_holds'). Laid BY PROGRAM, IN A SANDBOX (cutbox-door.mjs). By AI agents, Wed Nov 11 2026. No macro, syntax, notation, axiom, sorry.
-/
import Derived.Test.YtldjjcpfldaefaaDoorRows
import GoSem.ClaimSeven
namespace Go.Proofs.YtldjjcpfldaefaaDoor
namespace Rows

/-- THE TIED CARD OF 'twinsteplaw09.RightNumbers'. -/
def rightNumbersCard : Claim7 := { stood := { row := rightNumbersRow, standIns := [], harness := (true, "1987dc916a11c92af3faeec946b15cbe6db3a1ddd53aac4df34c3c896319eb21"), looks := false }, kinds := [], alts := [], laidByText := true, laidKinds := [.data], laidTests := true, laidLooks := .later }
def RightNumbersCardSaid : Prop := Claim7.holds Tryd.pinned (.plain (OpenSpec.ofChange rightNumbersSpec)) rightNumbersCard

/-- THE TIED CARD OF 'twinsteplaw09.RightWays'. -/
def rightWaysCard : Claim7 := { stood := { row := rightWaysRow, standIns := [], harness := (true, "1987dc916a11c92af3faeec946b15cbe6db3a1ddd53aac4df34c3c896319eb21"), looks := false }, kinds := [], alts := [], laidByText := true, laidKinds := [.data], laidTests := true, laidLooks := .later }
def RightWaysCardSaid : Prop := Claim7.holds Tryd.pinned (.plain (OpenSpec.ofChange rightWaysSpec)) rightWaysCard

/-- THE SECOND FORM's CARD OF 'twinsteplaw09.RightNumbers'. -/
def rightNumbersUptoCard : Claim7 := { stood := { row := rightNumbersUptoRow, standIns := [], harness := (true, "1987dc916a11c92af3faeec946b15cbe6db3a1ddd53aac4df34c3c896319eb21"), looks := false }, kinds := [], alts := [], laidByText := true, laidKinds := [.data], laidTests := true, laidLooks := .later }
def RightNumbersUptoCardSaid : Prop := Claim7.holds Tryd.pinned (.plain (OpenSpec.upto rightNumbersSpec)) rightNumbersUptoCard

/-- THE SECOND FORM's CARD OF 'twinsteplaw09.RightWays'. -/
def rightWaysUptoCard : Claim7 := { stood := { row := rightWaysUptoRow, standIns := [], harness := (true, "1987dc916a11c92af3faeec946b15cbe6db3a1ddd53aac4df34c3c896319eb21"), looks := false }, kinds := [], alts := [], laidByText := true, laidKinds := [.data], laidTests := true, laidLooks := .later }
def RightWaysUptoCardSaid : Prop := Claim7.holds Tryd.pinned (.plain (OpenSpec.upto rightWaysSpec)) rightWaysUptoCard
end Rows
end Go.Proofs.YtldjjcpfldaefaaDoor
