/-
  DERIVED. GIVEN WITH THE SEED: THE CARDS: each row of YtmioidbffnjoiaaDoorRows.lean that lists a variable, with what it lists TIED to the program's text (the seventh form; the later family's looks); each row that meets fmt, with fmt's text TOLD by the authors' own Lean function (tested against real Go, not proved from fmt's source: count such statements apart). THE CARD IS WHAT COUNTS. Prove the row's statement (the work); the ties are given (YtmioidbffnjoiaaDoorTie.lean); close each card by the builder's one call (the guide's Derived/Test/ToyasCard.lean, 'card_holds'). Laid BY PROGRAM, IN A SANDBOX (cutbox-door.mjs). By AI agents, Wed Nov 11 2026. No macro, syntax, notation, axiom, sorry.
-/
import Derived.Test.YtmioidbffnjoiaaDoorRows
import GoSem.ClaimSeven
namespace Go.Proofs.YtmioidbffnjoiaaDoor
namespace Rows

/-- THE TIED CARD OF 'twinsteplaw03.TextsNumbers'. -/
def textsNumbersCard : Claim7 := { stood := { row := textsNumbersRow, standIns := [], harness := (true, "fd4f705df72b215194f35cc0c83c037762a51cefdd019f7a89b267f490b7df48"), looks := true }, kinds := [], alts := [], laidByText := true, laidKinds := [.data, .data, .data, .sentinel, .sentinel], laidTests := true, laidLooks := .later }
def TextsNumbersCardSaid : Prop := Claim7.holds Tryd.pinned (.plain (OpenSpec.ofChange textsNumbersSpec)) textsNumbersCard

/-- THE TIED CARD OF 'twinsteplaw03.TextsTells'. -/
def textsTellsCard : Claim7 := { stood := { row := textsTellsRow, standIns := [], harness := (true, "fd4f705df72b215194f35cc0c83c037762a51cefdd019f7a89b267f490b7df48"), looks := true }, kinds := [], alts := [], laidByText := true, laidKinds := [.data, .data, .data, .sentinel, .sentinel], laidTests := true, laidLooks := .later }
def TextsTellsCardSaid : Prop := Claim7.holds Tryd.pinned (.plain (OpenSpec.ofChange textsTellsSpec)) textsTellsCard

/-- THE TIED CARD OF 'twinsteplaw03.TextsBack'. -/
def textsBackCard : Claim7 := { stood := { row := textsBackRow, standIns := [], harness := (true, "fd4f705df72b215194f35cc0c83c037762a51cefdd019f7a89b267f490b7df48"), looks := true }, kinds := [], alts := [], laidByText := true, laidKinds := [.data, .data, .data, .sentinel, .sentinel], laidTests := true, laidLooks := .later }
def TextsBackCardSaid : Prop := Claim7.holds Tryd.pinned (.plain (OpenSpec.ofChange textsBackSpec)) textsBackCard

/-- THE TIED CARD OF 'twinsteplaw03.TextsOrder'. -/
def textsOrderCard : Claim7 := { stood := { row := textsOrderRow, standIns := [], harness := (true, "fd4f705df72b215194f35cc0c83c037762a51cefdd019f7a89b267f490b7df48"), looks := true }, kinds := [], alts := [], laidByText := true, laidKinds := [.data, .data, .data, .sentinel, .sentinel], laidTests := true, laidLooks := .later }
def TextsOrderCardSaid : Prop := Claim7.holds Tryd.pinned (.plain (OpenSpec.ofChange textsOrderSpec)) textsOrderCard

/-- THE SECOND FORM's CARD OF 'twinsteplaw03.TextsNumbers'. -/
def textsNumbersUptoCard : Claim7 := { stood := { row := textsNumbersUptoRow, standIns := [], harness := (true, "fd4f705df72b215194f35cc0c83c037762a51cefdd019f7a89b267f490b7df48"), looks := true }, kinds := [], alts := [], laidByText := true, laidKinds := [.data, .data, .data, .sentinel, .sentinel], laidTests := true, laidLooks := .later }
def TextsNumbersUptoCardSaid : Prop := Claim7.holds Tryd.pinned (.plain (OpenSpec.upto textsNumbersSpec)) textsNumbersUptoCard

/-- THE SECOND FORM's CARD OF 'twinsteplaw03.TextsTells'. -/
def textsTellsUptoCard : Claim7 := { stood := { row := textsTellsUptoRow, standIns := [], harness := (true, "fd4f705df72b215194f35cc0c83c037762a51cefdd019f7a89b267f490b7df48"), looks := true }, kinds := [], alts := [], laidByText := true, laidKinds := [.data, .data, .data, .sentinel, .sentinel], laidTests := true, laidLooks := .later }
def TextsTellsUptoCardSaid : Prop := Claim7.holds Tryd.pinned (.plain (OpenSpec.upto textsTellsSpec)) textsTellsUptoCard

/-- THE SECOND FORM's CARD OF 'twinsteplaw03.TextsBack'. -/
def textsBackUptoCard : Claim7 := { stood := { row := textsBackUptoRow, standIns := [], harness := (true, "fd4f705df72b215194f35cc0c83c037762a51cefdd019f7a89b267f490b7df48"), looks := true }, kinds := [], alts := [], laidByText := true, laidKinds := [.data, .data, .data, .sentinel, .sentinel], laidTests := true, laidLooks := .later }
def TextsBackUptoCardSaid : Prop := Claim7.holds Tryd.pinned (.plain (OpenSpec.upto textsBackSpec)) textsBackUptoCard

/-- THE SECOND FORM's CARD OF 'twinsteplaw03.TextsOrder'. -/
def textsOrderUptoCard : Claim7 := { stood := { row := textsOrderUptoRow, standIns := [], harness := (true, "fd4f705df72b215194f35cc0c83c037762a51cefdd019f7a89b267f490b7df48"), looks := true }, kinds := [], alts := [], laidByText := true, laidKinds := [.data, .data, .data, .sentinel, .sentinel], laidTests := true, laidLooks := .later }
def TextsOrderUptoCardSaid : Prop := Claim7.holds Tryd.pinned (.plain (OpenSpec.upto textsOrderSpec)) textsOrderUptoCard
end Rows
end Go.Proofs.YtmioidbffnjoiaaDoor
