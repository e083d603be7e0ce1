/-
  DERIVED. GIVEN WITH THE SEED: THE CARDS: each row of YtboclbmankbngaaDoorRows.lean that lists a variable, with what it lists TIED to the program's text (the seventh form; the later family's looks); each row that meets fmt, with fmt's text TOLD by the authors' own Lean function (tested against real Go, not proved from fmt's source: count such statements apart). THE CARD IS WHAT COUNTS. Prove the row's statement (the work); the ties are given (YtboclbmankbngaaDoorTie.lean); close each card by the builder's one call (the guide's Derived/Test/ToyasCard.lean, 'card_holds'). Laid BY PROGRAM, IN A SANDBOX (cutbox-door.mjs). By AI agents, Wed Nov 11 2026. No macro, syntax, notation, axiom, sorry.
-/
import Derived.Test.YtboclbmankbngaaDoorRows
import GoSem.ClaimSeven
namespace Go.Proofs.YtboclbmankbngaaDoor
namespace Rows

/-- THE TIED CARD OF 'twinsteplaw02.IntsNumbers'. -/
def intsNumbersCard : Claim7 := { stood := { row := intsNumbersRow, standIns := [], harness := (true, "b3c743a9ec15667d6db3458cc9e69f822c5d1b8bf3935b76ec23fd808672a8b2"), looks := true }, kinds := [], alts := [], laidByText := true, laidKinds := [.data, .data, .data, .sentinel, .sentinel], laidTests := true, laidLooks := .later }
def IntsNumbersCardSaid : Prop := Claim7.holds Tryd.pinned (.plain (OpenSpec.ofChange intsNumbersSpec)) intsNumbersCard

/-- THE TIED CARD OF 'twinsteplaw02.IntsTells'. -/
def intsTellsCard : Claim7 := { stood := { row := intsTellsRow, standIns := [], harness := (true, "b3c743a9ec15667d6db3458cc9e69f822c5d1b8bf3935b76ec23fd808672a8b2"), looks := true }, kinds := [], alts := [], laidByText := true, laidKinds := [.data, .data, .data, .sentinel, .sentinel], laidTests := true, laidLooks := .later }
def IntsTellsCardSaid : Prop := Claim7.holds Tryd.pinned (.plain (OpenSpec.ofChange intsTellsSpec)) intsTellsCard

/-- THE TIED CARD OF 'twinsteplaw02.IntsRings'. -/
def intsRingsCard : Claim7 := { stood := { row := intsRingsRow, standIns := [], harness := (true, "b3c743a9ec15667d6db3458cc9e69f822c5d1b8bf3935b76ec23fd808672a8b2"), looks := true }, kinds := [], alts := [], laidByText := true, laidKinds := [.data, .data, .data, .sentinel, .sentinel], laidTests := true, laidLooks := .later }
def IntsRingsCardSaid : Prop := Claim7.holds Tryd.pinned (.plain (OpenSpec.ofChange intsRingsSpec)) intsRingsCard

/-- THE TIED CARD OF 'twinsteplaw02.IntsShifts'. -/
def intsShiftsCard : Claim7 := { stood := { row := intsShiftsRow, standIns := [], harness := (true, "b3c743a9ec15667d6db3458cc9e69f822c5d1b8bf3935b76ec23fd808672a8b2"), looks := true }, kinds := [], alts := [], laidByText := true, laidKinds := [.data, .data, .data, .sentinel, .sentinel], laidTests := true, laidLooks := .later }
def IntsShiftsCardSaid : Prop := Claim7.holds Tryd.pinned (.plain (OpenSpec.ofChange intsShiftsSpec)) intsShiftsCard

/-- THE TIED CARD OF 'twinsteplaw02.IntsBack'. -/
def intsBackCard : Claim7 := { stood := { row := intsBackRow, standIns := [], harness := (true, "b3c743a9ec15667d6db3458cc9e69f822c5d1b8bf3935b76ec23fd808672a8b2"), looks := true }, kinds := [], alts := [], laidByText := true, laidKinds := [.data, .data, .data, .sentinel, .sentinel], laidTests := true, laidLooks := .later }
def IntsBackCardSaid : Prop := Claim7.holds Tryd.pinned (.plain (OpenSpec.ofChange intsBackSpec)) intsBackCard

/-- THE SECOND FORM's CARD OF 'twinsteplaw02.IntsNumbers'. -/
def intsNumbersUptoCard : Claim7 := { stood := { row := intsNumbersUptoRow, standIns := [], harness := (true, "b3c743a9ec15667d6db3458cc9e69f822c5d1b8bf3935b76ec23fd808672a8b2"), looks := true }, kinds := [], alts := [], laidByText := true, laidKinds := [.data, .data, .data, .sentinel, .sentinel], laidTests := true, laidLooks := .later }
def IntsNumbersUptoCardSaid : Prop := Claim7.holds Tryd.pinned (.plain (OpenSpec.upto intsNumbersSpec)) intsNumbersUptoCard

/-- THE SECOND FORM's CARD OF 'twinsteplaw02.IntsTells'. -/
def intsTellsUptoCard : Claim7 := { stood := { row := intsTellsUptoRow, standIns := [], harness := (true, "b3c743a9ec15667d6db3458cc9e69f822c5d1b8bf3935b76ec23fd808672a8b2"), looks := true }, kinds := [], alts := [], laidByText := true, laidKinds := [.data, .data, .data, .sentinel, .sentinel], laidTests := true, laidLooks := .later }
def IntsTellsUptoCardSaid : Prop := Claim7.holds Tryd.pinned (.plain (OpenSpec.upto intsTellsSpec)) intsTellsUptoCard

/-- THE SECOND FORM's CARD OF 'twinsteplaw02.IntsRings'. -/
def intsRingsUptoCard : Claim7 := { stood := { row := intsRingsUptoRow, standIns := [], harness := (true, "b3c743a9ec15667d6db3458cc9e69f822c5d1b8bf3935b76ec23fd808672a8b2"), looks := true }, kinds := [], alts := [], laidByText := true, laidKinds := [.data, .data, .data, .sentinel, .sentinel], laidTests := true, laidLooks := .later }
def IntsRingsUptoCardSaid : Prop := Claim7.holds Tryd.pinned (.plain (OpenSpec.upto intsRingsSpec)) intsRingsUptoCard

/-- THE SECOND FORM's CARD OF 'twinsteplaw02.IntsShifts'. -/
def intsShiftsUptoCard : Claim7 := { stood := { row := intsShiftsUptoRow, standIns := [], harness := (true, "b3c743a9ec15667d6db3458cc9e69f822c5d1b8bf3935b76ec23fd808672a8b2"), looks := true }, kinds := [], alts := [], laidByText := true, laidKinds := [.data, .data, .data, .sentinel, .sentinel], laidTests := true, laidLooks := .later }
def IntsShiftsUptoCardSaid : Prop := Claim7.holds Tryd.pinned (.plain (OpenSpec.upto intsShiftsSpec)) intsShiftsUptoCard

/-- THE SECOND FORM's CARD OF 'twinsteplaw02.IntsBack'. -/
def intsBackUptoCard : Claim7 := { stood := { row := intsBackUptoRow, standIns := [], harness := (true, "b3c743a9ec15667d6db3458cc9e69f822c5d1b8bf3935b76ec23fd808672a8b2"), looks := true }, kinds := [], alts := [], laidByText := true, laidKinds := [.data, .data, .data, .sentinel, .sentinel], laidTests := true, laidLooks := .later }
def IntsBackUptoCardSaid : Prop := Claim7.holds Tryd.pinned (.plain (OpenSpec.upto intsBackSpec)) intsBackUptoCard
end Rows
end Go.Proofs.YtboclbmankbngaaDoor
