/-
  DERIVED. GIVEN WITH THE SEED: THE CARDS: each row of YtefahnpnkaaljaaGreatDoorRows.lean that lists a variable, with what it lists TIED to the program's text (the seventh form; the later family's looks); each row that meets fmt, with fmt's text TOLD by the authors' own Lean function (tested against real Go, not proved from fmt's source: count such statements apart). THE CARD IS WHAT COUNTS. Prove the row's statement (the work); the ties are given (YtefahnpnkaaljaaGreatDoorTie.lean); close each card by the builder's one call (the guide's Derived/Test/ToyasCard.lean, 'card_holds'). Laid BY PROGRAM, IN A SANDBOX (cutbox-door.mjs). By AI agents, Wed Nov 11 2026. No macro, syntax, notation, axiom, sorry.
-/
import Derived.Test.YtefahnpnkaaljaaGreatDoorRows
import GoSem.ClaimSeven
namespace Go.Proofs.YtefahnpnkaaljaaGreatDoor
namespace Rows

/-- THE TIED CARD OF 'affidavitlaw24.EnvelopeNames'. -/
def envelopeNamesCard : Claim7 := { stood := { row := envelopeNamesRow, standIns := [], harness := (true, "b01da49e90e5d4452dfd9b1966f3849494d8ef830d0fd6d2a5b682636cb2cb05"), looks := true }, kinds := [], alts := [], laidByText := true, laidKinds := [.data, .data, .data, .data, .data, .pinned], laidTests := true, laidLooks := .later }
def EnvelopeNamesCardSaid : Prop := Claim7.holds Tryz.pinned (.plain (OpenSpec.ofChange envelopeNamesSpec)) envelopeNamesCard

/-- THE SECOND FORM's CARD OF 'affidavitlaw24.EnvelopeNames'. -/
def envelopeNamesUptoCard : Claim7 := { stood := { row := envelopeNamesUptoRow, standIns := [], harness := (true, "b01da49e90e5d4452dfd9b1966f3849494d8ef830d0fd6d2a5b682636cb2cb05"), looks := true }, kinds := [], alts := [], laidByText := true, laidKinds := [.data, .data, .data, .data, .data, .pinned], laidTests := true, laidLooks := .later }
def EnvelopeNamesUptoCardSaid : Prop := Claim7.holds Tryz.pinned (.plain (OpenSpec.upto envelopeNamesSpec)) envelopeNamesUptoCard
end Rows
end Go.Proofs.YtefahnpnkaaljaaGreatDoor
