/-
  DERIVED. GIVEN WITH THE SEED: THE CARDS: each row of YtemgpghjolpneaaGreatDoorRows.lean that lists a variable, with what it lists TIED to the program's text (the seventh form; the later family's looks); each row that meets fmt, with fmt's text TOLD by the authors' own Lean function (tested against real Go, not proved from fmt's source: count such statements apart). THE CARD IS WHAT COUNTS. Prove the row's statement (the work); the ties are given (YtemgpghjolpneaaGreatDoorTie.lean); close each card by the builder's one call (the guide's Derived/Test/ToyasCard.lean, 'card_holds'). Laid BY PROGRAM, IN A SANDBOX (cutbox-door.mjs). By AI agents, Wed Nov 11 2026. No macro, syntax, notation, axiom, sorry.
-/
import Derived.Test.YtemgpghjolpneaaGreatDoorRows
import GoSem.ClaimSeven
namespace Go.Proofs.YtemgpghjolpneaaGreatDoor
namespace Rows

/-- THE TIED CARD OF 'haversacklaw10.HeaderEnvelopes'. -/
def headerEnvelopesCard : Claim7 := { stood := { row := headerEnvelopesRow, standIns := [], harness := (true, "a3a8ab80499e7b41dd7545364ddd411149356c9d8ccca9cf1ab273f4a50c074f"), looks := false }, kinds := [], alts := [], laidByText := true, laidKinds := [.data, .pinned], laidTests := true, laidLooks := .later }
def HeaderEnvelopesCardSaid : Prop := Claim7.holds Tryz.pinned (.plain (OpenSpec.ofChange headerEnvelopesSpec)) headerEnvelopesCard

/-- THE SECOND FORM's CARD OF 'haversacklaw10.HeaderEnvelopes'. -/
def headerEnvelopesUptoCard : Claim7 := { stood := { row := headerEnvelopesUptoRow, standIns := [], harness := (true, "a3a8ab80499e7b41dd7545364ddd411149356c9d8ccca9cf1ab273f4a50c074f"), looks := false }, kinds := [], alts := [], laidByText := true, laidKinds := [.data, .pinned], laidTests := true, laidLooks := .later }
def HeaderEnvelopesUptoCardSaid : Prop := Claim7.holds Tryz.pinned (.plain (OpenSpec.upto headerEnvelopesSpec)) headerEnvelopesUptoCard
end Rows
end Go.Proofs.YtemgpghjolpneaaGreatDoor
