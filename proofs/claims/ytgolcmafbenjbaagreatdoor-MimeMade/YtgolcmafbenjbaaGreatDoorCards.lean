/-
  DERIVED. GIVEN WITH THE SEED: THE CARDS: each row of YtgolcmafbenjbaaGreatDoorRows.lean that lists a variable, with what it lists TIED to the program's text (the seventh form; the later family's looks); each row that meets fmt, with fmt's text TOLD by the authors' own Lean function (tested against real Go, not proved from fmt's source: count such statements apart). THE CARD IS WHAT COUNTS. Prove the row's statement (the work); the ties are given (YtgolcmafbenjbaaGreatDoorTie.lean); close each card by the builder's one call (the guide's Derived/Test/ToyasCard.lean, 'card_holds'). Laid BY PROGRAM, IN A SANDBOX (cutbox-door.mjs). By AI agents, Wed Nov 11 2026. No macro, syntax, notation, axiom, sorry.
-/
import Derived.Test.YtgolcmafbenjbaaGreatDoorRows
import GoSem.ClaimSeven
namespace Go.Proofs.YtgolcmafbenjbaaGreatDoor
namespace Rows

/-- THE TIED CARD OF 'haversacklaw11.MimeKinds'. -/
def mimeKindsCard : Claim7 := { stood := { row := mimeKindsRow, standIns := [], harness := (true, "f69f79eea7b3dd813873d2fe0870797674157c2ccc2e72b9d2fa717240112c01"), looks := false }, kinds := [], alts := [], laidByText := true, laidKinds := [.data, .pinned], laidTests := true, laidLooks := .later }
def MimeKindsCardSaid : Prop := Claim7.holds Tryz.pinned (.plain (OpenSpec.ofChange mimeKindsSpec)) mimeKindsCard

/-- THE TIED CARD OF 'haversacklaw11.MimePartial'. -/
def mimePartialCard : Claim7 := { stood := { row := mimePartialRow, standIns := [], harness := (true, "f69f79eea7b3dd813873d2fe0870797674157c2ccc2e72b9d2fa717240112c01"), looks := false }, kinds := [], alts := [], laidByText := true, laidKinds := [.data, .pinned], laidTests := true, laidLooks := .later }
def MimePartialCardSaid : Prop := Claim7.holds Tryz.pinned (.plain (OpenSpec.ofChange mimePartialSpec)) mimePartialCard

/-- THE TIED CARD OF 'haversacklaw11.MimePlaces'. -/
def mimePlacesCard : Claim7 := { stood := { row := mimePlacesRow, standIns := [], harness := (true, "f69f79eea7b3dd813873d2fe0870797674157c2ccc2e72b9d2fa717240112c01"), looks := false }, kinds := [], alts := [], laidByText := true, laidKinds := [.data, .pinned], laidTests := true, laidLooks := .later }
def MimePlacesCardSaid : Prop := Claim7.holds Tryz.pinned (.plain (OpenSpec.ofChange mimePlacesSpec)) mimePlacesCard

/-- THE TIED CARD OF 'haversacklaw11.MimeMade'. -/
def mimeMadeCard : Claim7 := { stood := { row := mimeMadeRow, standIns := [], harness := (true, "f69f79eea7b3dd813873d2fe0870797674157c2ccc2e72b9d2fa717240112c01"), looks := false }, kinds := [], alts := [], laidByText := true, laidKinds := [.data, .pinned], laidTests := true, laidLooks := .later }
def MimeMadeCardSaid : Prop := Claim7.holds Tryz.pinned (.plain (OpenSpec.ofChange mimeMadeSpec)) mimeMadeCard

/-- THE TIED CARD OF 'haversacklaw11.MimeNested'. -/
def mimeNestedCard : Claim7 := { stood := { row := mimeNestedRow, standIns := [], harness := (true, "f69f79eea7b3dd813873d2fe0870797674157c2ccc2e72b9d2fa717240112c01"), looks := false }, kinds := [], alts := [], laidByText := true, laidKinds := [.data, .pinned], laidTests := true, laidLooks := .later }
def MimeNestedCardSaid : Prop := Claim7.holds Tryz.pinned (.plain (OpenSpec.ofChange mimeNestedSpec)) mimeNestedCard

/-- THE SECOND FORM's CARD OF 'haversacklaw11.MimeKinds'. -/
def mimeKindsUptoCard : Claim7 := { stood := { row := mimeKindsUptoRow, standIns := [], harness := (true, "f69f79eea7b3dd813873d2fe0870797674157c2ccc2e72b9d2fa717240112c01"), looks := false }, kinds := [], alts := [], laidByText := true, laidKinds := [.data, .pinned], laidTests := true, laidLooks := .later }
def MimeKindsUptoCardSaid : Prop := Claim7.holds Tryz.pinned (.plain (OpenSpec.upto mimeKindsSpec)) mimeKindsUptoCard

/-- THE SECOND FORM's CARD OF 'haversacklaw11.MimePartial'. -/
def mimePartialUptoCard : Claim7 := { stood := { row := mimePartialUptoRow, standIns := [], harness := (true, "f69f79eea7b3dd813873d2fe0870797674157c2ccc2e72b9d2fa717240112c01"), looks := false }, kinds := [], alts := [], laidByText := true, laidKinds := [.data, .pinned], laidTests := true, laidLooks := .later }
def MimePartialUptoCardSaid : Prop := Claim7.holds Tryz.pinned (.plain (OpenSpec.upto mimePartialSpec)) mimePartialUptoCard

/-- THE SECOND FORM's CARD OF 'haversacklaw11.MimePlaces'. -/
def mimePlacesUptoCard : Claim7 := { stood := { row := mimePlacesUptoRow, standIns := [], harness := (true, "f69f79eea7b3dd813873d2fe0870797674157c2ccc2e72b9d2fa717240112c01"), looks := false }, kinds := [], alts := [], laidByText := true, laidKinds := [.data, .pinned], laidTests := true, laidLooks := .later }
def MimePlacesUptoCardSaid : Prop := Claim7.holds Tryz.pinned (.plain (OpenSpec.upto mimePlacesSpec)) mimePlacesUptoCard

/-- THE SECOND FORM's CARD OF 'haversacklaw11.MimeMade'. -/
def mimeMadeUptoCard : Claim7 := { stood := { row := mimeMadeUptoRow, standIns := [], harness := (true, "f69f79eea7b3dd813873d2fe0870797674157c2ccc2e72b9d2fa717240112c01"), looks := false }, kinds := [], alts := [], laidByText := true, laidKinds := [.data, .pinned], laidTests := true, laidLooks := .later }
def MimeMadeUptoCardSaid : Prop := Claim7.holds Tryz.pinned (.plain (OpenSpec.upto mimeMadeSpec)) mimeMadeUptoCard

/-- THE SECOND FORM's CARD OF 'haversacklaw11.MimeNested'. -/
def mimeNestedUptoCard : Claim7 := { stood := { row := mimeNestedUptoRow, standIns := [], harness := (true, "f69f79eea7b3dd813873d2fe0870797674157c2ccc2e72b9d2fa717240112c01"), looks := false }, kinds := [], alts := [], laidByText := true, laidKinds := [.data, .pinned], laidTests := true, laidLooks := .later }
def MimeNestedUptoCardSaid : Prop := Claim7.holds Tryz.pinned (.plain (OpenSpec.upto mimeNestedSpec)) mimeNestedUptoCard
end Rows
end Go.Proofs.YtgolcmafbenjbaaGreatDoor
