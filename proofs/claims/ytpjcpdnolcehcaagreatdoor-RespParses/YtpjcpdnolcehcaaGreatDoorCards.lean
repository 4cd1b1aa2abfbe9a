/-
  DERIVED. GIVEN WITH THE SEED: THE CARDS: each row of YtpjcpdnolcehcaaGreatDoorRows.lean that lists a variable, with what it lists TIED to the program's text (the seventh form; the later family's looks); each row that meets fmt, with fmt's text TOLD by the authors' own Lean function (tested against real Go, not proved from fmt's source: count such statements apart). THE CARD IS WHAT COUNTS. Prove the row's statement (the work); the ties are given (YtpjcpdnolcehcaaGreatDoorTie.lean); close each card by the builder's one call (the guide's Derived/Test/ToyasCard.lean, 'card_holds'). Laid BY PROGRAM, IN A SANDBOX (cutbox-door.mjs). By AI agents, Wed Nov 11 2026. No macro, syntax, notation, axiom, sorry.
-/
import Derived.Test.YtpjcpdnolcehcaaGreatDoorRows
import GoSem.ClaimSeven
namespace Go.Proofs.YtpjcpdnolcehcaaGreatDoor
namespace Rows

/-- THE TIED CARD OF 'haversacklaw15.RespPrints'. -/
def respPrintsCard : Claim7 := { stood := { row := respPrintsRow, standIns := [], harness := (true, "47d86c41fbdfcf92bd55a80e2de25950bcd66459929bce0633f885e43268944e"), looks := true }, kinds := [], alts := [], laidByText := true, laidKinds := [.data, .data, .data, .data, .sentinel, .sentinel, .data, .data, .pinned, .pinned], laidTests := true, laidLooks := .later }
def RespPrintsCardSaid : Prop := Claim7.holds Tryz.pinned (.plain (OpenSpec.ofChange respPrintsSpec)) respPrintsCard

/-- THE TIED CARD OF 'haversacklaw15.RespParses'. -/
def respParsesCard : Claim7 := { stood := { row := respParsesRow, standIns := [], harness := (true, "47d86c41fbdfcf92bd55a80e2de25950bcd66459929bce0633f885e43268944e"), looks := true }, kinds := [], alts := [], laidByText := true, laidKinds := [.data, .data, .data, .data, .sentinel, .sentinel, .data, .data, .pinned, .pinned], laidTests := true, laidLooks := .later }
def RespParsesCardSaid : Prop := Claim7.holds Tryz.pinned (.plain (OpenSpec.ofChange respParsesSpec)) respParsesCard

/-- THE TIED CARD OF 'haversacklaw15.RespBack'. -/
def respBackCard : Claim7 := { stood := { row := respBackRow, standIns := [], harness := (true, "47d86c41fbdfcf92bd55a80e2de25950bcd66459929bce0633f885e43268944e"), looks := true }, kinds := [], alts := [], laidByText := true, laidKinds := [.data, .data, .data, .data, .sentinel, .sentinel, .data, .data, .pinned, .pinned], laidTests := true, laidLooks := .later }
def RespBackCardSaid : Prop := Claim7.holds Tryz.pinned (.plain (OpenSpec.ofChange respBackSpec)) respBackCard

/-- THE TIED CARD OF 'haversacklaw15.RespLines'. -/
def respLinesCard : Claim7 := { stood := { row := respLinesRow, standIns := [], harness := (true, "47d86c41fbdfcf92bd55a80e2de25950bcd66459929bce0633f885e43268944e"), looks := true }, kinds := [], alts := [], laidByText := true, laidKinds := [.data, .data, .data, .data, .sentinel, .sentinel, .data, .data, .pinned, .pinned], laidTests := true, laidLooks := .later }
def RespLinesCardSaid : Prop := Claim7.holds Tryz.pinned (.plain (OpenSpec.ofChange respLinesSpec)) respLinesCard

/-- THE TIED CARD OF 'haversacklaw15.RespMade'. -/
def respMadeCard : Claim7 := { stood := { row := respMadeRow, standIns := [], harness := (true, "47d86c41fbdfcf92bd55a80e2de25950bcd66459929bce0633f885e43268944e"), looks := true }, kinds := [], alts := [], laidByText := true, laidKinds := [.data, .data, .data, .data, .sentinel, .sentinel, .data, .data, .pinned, .pinned], laidTests := true, laidLooks := .later }
def RespMadeCardSaid : Prop := Claim7.holds Tryz.pinned (.plain (OpenSpec.ofChange respMadeSpec)) respMadeCard

/-- THE TIED CARD OF 'haversacklaw15.RespStrings'. -/
def respStringsCard : Claim7 := { stood := { row := respStringsRow, standIns := [], harness := (true, "47d86c41fbdfcf92bd55a80e2de25950bcd66459929bce0633f885e43268944e"), looks := true }, kinds := [], alts := [], laidByText := true, laidKinds := [.data, .data, .data, .data, .sentinel, .sentinel, .data, .data, .pinned, .pinned], laidTests := true, laidLooks := .later }
def RespStringsCardSaid : Prop := Claim7.holds Tryz.pinned (.plain (OpenSpec.ofChange respStringsSpec)) respStringsCard

/-- THE SECOND FORM's CARD OF 'haversacklaw15.RespPrints'. -/
def respPrintsUptoCard : Claim7 := { stood := { row := respPrintsUptoRow, standIns := [], harness := (true, "47d86c41fbdfcf92bd55a80e2de25950bcd66459929bce0633f885e43268944e"), looks := true }, kinds := [], alts := [], laidByText := true, laidKinds := [.data, .data, .data, .data, .sentinel, .sentinel, .data, .data, .pinned, .pinned], laidTests := true, laidLooks := .later }
def RespPrintsUptoCardSaid : Prop := Claim7.holds Tryz.pinned (.plain (OpenSpec.upto respPrintsSpec)) respPrintsUptoCard

/-- THE SECOND FORM's CARD OF 'haversacklaw15.RespParses'. -/
def respParsesUptoCard : Claim7 := { stood := { row := respParsesUptoRow, standIns := [], harness := (true, "47d86c41fbdfcf92bd55a80e2de25950bcd66459929bce0633f885e43268944e"), looks := true }, kinds := [], alts := [], laidByText := true, laidKinds := [.data, .data, .data, .data, .sentinel, .sentinel, .data, .data, .pinned, .pinned], laidTests := true, laidLooks := .later }
def RespParsesUptoCardSaid : Prop := Claim7.holds Tryz.pinned (.plain (OpenSpec.upto respParsesSpec)) respParsesUptoCard

/-- THE SECOND FORM's CARD OF 'haversacklaw15.RespBack'. -/
def respBackUptoCard : Claim7 := { stood := { row := respBackUptoRow, standIns := [], harness := (true, "47d86c41fbdfcf92bd55a80e2de25950bcd66459929bce0633f885e43268944e"), looks := true }, kinds := [], alts := [], laidByText := true, laidKinds := [.data, .data, .data, .data, .sentinel, .sentinel, .data, .data, .pinned, .pinned], laidTests := true, laidLooks := .later }
def RespBackUptoCardSaid : Prop := Claim7.holds Tryz.pinned (.plain (OpenSpec.upto respBackSpec)) respBackUptoCard

/-- THE SECOND FORM's CARD OF 'haversacklaw15.RespLines'. -/
def respLinesUptoCard : Claim7 := { stood := { row := respLinesUptoRow, standIns := [], harness := (true, "47d86c41fbdfcf92bd55a80e2de25950bcd66459929bce0633f885e43268944e"), looks := true }, kinds := [], alts := [], laidByText := true, laidKinds := [.data, .data, .data, .data, .sentinel, .sentinel, .data, .data, .pinned, .pinned], laidTests := true, laidLooks := .later }
def RespLinesUptoCardSaid : Prop := Claim7.holds Tryz.pinned (.plain (OpenSpec.upto respLinesSpec)) respLinesUptoCard

/-- THE SECOND FORM's CARD OF 'haversacklaw15.RespMade'. -/
def respMadeUptoCard : Claim7 := { stood := { row := respMadeUptoRow, standIns := [], harness := (true, "47d86c41fbdfcf92bd55a80e2de25950bcd66459929bce0633f885e43268944e"), looks := true }, kinds := [], alts := [], laidByText := true, laidKinds := [.data, .data, .data, .data, .sentinel, .sentinel, .data, .data, .pinned, .pinned], laidTests := true, laidLooks := .later }
def RespMadeUptoCardSaid : Prop := Claim7.holds Tryz.pinned (.plain (OpenSpec.upto respMadeSpec)) respMadeUptoCard

/-- THE SECOND FORM's CARD OF 'haversacklaw15.RespStrings'. -/
def respStringsUptoCard : Claim7 := { stood := { row := respStringsUptoRow, standIns := [], harness := (true, "47d86c41fbdfcf92bd55a80e2de25950bcd66459929bce0633f885e43268944e"), looks := true }, kinds := [], alts := [], laidByText := true, laidKinds := [.data, .data, .data, .data, .sentinel, .sentinel, .data, .data, .pinned, .pinned], laidTests := true, laidLooks := .later }
def RespStringsUptoCardSaid : Prop := Claim7.holds Tryz.pinned (.plain (OpenSpec.upto respStringsSpec)) respStringsUptoCard
end Rows
end Go.Proofs.YtpjcpdnolcehcaaGreatDoor
