/-
  DERIVED. GIVEN WITH THE SEED: THE CARDS: each row of YtnjdgbbdjkhpoaaDoorRows.lean that lists a variable, with what it lists TIED to the program's text (the seventh form; the later family's looks); each row that meets fmt, with fmt's text TOLD by the authors' own Lean function (tested against real Go, not proved from fmt's source: count such statements apart). THE CARD IS WHAT COUNTS. Prove the row's statement (the work); the ties are given (YtnjdgbbdjkhpoaaDoorTie.lean); close each card by the builder's one call (the guide's Derived/Test/ToyasCard.lean, 'card_holds'). Laid BY PROGRAM, IN A SANDBOX (cutbox-door.mjs). By AI agents, Wed Nov 11 2026. No macro, syntax, notation, axiom, sorry.
-/
import Derived.Test.YtnjdgbbdjkhpoaaDoorRows
import GoSem.ClaimSeven
namespace Go.Proofs.YtnjdgbbdjkhpoaaDoor
namespace Rows

/-- THE TIED CARD OF 'haversacklaw09.DateDays'. -/
def dateDaysCard : Claim7 := { stood := { row := dateDaysRow, standIns := [], harness := (true, "9575764ebbe228ee038e9d536aca37368edf07d4fb062145747096f9551d7847"), looks := true }, kinds := [], alts := [], laidByText := true, laidKinds := [.data, .data, .data], laidTests := true, laidLooks := .later }
def DateDaysCardSaid : Prop := Claim7.holds Tryd.pinned (.plain (OpenSpec.ofChange dateDaysSpec)) dateDaysCard

/-- THE TIED CARD OF 'haversacklaw09.DateTurns'. -/
def dateTurnsCard : Claim7 := { stood := { row := dateTurnsRow, standIns := [], harness := (true, "9575764ebbe228ee038e9d536aca37368edf07d4fb062145747096f9551d7847"), looks := true }, kinds := [], alts := [], laidByText := true, laidKinds := [.data, .data, .data], laidTests := true, laidLooks := .later }
def DateTurnsCardSaid : Prop := Claim7.holds Tryd.pinned (.plain (OpenSpec.ofChange dateTurnsSpec)) dateTurnsCard

/-- THE TIED CARD OF 'haversacklaw09.DateSeconds'. -/
def dateSecondsCard : Claim7 := { stood := { row := dateSecondsRow, standIns := [], harness := (true, "9575764ebbe228ee038e9d536aca37368edf07d4fb062145747096f9551d7847"), looks := true }, kinds := [], alts := [], laidByText := true, laidKinds := [.data, .data, .data], laidTests := true, laidLooks := .later }
def DateSecondsCardSaid : Prop := Claim7.holds Tryd.pinned (.plain (OpenSpec.ofChange dateSecondsSpec)) dateSecondsCard

/-- THE TIED CARD OF 'haversacklaw09.DatePrints'. -/
def datePrintsCard : Claim7 := { stood := { row := datePrintsRow, standIns := [], harness := (true, "9575764ebbe228ee038e9d536aca37368edf07d4fb062145747096f9551d7847"), looks := true }, kinds := [], alts := [], laidByText := true, laidKinds := [.data, .data, .data], laidTests := true, laidLooks := .later }
def DatePrintsCardSaid : Prop := Claim7.holds Tryd.pinned (.plain (OpenSpec.ofChange datePrintsSpec)) datePrintsCard

/-- THE TIED CARD OF 'haversacklaw09.DateBack'. -/
def dateBackCard : Claim7 := { stood := { row := dateBackRow, standIns := [], harness := (true, "9575764ebbe228ee038e9d536aca37368edf07d4fb062145747096f9551d7847"), looks := true }, kinds := [], alts := [], laidByText := true, laidKinds := [.data, .data, .data], laidTests := true, laidLooks := .later }
def DateBackCardSaid : Prop := Claim7.holds Tryd.pinned (.plain (OpenSpec.ofChange dateBackSpec)) dateBackCard

/-- THE TIED CARD OF 'haversacklaw09.DateMails'. -/
def dateMailsCard : Claim7 := { stood := { row := dateMailsRow, standIns := [], harness := (true, "9575764ebbe228ee038e9d536aca37368edf07d4fb062145747096f9551d7847"), looks := true }, kinds := [], alts := [], laidByText := true, laidKinds := [.data, .data, .data], laidTests := true, laidLooks := .later }
def DateMailsCardSaid : Prop := Claim7.holds Tryd.pinned (.plain (OpenSpec.ofChange dateMailsSpec)) dateMailsCard

/-- THE TIED CARD OF 'haversacklaw09.DateLast'. -/
def dateLastCard : Claim7 := { stood := { row := dateLastRow, standIns := [], harness := (true, "9575764ebbe228ee038e9d536aca37368edf07d4fb062145747096f9551d7847"), looks := true }, kinds := [], alts := [], laidByText := true, laidKinds := [.data, .data, .data], laidTests := true, laidLooks := .later }
def DateLastCardSaid : Prop := Claim7.holds Tryd.pinned (.plain (OpenSpec.ofChange dateLastSpec)) dateLastCard

/-- THE SECOND FORM's CARD OF 'haversacklaw09.DateDays'. -/
def dateDaysUptoCard : Claim7 := { stood := { row := dateDaysUptoRow, standIns := [], harness := (true, "9575764ebbe228ee038e9d536aca37368edf07d4fb062145747096f9551d7847"), looks := true }, kinds := [], alts := [], laidByText := true, laidKinds := [.data, .data, .data], laidTests := true, laidLooks := .later }
def DateDaysUptoCardSaid : Prop := Claim7.holds Tryd.pinned (.plain (OpenSpec.upto dateDaysSpec)) dateDaysUptoCard

/-- THE SECOND FORM's CARD OF 'haversacklaw09.DateTurns'. -/
def dateTurnsUptoCard : Claim7 := { stood := { row := dateTurnsUptoRow, standIns := [], harness := (true, "9575764ebbe228ee038e9d536aca37368edf07d4fb062145747096f9551d7847"), looks := true }, kinds := [], alts := [], laidByText := true, laidKinds := [.data, .data, .data], laidTests := true, laidLooks := .later }
def DateTurnsUptoCardSaid : Prop := Claim7.holds Tryd.pinned (.plain (OpenSpec.upto dateTurnsSpec)) dateTurnsUptoCard

/-- THE SECOND FORM's CARD OF 'haversacklaw09.DateSeconds'. -/
def dateSecondsUptoCard : Claim7 := { stood := { row := dateSecondsUptoRow, standIns := [], harness := (true, "9575764ebbe228ee038e9d536aca37368edf07d4fb062145747096f9551d7847"), looks := true }, kinds := [], alts := [], laidByText := true, laidKinds := [.data, .data, .data], laidTests := true, laidLooks := .later }
def DateSecondsUptoCardSaid : Prop := Claim7.holds Tryd.pinned (.plain (OpenSpec.upto dateSecondsSpec)) dateSecondsUptoCard

/-- THE SECOND FORM's CARD OF 'haversacklaw09.DatePrints'. -/
def datePrintsUptoCard : Claim7 := { stood := { row := datePrintsUptoRow, standIns := [], harness := (true, "9575764ebbe228ee038e9d536aca37368edf07d4fb062145747096f9551d7847"), looks := true }, kinds := [], alts := [], laidByText := true, laidKinds := [.data, .data, .data], laidTests := true, laidLooks := .later }
def DatePrintsUptoCardSaid : Prop := Claim7.holds Tryd.pinned (.plain (OpenSpec.upto datePrintsSpec)) datePrintsUptoCard

/-- THE SECOND FORM's CARD OF 'haversacklaw09.DateBack'. -/
def dateBackUptoCard : Claim7 := { stood := { row := dateBackUptoRow, standIns := [], harness := (true, "9575764ebbe228ee038e9d536aca37368edf07d4fb062145747096f9551d7847"), looks := true }, kinds := [], alts := [], laidByText := true, laidKinds := [.data, .data, .data], laidTests := true, laidLooks := .later }
def DateBackUptoCardSaid : Prop := Claim7.holds Tryd.pinned (.plain (OpenSpec.upto dateBackSpec)) dateBackUptoCard

/-- THE SECOND FORM's CARD OF 'haversacklaw09.DateMails'. -/
def dateMailsUptoCard : Claim7 := { stood := { row := dateMailsUptoRow, standIns := [], harness := (true, "9575764ebbe228ee038e9d536aca37368edf07d4fb062145747096f9551d7847"), looks := true }, kinds := [], alts := [], laidByText := true, laidKinds := [.data, .data, .data], laidTests := true, laidLooks := .later }
def DateMailsUptoCardSaid : Prop := Claim7.holds Tryd.pinned (.plain (OpenSpec.upto dateMailsSpec)) dateMailsUptoCard

/-- THE SECOND FORM's CARD OF 'haversacklaw09.DateLast'. -/
def dateLastUptoCard : Claim7 := { stood := { row := dateLastUptoRow, standIns := [], harness := (true, "9575764ebbe228ee038e9d536aca37368edf07d4fb062145747096f9551d7847"), looks := true }, kinds := [], alts := [], laidByText := true, laidKinds := [.data, .data, .data], laidTests := true, laidLooks := .later }
def DateLastUptoCardSaid : Prop := Claim7.holds Tryd.pinned (.plain (OpenSpec.upto dateLastSpec)) dateLastUptoCard
end Rows
end Go.Proofs.YtnjdgbbdjkhpoaaDoor
