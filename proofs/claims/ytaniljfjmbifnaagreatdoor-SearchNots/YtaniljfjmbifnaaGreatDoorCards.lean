/-
  DERIVED. GIVEN WITH THE SEED: THE CARDS: each row of YtaniljfjmbifnaaGreatDoorRows.lean that lists a variable, with what it lists TIED to the program's text (the seventh form; the later family's looks); each row that meets fmt, with fmt's text TOLD by the authors' own Lean function (tested against real Go, not proved from fmt's source: count such statements apart). THE CARD IS WHAT COUNTS. Prove the row's statement (the work); the ties are given (YtaniljfjmbifnaaGreatDoorTie.lean); close each card by the builder's one call (the guide's Derived/Test/ToyasCard.lean, 'card_holds'). Laid BY PROGRAM, IN A SANDBOX (cutbox-door.mjs). By AI agents, Wed Nov 11 2026. No macro, syntax, notation, axiom, sorry.
-/
import Derived.Test.YtaniljfjmbifnaaGreatDoorRows
import GoSem.ClaimSeven
namespace Go.Proofs.YtaniljfjmbifnaaGreatDoor
namespace Rows

/-- THE TIED CARD OF 'haversacklaw16.SearchContains'. -/
def searchContainsCard : Claim7 := { stood := { row := searchContainsRow, standIns := [], harness := (true, "2139a858eb91a58432359484d56187ddb9c8c789529feaa6b5153ba39b4143e1"), looks := true }, kinds := [], alts := [], laidByText := true, laidKinds := [.data, .pinned], laidTests := true, laidLooks := .later }
def SearchContainsCardSaid : Prop := Claim7.holds Tryz.pinned (.plain (OpenSpec.ofChange searchContainsSpec)) searchContainsCard

/-- THE TIED CARD OF 'haversacklaw16.SearchMatches'. -/
def searchMatchesCard : Claim7 := { stood := { row := searchMatchesRow, standIns := [], harness := (true, "2139a858eb91a58432359484d56187ddb9c8c789529feaa6b5153ba39b4143e1"), looks := true }, kinds := [], alts := [], laidByText := true, laidKinds := [.data, .pinned], laidTests := true, laidLooks := .later }
def SearchMatchesCardSaid : Prop := Claim7.holds Tryz.pinned (.plain (OpenSpec.ofChange searchMatchesSpec)) searchMatchesCard

/-- THE TIED CARD OF 'haversacklaw16.SearchNots'. -/
def searchNotsCard : Claim7 := { stood := { row := searchNotsRow, standIns := [], harness := (true, "2139a858eb91a58432359484d56187ddb9c8c789529feaa6b5153ba39b4143e1"), looks := true }, kinds := [], alts := [], laidByText := true, laidKinds := [.data, .pinned], laidTests := true, laidLooks := .later }
def SearchNotsCardSaid : Prop := Claim7.holds Tryz.pinned (.plain (OpenSpec.ofChange searchNotsSpec)) searchNotsCard

/-- THE TIED CARD OF 'haversacklaw16.SearchDays'. -/
def searchDaysCard : Claim7 := { stood := { row := searchDaysRow, standIns := [], harness := (true, "2139a858eb91a58432359484d56187ddb9c8c789529feaa6b5153ba39b4143e1"), looks := true }, kinds := [], alts := [], laidByText := true, laidKinds := [.data, .pinned], laidTests := true, laidLooks := .later }
def SearchDaysCardSaid : Prop := Claim7.holds Tryz.pinned (.plain (OpenSpec.ofChange searchDaysSpec)) searchDaysCard

/-- THE SECOND FORM's CARD OF 'haversacklaw16.SearchContains'. -/
def searchContainsUptoCard : Claim7 := { stood := { row := searchContainsUptoRow, standIns := [], harness := (true, "2139a858eb91a58432359484d56187ddb9c8c789529feaa6b5153ba39b4143e1"), looks := true }, kinds := [], alts := [], laidByText := true, laidKinds := [.data, .pinned], laidTests := true, laidLooks := .later }
def SearchContainsUptoCardSaid : Prop := Claim7.holds Tryz.pinned (.plain (OpenSpec.upto searchContainsSpec)) searchContainsUptoCard

/-- THE SECOND FORM's CARD OF 'haversacklaw16.SearchMatches'. -/
def searchMatchesUptoCard : Claim7 := { stood := { row := searchMatchesUptoRow, standIns := [], harness := (true, "2139a858eb91a58432359484d56187ddb9c8c789529feaa6b5153ba39b4143e1"), looks := true }, kinds := [], alts := [], laidByText := true, laidKinds := [.data, .pinned], laidTests := true, laidLooks := .later }
def SearchMatchesUptoCardSaid : Prop := Claim7.holds Tryz.pinned (.plain (OpenSpec.upto searchMatchesSpec)) searchMatchesUptoCard

/-- THE SECOND FORM's CARD OF 'haversacklaw16.SearchNots'. -/
def searchNotsUptoCard : Claim7 := { stood := { row := searchNotsUptoRow, standIns := [], harness := (true, "2139a858eb91a58432359484d56187ddb9c8c789529feaa6b5153ba39b4143e1"), looks := true }, kinds := [], alts := [], laidByText := true, laidKinds := [.data, .pinned], laidTests := true, laidLooks := .later }
def SearchNotsUptoCardSaid : Prop := Claim7.holds Tryz.pinned (.plain (OpenSpec.upto searchNotsSpec)) searchNotsUptoCard

/-- THE SECOND FORM's CARD OF 'haversacklaw16.SearchDays'. -/
def searchDaysUptoCard : Claim7 := { stood := { row := searchDaysUptoRow, standIns := [], harness := (true, "2139a858eb91a58432359484d56187ddb9c8c789529feaa6b5153ba39b4143e1"), looks := true }, kinds := [], alts := [], laidByText := true, laidKinds := [.data, .pinned], laidTests := true, laidLooks := .later }
def SearchDaysUptoCardSaid : Prop := Claim7.holds Tryz.pinned (.plain (OpenSpec.upto searchDaysSpec)) searchDaysUptoCard
end Rows
end Go.Proofs.YtaniljfjmbifnaaGreatDoor
