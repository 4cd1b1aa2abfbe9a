/-
  DERIVED. GIVEN WITH THE SEED: THE CARDS: each row of YtjmjeiegbkfdbaaDoorRows.lean that lists a variable, with what it lists TIED to the program's text (the seventh form; the later family's looks); each row that meets fmt, with fmt's text TOLD by the authors' own Lean function (tested against real Go, not proved from fmt's source: count such statements apart). THE CARD IS WHAT COUNTS. Prove the row's statement (the work); the ties are given (YtjmjeiegbkfdbaaDoorTie.lean); close each card by the builder's one call (the guide's Derived/Test/ToyasCard.lean, 'card_holds'). Laid BY PROGRAM, IN A SANDBOX (cutbox-door.mjs). By AI agents, Wed Nov 11 2026. No macro, syntax, notation, axiom, sorry.
-/
import Derived.Test.YtjmjeiegbkfdbaaDoorRows
import GoSem.ClaimSeven
namespace Go.Proofs.YtjmjeiegbkfdbaaDoor
namespace Rows

/-- THE TIED CARD OF 'haversacklaw08.WordsBase'. -/
def wordsBaseCard : Claim7 := { stood := { row := wordsBaseRow, standIns := [], harness := (true, "bf3019db9f66b14ad609fb15134c5391a909578677e484f6ff8d9892c136e6d4"), looks := false }, kinds := [], alts := [], laidByText := true, laidKinds := [.data, .pinned], laidTests := true, laidLooks := .later }
def WordsBaseCardSaid : Prop := Claim7.holds Tryd.pinned (.plain (OpenSpec.ofChange wordsBaseSpec)) wordsBaseCard

/-- THE TIED CARD OF 'haversacklaw08.WordsBack'. -/
def wordsBackCard : Claim7 := { stood := { row := wordsBackRow, standIns := [], harness := (true, "bf3019db9f66b14ad609fb15134c5391a909578677e484f6ff8d9892c136e6d4"), looks := false }, kinds := [], alts := [], laidByText := true, laidKinds := [.data, .pinned], laidTests := true, laidLooks := .later }
def WordsBackCardSaid : Prop := Claim7.holds Tryd.pinned (.plain (OpenSpec.ofChange wordsBackSpec)) wordsBackCard

/-- THE TIED CARD OF 'haversacklaw08.WordsQuoted'. -/
def wordsQuotedCard : Claim7 := { stood := { row := wordsQuotedRow, standIns := [], harness := (true, "bf3019db9f66b14ad609fb15134c5391a909578677e484f6ff8d9892c136e6d4"), looks := false }, kinds := [], alts := [], laidByText := true, laidKinds := [.data, .pinned], laidTests := true, laidLooks := .later }
def WordsQuotedCardSaid : Prop := Claim7.holds Tryd.pinned (.plain (OpenSpec.ofChange wordsQuotedSpec)) wordsQuotedCard

/-- THE TIED CARD OF 'haversacklaw08.WordsTells'. -/
def wordsTellsCard : Claim7 := { stood := { row := wordsTellsRow, standIns := [], harness := (true, "bf3019db9f66b14ad609fb15134c5391a909578677e484f6ff8d9892c136e6d4"), looks := false }, kinds := [], alts := [], laidByText := true, laidKinds := [.data, .pinned], laidTests := true, laidLooks := .later }
def WordsTellsCardSaid : Prop := Claim7.holds Tryd.pinned (.plain (OpenSpec.ofChange wordsTellsSpec)) wordsTellsCard

/-- THE TIED CARD OF 'haversacklaw08.WordsPlain'. -/
def wordsPlainCard : Claim7 := { stood := { row := wordsPlainRow, standIns := [], harness := (true, "bf3019db9f66b14ad609fb15134c5391a909578677e484f6ff8d9892c136e6d4"), looks := false }, kinds := [], alts := [], laidByText := true, laidKinds := [.data, .pinned], laidTests := true, laidLooks := .later }
def WordsPlainCardSaid : Prop := Claim7.holds Tryd.pinned (.plain (OpenSpec.ofChange wordsPlainSpec)) wordsPlainCard

/-- THE TIED CARD OF 'haversacklaw08.WordsQuotes'. -/
def wordsQuotesCard : Claim7 := { stood := { row := wordsQuotesRow, standIns := [], harness := (true, "bf3019db9f66b14ad609fb15134c5391a909578677e484f6ff8d9892c136e6d4"), looks := false }, kinds := [], alts := [], laidByText := true, laidKinds := [.data, .pinned], laidTests := true, laidLooks := .later }
def WordsQuotesCardSaid : Prop := Claim7.holds Tryd.pinned (.plain (OpenSpec.ofChange wordsQuotesSpec)) wordsQuotesCard

/-- THE SECOND FORM's CARD OF 'haversacklaw08.WordsBase'. -/
def wordsBaseUptoCard : Claim7 := { stood := { row := wordsBaseUptoRow, standIns := [], harness := (true, "bf3019db9f66b14ad609fb15134c5391a909578677e484f6ff8d9892c136e6d4"), looks := false }, kinds := [], alts := [], laidByText := true, laidKinds := [.data, .pinned], laidTests := true, laidLooks := .later }
def WordsBaseUptoCardSaid : Prop := Claim7.holds Tryd.pinned (.plain (OpenSpec.upto wordsBaseSpec)) wordsBaseUptoCard

/-- THE SECOND FORM's CARD OF 'haversacklaw08.WordsBack'. -/
def wordsBackUptoCard : Claim7 := { stood := { row := wordsBackUptoRow, standIns := [], harness := (true, "bf3019db9f66b14ad609fb15134c5391a909578677e484f6ff8d9892c136e6d4"), looks := false }, kinds := [], alts := [], laidByText := true, laidKinds := [.data, .pinned], laidTests := true, laidLooks := .later }
def WordsBackUptoCardSaid : Prop := Claim7.holds Tryd.pinned (.plain (OpenSpec.upto wordsBackSpec)) wordsBackUptoCard

/-- THE SECOND FORM's CARD OF 'haversacklaw08.WordsQuoted'. -/
def wordsQuotedUptoCard : Claim7 := { stood := { row := wordsQuotedUptoRow, standIns := [], harness := (true, "bf3019db9f66b14ad609fb15134c5391a909578677e484f6ff8d9892c136e6d4"), looks := false }, kinds := [], alts := [], laidByText := true, laidKinds := [.data, .pinned], laidTests := true, laidLooks := .later }
def WordsQuotedUptoCardSaid : Prop := Claim7.holds Tryd.pinned (.plain (OpenSpec.upto wordsQuotedSpec)) wordsQuotedUptoCard

/-- THE SECOND FORM's CARD OF 'haversacklaw08.WordsTells'. -/
def wordsTellsUptoCard : Claim7 := { stood := { row := wordsTellsUptoRow, standIns := [], harness := (true, "bf3019db9f66b14ad609fb15134c5391a909578677e484f6ff8d9892c136e6d4"), looks := false }, kinds := [], alts := [], laidByText := true, laidKinds := [.data, .pinned], laidTests := true, laidLooks := .later }
def WordsTellsUptoCardSaid : Prop := Claim7.holds Tryd.pinned (.plain (OpenSpec.upto wordsTellsSpec)) wordsTellsUptoCard

/-- THE SECOND FORM's CARD OF 'haversacklaw08.WordsPlain'. -/
def wordsPlainUptoCard : Claim7 := { stood := { row := wordsPlainUptoRow, standIns := [], harness := (true, "bf3019db9f66b14ad609fb15134c5391a909578677e484f6ff8d9892c136e6d4"), looks := false }, kinds := [], alts := [], laidByText := true, laidKinds := [.data, .pinned], laidTests := true, laidLooks := .later }
def WordsPlainUptoCardSaid : Prop := Claim7.holds Tryd.pinned (.plain (OpenSpec.upto wordsPlainSpec)) wordsPlainUptoCard

/-- THE SECOND FORM's CARD OF 'haversacklaw08.WordsQuotes'. -/
def wordsQuotesUptoCard : Claim7 := { stood := { row := wordsQuotesUptoRow, standIns := [], harness := (true, "bf3019db9f66b14ad609fb15134c5391a909578677e484f6ff8d9892c136e6d4"), looks := false }, kinds := [], alts := [], laidByText := true, laidKinds := [.data, .pinned], laidTests := true, laidLooks := .later }
def WordsQuotesUptoCardSaid : Prop := Claim7.holds Tryd.pinned (.plain (OpenSpec.upto wordsQuotesSpec)) wordsQuotesUptoCard
end Rows
end Go.Proofs.YtjmjeiegbkfdbaaDoor
