/-
  DERIVED. GIVEN WITH THE SEED: THE CARDS: each row of YtiiegjdclpkeeaaDoorRows.lean that lists a variable, with what it lists TIED to the program's text (the seventh form; the later family's looks); each row that meets fmt, with fmt's text TOLD by the authors' own Lean function (tested against real Go, not proved from fmt's source: count such statements apart). THE CARD IS WHAT COUNTS. Prove the row's statement (the work); the ties are given (YtiiegjdclpkeeaaDoorTie.lean); close each card by the builder's one call (the guide's Derived/Test/ToyasCard.lean, 'card_holds'). Laid BY PROGRAM, IN A SANDBOX (cutbox-door.mjs). By AI agents, Wed Nov 11 2026. No macro, syntax, notation, axiom, sorry.
-/
import Derived.Test.YtiiegjdclpkeeaaDoorRows
import GoSem.ClaimSeven
namespace Go.Proofs.YtiiegjdclpkeeaaDoor
namespace Rows

/-- THE TIED CARD OF 'haversacklaw12.SeqsetOne'. -/
def seqsetOneCard : Claim7 := { stood := { row := seqsetOneRow, standIns := [], harness := (true, "0650b8e8e54d1bc220494b8d554ca61cb76070a5dafdbcfad5a6178196403503"), looks := true }, kinds := [], alts := [], laidByText := true, laidKinds := [.data, .data, .data, .sentinel, .sentinel], laidTests := true, laidLooks := .later }
def SeqsetOneCardSaid : Prop := Claim7.holds Tryd.pinned (.plain (OpenSpec.ofChange seqsetOneSpec)) seqsetOneCard

/-- THE SECOND FORM's CARD OF 'haversacklaw12.SeqsetOne'. -/
def seqsetOneUptoCard : Claim7 := { stood := { row := seqsetOneUptoRow, standIns := [], harness := (true, "0650b8e8e54d1bc220494b8d554ca61cb76070a5dafdbcfad5a6178196403503"), looks := true }, kinds := [], alts := [], laidByText := true, laidKinds := [.data, .data, .data, .sentinel, .sentinel], laidTests := true, laidLooks := .later }
def SeqsetOneUptoCardSaid : Prop := Claim7.holds Tryd.pinned (.plain (OpenSpec.upto seqsetOneSpec)) seqsetOneUptoCard
end Rows
end Go.Proofs.YtiiegjdclpkeeaaDoor
