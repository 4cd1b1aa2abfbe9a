/-
  DERIVED. GIVEN WITH THE SEED: THE CARDS: each row of YtiiegjdclpkeeaaGreatDoorRows.lean that lists a variable, with what it lists TIED to the program's text (the seventh form; the later family's looks); each row that meets fmt, with fmt's text TOLD by the authors' own Lean function (tested against real Go, not proved from fmt's source: count such statements apart). THE CARD IS WHAT COUNTS. Prove the row's statement (the work); the ties are given (YtiiegjdclpkeeaaGreatDoorTie.lean); close each card by the builder's one call (the guide's Derived/Test/ToyasCard.lean, 'card_holds'). Laid BY PROGRAM, IN A SANDBOX (cutbox-door.mjs). By AI agents, Wed Nov 11 2026. No macro, syntax, notation, axiom, sorry.
-/
import Derived.Test.YtiiegjdclpkeeaaGreatDoorRows
import GoSem.ClaimSeven
namespace Go.Proofs.YtiiegjdclpkeeaaGreatDoor
namespace Rows

/-- THE TIED CARD OF 'haversacklaw12.SeqsetParses'. -/
def seqsetParsesCard : Claim7 := { stood := { row := seqsetParsesRow, standIns := [], harness := (true, "c28327232d79a21f24088c8d85aac634dace473b6123a9df73aac17b38fdcf7c"), looks := true }, kinds := [], alts := [], laidByText := true, laidKinds := [.data, .data, .data, .sentinel, .sentinel], laidTests := true, laidLooks := .later }
def SeqsetParsesCardSaid : Prop := Claim7.holds Tryz.pinned (.plain (OpenSpec.ofChange seqsetParsesSpec)) seqsetParsesCard

/-- THE TIED CARD OF 'haversacklaw12.SeqsetPrints'. -/
def seqsetPrintsCard : Claim7 := { stood := { row := seqsetPrintsRow, standIns := [], harness := (true, "c28327232d79a21f24088c8d85aac634dace473b6123a9df73aac17b38fdcf7c"), looks := true }, kinds := [], alts := [], laidByText := true, laidKinds := [.data, .data, .data, .sentinel, .sentinel], laidTests := true, laidLooks := .later }
def SeqsetPrintsCardSaid : Prop := Claim7.holds Tryz.pinned (.plain (OpenSpec.ofChange seqsetPrintsSpec)) seqsetPrintsCard

/-- THE TIED CARD OF 'haversacklaw12.SeqsetBack'. -/
def seqsetBackCard : Claim7 := { stood := { row := seqsetBackRow, standIns := [], harness := (true, "c28327232d79a21f24088c8d85aac634dace473b6123a9df73aac17b38fdcf7c"), looks := true }, kinds := [], alts := [], laidByText := true, laidKinds := [.data, .data, .data, .sentinel, .sentinel], laidTests := true, laidLooks := .later }
def SeqsetBackCardSaid : Prop := Claim7.holds Tryz.pinned (.plain (OpenSpec.ofChange seqsetBackSpec)) seqsetBackCard

/-- THE TIED CARD OF 'haversacklaw12.SeqsetHas'. -/
def seqsetHasCard : Claim7 := { stood := { row := seqsetHasRow, standIns := [], harness := (true, "c28327232d79a21f24088c8d85aac634dace473b6123a9df73aac17b38fdcf7c"), looks := true }, kinds := [], alts := [], laidByText := true, laidKinds := [.data, .data, .data, .sentinel, .sentinel], laidTests := true, laidLooks := .later }
def SeqsetHasCardSaid : Prop := Claim7.holds Tryz.pinned (.plain (OpenSpec.ofChange seqsetHasSpec)) seqsetHasCard

/-- THE TIED CARD OF 'haversacklaw12.SeqsetNorms'. -/
def seqsetNormsCard : Claim7 := { stood := { row := seqsetNormsRow, standIns := [], harness := (true, "c28327232d79a21f24088c8d85aac634dace473b6123a9df73aac17b38fdcf7c"), looks := true }, kinds := [], alts := [], laidByText := true, laidKinds := [.data, .data, .data, .sentinel, .sentinel], laidTests := true, laidLooks := .later }
def SeqsetNormsCardSaid : Prop := Claim7.holds Tryz.pinned (.plain (OpenSpec.ofChange seqsetNormsSpec)) seqsetNormsCard

/-- THE SECOND FORM's CARD OF 'haversacklaw12.SeqsetParses'. -/
def seqsetParsesUptoCard : Claim7 := { stood := { row := seqsetParsesUptoRow, standIns := [], harness := (true, "c28327232d79a21f24088c8d85aac634dace473b6123a9df73aac17b38fdcf7c"), looks := true }, kinds := [], alts := [], laidByText := true, laidKinds := [.data, .data, .data, .sentinel, .sentinel], laidTests := true, laidLooks := .later }
def SeqsetParsesUptoCardSaid : Prop := Claim7.holds Tryz.pinned (.plain (OpenSpec.upto seqsetParsesSpec)) seqsetParsesUptoCard

/-- THE SECOND FORM's CARD OF 'haversacklaw12.SeqsetPrints'. -/
def seqsetPrintsUptoCard : Claim7 := { stood := { row := seqsetPrintsUptoRow, standIns := [], harness := (true, "c28327232d79a21f24088c8d85aac634dace473b6123a9df73aac17b38fdcf7c"), looks := true }, kinds := [], alts := [], laidByText := true, laidKinds := [.data, .data, .data, .sentinel, .sentinel], laidTests := true, laidLooks := .later }
def SeqsetPrintsUptoCardSaid : Prop := Claim7.holds Tryz.pinned (.plain (OpenSpec.upto seqsetPrintsSpec)) seqsetPrintsUptoCard

/-- THE SECOND FORM's CARD OF 'haversacklaw12.SeqsetBack'. -/
def seqsetBackUptoCard : Claim7 := { stood := { row := seqsetBackUptoRow, standIns := [], harness := (true, "c28327232d79a21f24088c8d85aac634dace473b6123a9df73aac17b38fdcf7c"), looks := true }, kinds := [], alts := [], laidByText := true, laidKinds := [.data, .data, .data, .sentinel, .sentinel], laidTests := true, laidLooks := .later }
def SeqsetBackUptoCardSaid : Prop := Claim7.holds Tryz.pinned (.plain (OpenSpec.upto seqsetBackSpec)) seqsetBackUptoCard

/-- THE SECOND FORM's CARD OF 'haversacklaw12.SeqsetHas'. -/
def seqsetHasUptoCard : Claim7 := { stood := { row := seqsetHasUptoRow, standIns := [], harness := (true, "c28327232d79a21f24088c8d85aac634dace473b6123a9df73aac17b38fdcf7c"), looks := true }, kinds := [], alts := [], laidByText := true, laidKinds := [.data, .data, .data, .sentinel, .sentinel], laidTests := true, laidLooks := .later }
def SeqsetHasUptoCardSaid : Prop := Claim7.holds Tryz.pinned (.plain (OpenSpec.upto seqsetHasSpec)) seqsetHasUptoCard

/-- THE SECOND FORM's CARD OF 'haversacklaw12.SeqsetNorms'. -/
def seqsetNormsUptoCard : Claim7 := { stood := { row := seqsetNormsUptoRow, standIns := [], harness := (true, "c28327232d79a21f24088c8d85aac634dace473b6123a9df73aac17b38fdcf7c"), looks := true }, kinds := [], alts := [], laidByText := true, laidKinds := [.data, .data, .data, .sentinel, .sentinel], laidTests := true, laidLooks := .later }
def SeqsetNormsUptoCardSaid : Prop := Claim7.holds Tryz.pinned (.plain (OpenSpec.upto seqsetNormsSpec)) seqsetNormsUptoCard
end Rows
end Go.Proofs.YtiiegjdclpkeeaaGreatDoor
