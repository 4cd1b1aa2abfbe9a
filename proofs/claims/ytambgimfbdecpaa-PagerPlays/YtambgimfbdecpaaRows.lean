/-
  No cell of these rows narrows 'for every input' (looked for: loops, veiled, ifaces, maps, wideKeys, modest, calm, conditions, laid).
  DERIVED. THE GIVEN ROWS OF THIS SEAT. 6 by the template 'for every input the law returns true; each argument reads behind the call as it read before'; 0 by the template 'total and deterministic' (their statements: YtambgimfbdecpaaTotals.lean).
  GIVEN WITH THE SEED: the statements are not yours to turn. If you find one false, say at which input.
  Laid BY PROGRAM, IN A SANDBOX (cutbox-rows.mjs): the forced cells as the released guide's own fill.sh prints them over the translation 9154d27fcce671c8… (all of the seat's roots in one cut). By AI agents, Wed Nov 11 2026. No macro, syntax, notation, axiom, sorry.
-/
import Derived.Test.YtambgimfbdecpaaChecked
import GoSem.Claim
import GoSem.ClaimJoined
import GoSem.ClaimMapViews
import Derived.JoinedTies
import Derived.KernelRfl
namespace Go.Proofs.Ytambgimfbdecpaa
/- THE CELL 'sum', in the pinned program and in every row, IS THE sha256 OF THE DUMP (.gsa) THAT YtambgimfbdecpaaProg.lean LOADS. Nothing in Lean hashes anything: it is a label: what it is worth is what the hold of that sum in a sandbox is worth. -/
noncomputable def Try.pinned : Pinned := { name := "ytambgimfbdecpaa", sum := "9154d27fcce671c873f7b7353142456c87c8131e5b67a2d1772e09693560757b", checked := Try.checked }
namespace Rows
def none {H : Type} : Left H := { results := [], args := [] }

/-- 'haversacklaw03.PagerPlays': WHATEVER THE INPUT: true; the input reads as it did. -/
def pagerPlaysSpec : ChangeSpec := { name := "pagerPlays", fn := fun _ => fun
  | [d1, d2, d3] => { results := [.lit (.bool true)], args := [d1, d2, d3] }
  | _ => none }
def pagerPlaysRow : OpenClaim := { program := "ytambgimfbdecpaa", sum := "9154d27fcce671c873f7b7353142456c87c8131e5b67a2d1772e09693560757b", func := "haversack/haversacklaw03.PagerPlays", spec := "pagerPlays", apart := false }
def PagerPlaysSaid : Prop := pagerPlaysRow.holds Try.pinned (OpenSpec.ofChange pagerPlaysSpec)

/-- ITS FALSE NEIGHBOUR: 'it returns false'. Refute it at one input. -/
def pagerPlaysWrong : ChangeSpec := { name := "pagerPlays", fn := fun _ => fun
  | [d1, d2, d3] => { results := [.lit (.bool false)], args := [d1, d2, d3] }
  | _ => none }
def PagerPlaysWrongFalsely : Prop := pagerPlaysRow.holds Try.pinned (OpenSpec.ofChange pagerPlaysWrong)

/-- 'haversacklaw03.PagerWhole': WHATEVER THE INPUT: true; the input reads as it did. -/
def pagerWholeSpec : ChangeSpec := { name := "pagerWhole", fn := fun _ => fun
  | [d1, d2, d3, d4, d5] => { results := [.lit (.bool true)], args := [d1, d2, d3, d4, d5] }
  | _ => none }
def pagerWholeRow : OpenClaim := { program := "ytambgimfbdecpaa", sum := "9154d27fcce671c873f7b7353142456c87c8131e5b67a2d1772e09693560757b", func := "haversack/haversacklaw03.PagerWhole", spec := "pagerWhole", apart := false }
def PagerWholeSaid : Prop := pagerWholeRow.holds Try.pinned (OpenSpec.ofChange pagerWholeSpec)

/-- ITS FALSE NEIGHBOUR: 'it returns false'. Refute it at one input. -/
def pagerWholeWrong : ChangeSpec := { name := "pagerWhole", fn := fun _ => fun
  | [d1, d2, d3, d4, d5] => { results := [.lit (.bool false)], args := [d1, d2, d3, d4, d5] }
  | _ => none }
def PagerWholeWrongFalsely : Prop := pagerWholeRow.holds Try.pinned (OpenSpec.ofChange pagerWholeWrong)

/-- 'haversacklaw03.PagerPinned': WHATEVER THE INPUT: true; the input reads as it did. -/
def pagerPinnedSpec : ChangeSpec := { name := "pagerPinned", fn := fun _ => fun
  | [d1, d2] => { results := [.lit (.bool true)], args := [d1, d2] }
  | _ => none }
def pagerPinnedRow : OpenClaim := { program := "ytambgimfbdecpaa", sum := "9154d27fcce671c873f7b7353142456c87c8131e5b67a2d1772e09693560757b", func := "haversack/haversacklaw03.PagerPinned", spec := "pagerPinned", apart := false }
def PagerPinnedSaid : Prop := pagerPinnedRow.holds Try.pinned (OpenSpec.ofChange pagerPinnedSpec)

/-- ITS FALSE NEIGHBOUR: 'it returns false'. Refute it at one input. -/
def pagerPinnedWrong : ChangeSpec := { name := "pagerPinned", fn := fun _ => fun
  | [d1, d2] => { results := [.lit (.bool false)], args := [d1, d2] }
  | _ => none }
def PagerPinnedWrongFalsely : Prop := pagerPinnedRow.holds Try.pinned (OpenSpec.ofChange pagerPinnedWrong)

/-- 'haversacklaw03.PagerAborts': WHATEVER THE INPUT: true; the input reads as it did. -/
def pagerAbortsSpec : ChangeSpec := { name := "pagerAborts", fn := fun _ => fun
  | [d1, d2, d3] => { results := [.lit (.bool true)], args := [d1, d2, d3] }
  | _ => none }
def pagerAbortsRow : OpenClaim := { program := "ytambgimfbdecpaa", sum := "9154d27fcce671c873f7b7353142456c87c8131e5b67a2d1772e09693560757b", func := "haversack/haversacklaw03.PagerAborts", spec := "pagerAborts", apart := false }
def PagerAbortsSaid : Prop := pagerAbortsRow.holds Try.pinned (OpenSpec.ofChange pagerAbortsSpec)

/-- ITS FALSE NEIGHBOUR: 'it returns false'. Refute it at one input. -/
def pagerAbortsWrong : ChangeSpec := { name := "pagerAborts", fn := fun _ => fun
  | [d1, d2, d3] => { results := [.lit (.bool false)], args := [d1, d2, d3] }
  | _ => none }
def PagerAbortsWrongFalsely : Prop := pagerAbortsRow.holds Try.pinned (OpenSpec.ofChange pagerAbortsWrong)

/-- 'haversacklaw03.PagerRoom': WHATEVER THE INPUT: true; the input reads as it did. -/
def pagerRoomSpec : ChangeSpec := { name := "pagerRoom", fn := fun _ => fun
  | [d1, d2] => { results := [.lit (.bool true)], args := [d1, d2] }
  | _ => none }
def pagerRoomRow : OpenClaim := { program := "ytambgimfbdecpaa", sum := "9154d27fcce671c873f7b7353142456c87c8131e5b67a2d1772e09693560757b", func := "haversack/haversacklaw03.PagerRoom", spec := "pagerRoom", apart := false }
def PagerRoomSaid : Prop := pagerRoomRow.holds Try.pinned (OpenSpec.ofChange pagerRoomSpec)

/-- ITS FALSE NEIGHBOUR: 'it returns false'. Refute it at one input. -/
def pagerRoomWrong : ChangeSpec := { name := "pagerRoom", fn := fun _ => fun
  | [d1, d2] => { results := [.lit (.bool false)], args := [d1, d2] }
  | _ => none }
def PagerRoomWrongFalsely : Prop := pagerRoomRow.holds Try.pinned (OpenSpec.ofChange pagerRoomWrong)

/-- 'haversacklaw03.PagerNil': WHATEVER THE INPUT: true; the input reads as it did. -/
def pagerNilSpec : ChangeSpec := { name := "pagerNil", fn := fun _ => fun
  | [d1, d2] => { results := [.lit (.bool true)], args := [d1, d2] }
  | _ => none }
def pagerNilRow : OpenClaim := { program := "ytambgimfbdecpaa", sum := "9154d27fcce671c873f7b7353142456c87c8131e5b67a2d1772e09693560757b", func := "haversack/haversacklaw03.PagerNil", spec := "pagerNil", apart := false }
def PagerNilSaid : Prop := pagerNilRow.holds Try.pinned (OpenSpec.ofChange pagerNilSpec)

/-- ITS FALSE NEIGHBOUR: 'it returns false'. Refute it at one input. -/
def pagerNilWrong : ChangeSpec := { name := "pagerNil", fn := fun _ => fun
  | [d1, d2] => { results := [.lit (.bool false)], args := [d1, d2] }
  | _ => none }
def PagerNilWrongFalsely : Prop := pagerNilRow.holds Try.pinned (OpenSpec.ofChange pagerNilWrong)

/- THE SECOND FORM. 'bulk': how many values and letters a reading holds, each counted each time it is reached (what is shared counts as often as it is met; a slice's spare places count too). A statement '..UptoSaid' is the law's where the arguments, and the package variables that the reading takes, are together of bulk at most 1048576: NARROWER than '..Said'. Prove '..Said' where nothing that the law and all that it calls make is longer than what came in: it says more and counts as full. Else prove '..UptoSaid'. A law counts once. -/
mutual
def uptoBulk {H : Type} : DataW H → Nat
  | .lit (.string bytes) => bytes.length + 1
  | .lit _ => 1
  | .nil => 1
  | .ptr d => uptoBulk d + 1
  | .slice elems spare => uptoBulkAll elems + uptoBulkAll spare + 1
  | .agg parts => uptoBulkAll parts + 1
  | .iface _ d => uptoBulk d + 1
  | .map entries => uptoBulkEntries entries + 1
  | .held _ => 1
def uptoBulkAll {H : Type} : List (DataW H) → Nat
  | [] => 0
  | d :: r => uptoBulk d + uptoBulkAll r
def uptoBulkEntries {H : Type} : List (Lit × DataW H) → Nat
  | [] => 0
  | x :: r => uptoBulkEntry x + uptoBulkEntries r
def uptoBulkEntry {H : Type} : Lit × DataW H → Nat
  | (.string bytes, d) => bytes.length + uptoBulk d + 1
  | (_, d) => uptoBulk d + 1
 end
def uptoSmall : (H : Type) → List (DataW H) → Bool := fun _ ds => decide (uptoBulkAll ds ≤ 1048576)
def OpenSpec.upto (s : _root_.Go.ChangeSpec) : _root_.Go.OpenSpec := { _root_.Go.OpenSpec.ofChange s with cond := some uptoSmall }

/-- 'haversacklaw03.PagerPlays', WHERE WHAT IT READS IS OF BULK AT MOST 1048576: true; the input reads as it did. -/
def pagerPlaysUptoRow : OpenClaim := { program := "ytambgimfbdecpaa", sum := "9154d27fcce671c873f7b7353142456c87c8131e5b67a2d1772e09693560757b", func := "haversack/haversacklaw03.PagerPlays", spec := "pagerPlays", apart := false, narrowed := true }
def PagerPlaysUptoSaid : Prop := pagerPlaysUptoRow.holds Try.pinned (OpenSpec.upto pagerPlaysSpec)

/-- 'haversacklaw03.PagerWhole', WHERE WHAT IT READS IS OF BULK AT MOST 1048576: true; the input reads as it did. -/
def pagerWholeUptoRow : OpenClaim := { program := "ytambgimfbdecpaa", sum := "9154d27fcce671c873f7b7353142456c87c8131e5b67a2d1772e09693560757b", func := "haversack/haversacklaw03.PagerWhole", spec := "pagerWhole", apart := false, narrowed := true }
def PagerWholeUptoSaid : Prop := pagerWholeUptoRow.holds Try.pinned (OpenSpec.upto pagerWholeSpec)

/-- 'haversacklaw03.PagerPinned', WHERE WHAT IT READS IS OF BULK AT MOST 1048576: true; the input reads as it did. -/
def pagerPinnedUptoRow : OpenClaim := { program := "ytambgimfbdecpaa", sum := "9154d27fcce671c873f7b7353142456c87c8131e5b67a2d1772e09693560757b", func := "haversack/haversacklaw03.PagerPinned", spec := "pagerPinned", apart := false, narrowed := true }
def PagerPinnedUptoSaid : Prop := pagerPinnedUptoRow.holds Try.pinned (OpenSpec.upto pagerPinnedSpec)

/-- 'haversacklaw03.PagerAborts', WHERE WHAT IT READS IS OF BULK AT MOST 1048576: true; the input reads as it did. -/
def pagerAbortsUptoRow : OpenClaim := { program := "ytambgimfbdecpaa", sum := "9154d27fcce671c873f7b7353142456c87c8131e5b67a2d1772e09693560757b", func := "haversack/haversacklaw03.PagerAborts", spec := "pagerAborts", apart := false, narrowed := true }
def PagerAbortsUptoSaid : Prop := pagerAbortsUptoRow.holds Try.pinned (OpenSpec.upto pagerAbortsSpec)

/-- 'haversacklaw03.PagerRoom', WHERE WHAT IT READS IS OF BULK AT MOST 1048576: true; the input reads as it did. -/
def pagerRoomUptoRow : OpenClaim := { program := "ytambgimfbdecpaa", sum := "9154d27fcce671c873f7b7353142456c87c8131e5b67a2d1772e09693560757b", func := "haversack/haversacklaw03.PagerRoom", spec := "pagerRoom", apart := false, narrowed := true }
def PagerRoomUptoSaid : Prop := pagerRoomUptoRow.holds Try.pinned (OpenSpec.upto pagerRoomSpec)

/-- 'haversacklaw03.PagerNil', WHERE WHAT IT READS IS OF BULK AT MOST 1048576: true; the input reads as it did. -/
def pagerNilUptoRow : OpenClaim := { program := "ytambgimfbdecpaa", sum := "9154d27fcce671c873f7b7353142456c87c8131e5b67a2d1772e09693560757b", func := "haversack/haversacklaw03.PagerNil", spec := "pagerNil", apart := false, narrowed := true }
def PagerNilUptoSaid : Prop := pagerNilUptoRow.holds Try.pinned (OpenSpec.upto pagerNilSpec)

end Rows
end Go.Proofs.Ytambgimfbdecpaa
