/-
  NARROWER THAN 'FOR EVERY INPUT', by the rows' own cells (each row's printed sentence says how): MimeKinds: laid · MimePartial: laid · MimePlaces: laid · MimeMade: laid · MimeNested: laid.
  DERIVED. THE GIVEN ROWS OF THIS SEAT. 5 by the template 'for every input the law returns true; each argument reads behind the call as it read before'; 0 by the template 'total and deterministic' (their statements: YtgolcmafbenjbaaGreatDoorTotals.lean).
  GIVEN WITH THE SEED: the statements are not yours to turn. If you find one false, say at which input.
  Laid BY PROGRAM, IN A SANDBOX (cutbox-rows.mjs): the forced cells as the released guide's own fill.sh prints them over the translation 86669a2bd096b5d9… (all of the seat's roots in one cut). By AI agents, Wed Nov 11 2026. No macro, syntax, notation, axiom, sorry.
-/
import Derived.Test.YtgolcmafbenjbaaGreatDoorChecked
import GoSem.PinnedTables
import GoSem.Claim
import GoSem.ClaimJoined
import GoSem.ClaimMapViews
import Derived.JoinedTies
import Derived.KernelRfl
namespace Go.Proofs.YtgolcmafbenjbaaGreatDoor
/- THE CELL 'sum', in the pinned program and in every row, IS THE sha256 OF THE DUMP (.gsa) THAT YtgolcmafbenjbaaGreatDoorProg.lean LOADS. Nothing in Lean hashes anything: it is a label: what it is worth is what the hold of that sum in a sandbox is worth. -/
noncomputable def Tryz.pinned : Pinned := { name := "ytgolcmafbenjbaagreatdoor", sum := "86669a2bd096b5d91ee27488fa714277bc1305a9bc7ac1745fa12db39ed1aa7b", checked := Tryz.checked }
namespace Rows
def none {H : Type} : Left H := { results := [], args := [] }

/- WHAT THE LISTED PACKAGE-LEVEL VARIABLES READ AS WHEN THE CALL BEGINS. Each datum BY PROGRAM (the guide's laid-datum.mjs) off the statement by which the dump's own 'gosem.cut.vars' lays the variable. In a bare row this is a premise. The card (YtgolcmafbenjbaaGreatDoorCards.lean) ties it to the program's text. -/
def laid_unicode_utf8_acceptRanges {H : Type} : DataW H := .agg [.agg [.lit (.int .u8 128), .lit (.int .u8 191)], .agg [.lit (.int .u8 160), .lit (.int .u8 191)], .agg [.lit (.int .u8 128), .lit (.int .u8 159)], .agg [.lit (.int .u8 144), .lit (.int .u8 191)], .agg [.lit (.int .u8 128), .lit (.int .u8 143)], .agg [.lit (.int .u8 0), .lit (.int .u8 0)], .agg [.lit (.int .u8 0), .lit (.int .u8 0)], .agg [.lit (.int .u8 0), .lit (.int .u8 0)], .agg [.lit (.int .u8 0), .lit (.int .u8 0)], .agg [.lit (.int .u8 0), .lit (.int .u8 0)], .agg [.lit (.int .u8 0), .lit (.int .u8 0)], .agg [.lit (.int .u8 0), .lit (.int .u8 0)], .agg [.lit (.int .u8 0), .lit (.int .u8 0)], .agg [.lit (.int .u8 0), .lit (.int .u8 0)], .agg [.lit (.int .u8 0), .lit (.int .u8 0)], .agg [.lit (.int .u8 0), .lit (.int .u8 0)]]
/-- One of Go's own tables, pinned by name: the form's constant. -/
def laid_unicode_utf8_first : DataW Unit := Go.Pinned.utf8First

/-- 'haversacklaw11.MimeKinds': WHATEVER THE INPUT: true; the input reads as it did. -/
def mimeKindsSpec : ChangeSpec := { name := "mimeKinds", fn := fun _ => fun
  | [d] => { results := [.lit (.bool true)], args := [d] }
  | _ => none }
def mimeKindsRow : OpenClaim := { program := "ytgolcmafbenjbaagreatdoor", sum := "86669a2bd096b5d91ee27488fa714277bc1305a9bc7ac1745fa12db39ed1aa7b", func := "haversack/haversacklaw11.MimeKinds", spec := "mimeKinds", inPlace := ["internal/bytealg.IndexByteString", "internal/bytealg.IndexString", "internal/bytealg.CountString", "internal/abi.NoEscape", "internal/bytealg.MakeNoZero"], unfollowed := true, recurses := true, named := ["unicode/utf8.first", "unicode/utf8.acceptRanges", "internal/bytealg.MaxLen"], apart := false, laid := [("unicode/utf8.acceptRanges", laid_unicode_utf8_acceptRanges), ("unicode/utf8.first", laid_unicode_utf8_first)] }
def MimeKindsSaid : Prop := mimeKindsRow.holds Tryz.pinned (OpenSpec.ofChange mimeKindsSpec)

/-- ITS FALSE NEIGHBOUR: 'it returns false'. Refute it at one input. -/
def mimeKindsWrong : ChangeSpec := { name := "mimeKinds", fn := fun _ => fun
  | [d] => { results := [.lit (.bool false)], args := [d] }
  | _ => none }
def MimeKindsWrongFalsely : Prop := mimeKindsRow.holds Tryz.pinned (OpenSpec.ofChange mimeKindsWrong)

/-- 'haversacklaw11.MimePartial': WHATEVER THE INPUT: true; the input reads as it did. -/
def mimePartialSpec : ChangeSpec := { name := "mimePartial", fn := fun _ => fun
  | [d1, d2, d3, d4] => { results := [.lit (.bool true)], args := [d1, d2, d3, d4] }
  | _ => none }
def mimePartialRow : OpenClaim := { program := "ytgolcmafbenjbaagreatdoor", sum := "86669a2bd096b5d91ee27488fa714277bc1305a9bc7ac1745fa12db39ed1aa7b", func := "haversack/haversacklaw11.MimePartial", spec := "mimePartial", inPlace := ["internal/bytealg.IndexByteString", "internal/bytealg.IndexString", "internal/bytealg.CountString", "internal/abi.NoEscape", "internal/bytealg.MakeNoZero"], unfollowed := true, recurses := true, named := ["unicode/utf8.first", "unicode/utf8.acceptRanges", "internal/bytealg.MaxLen"], apart := false, laid := [("unicode/utf8.acceptRanges", laid_unicode_utf8_acceptRanges), ("unicode/utf8.first", laid_unicode_utf8_first)] }
def MimePartialSaid : Prop := mimePartialRow.holds Tryz.pinned (OpenSpec.ofChange mimePartialSpec)

/-- ITS FALSE NEIGHBOUR: 'it returns false'. Refute it at one input. -/
def mimePartialWrong : ChangeSpec := { name := "mimePartial", fn := fun _ => fun
  | [d1, d2, d3, d4] => { results := [.lit (.bool false)], args := [d1, d2, d3, d4] }
  | _ => none }
def MimePartialWrongFalsely : Prop := mimePartialRow.holds Tryz.pinned (OpenSpec.ofChange mimePartialWrong)

/-- 'haversacklaw11.MimePlaces': WHATEVER THE INPUT: true; the input reads as it did. -/
def mimePlacesSpec : ChangeSpec := { name := "mimePlaces", fn := fun _ => fun
  | [d1, d2] => { results := [.lit (.bool true)], args := [d1, d2] }
  | _ => none }
def mimePlacesRow : OpenClaim := { program := "ytgolcmafbenjbaagreatdoor", sum := "86669a2bd096b5d91ee27488fa714277bc1305a9bc7ac1745fa12db39ed1aa7b", func := "haversack/haversacklaw11.MimePlaces", spec := "mimePlaces", inPlace := ["internal/bytealg.IndexByteString", "internal/bytealg.IndexString", "internal/bytealg.CountString", "internal/abi.NoEscape", "internal/bytealg.MakeNoZero"], unfollowed := true, recurses := true, named := ["unicode/utf8.first", "unicode/utf8.acceptRanges", "internal/bytealg.MaxLen"], apart := false, laid := [("unicode/utf8.acceptRanges", laid_unicode_utf8_acceptRanges), ("unicode/utf8.first", laid_unicode_utf8_first)] }
def MimePlacesSaid : Prop := mimePlacesRow.holds Tryz.pinned (OpenSpec.ofChange mimePlacesSpec)

/-- ITS FALSE NEIGHBOUR: 'it returns false'. Refute it at one input. -/
def mimePlacesWrong : ChangeSpec := { name := "mimePlaces", fn := fun _ => fun
  | [d1, d2] => { results := [.lit (.bool false)], args := [d1, d2] }
  | _ => none }
def MimePlacesWrongFalsely : Prop := mimePlacesRow.holds Tryz.pinned (OpenSpec.ofChange mimePlacesWrong)

/-- 'haversacklaw11.MimeMade': WHATEVER THE INPUT: true; the input reads as it did. -/
def mimeMadeSpec : ChangeSpec := { name := "mimeMade", fn := fun _ => fun
  | [d] => { results := [.lit (.bool true)], args := [d] }
  | _ => none }
def mimeMadeRow : OpenClaim := { program := "ytgolcmafbenjbaagreatdoor", sum := "86669a2bd096b5d91ee27488fa714277bc1305a9bc7ac1745fa12db39ed1aa7b", func := "haversack/haversacklaw11.MimeMade", spec := "mimeMade", inPlace := ["internal/bytealg.IndexByteString", "internal/bytealg.IndexString", "internal/bytealg.CountString", "internal/abi.NoEscape", "internal/bytealg.MakeNoZero"], unfollowed := true, recurses := true, named := ["unicode/utf8.first", "unicode/utf8.acceptRanges", "internal/bytealg.MaxLen"], apart := false, laid := [("unicode/utf8.acceptRanges", laid_unicode_utf8_acceptRanges), ("unicode/utf8.first", laid_unicode_utf8_first)] }
def MimeMadeSaid : Prop := mimeMadeRow.holds Tryz.pinned (OpenSpec.ofChange mimeMadeSpec)

/-- ITS FALSE NEIGHBOUR: 'it returns false'. Refute it at one input. -/
def mimeMadeWrong : ChangeSpec := { name := "mimeMade", fn := fun _ => fun
  | [d] => { results := [.lit (.bool false)], args := [d] }
  | _ => none }
def MimeMadeWrongFalsely : Prop := mimeMadeRow.holds Tryz.pinned (OpenSpec.ofChange mimeMadeWrong)

/-- 'haversacklaw11.MimeNested': WHATEVER THE INPUT: true; the input reads as it did. -/
def mimeNestedSpec : ChangeSpec := { name := "mimeNested", fn := fun _ => fun
  | [d1, d2] => { results := [.lit (.bool true)], args := [d1, d2] }
  | _ => none }
def mimeNestedRow : OpenClaim := { program := "ytgolcmafbenjbaagreatdoor", sum := "86669a2bd096b5d91ee27488fa714277bc1305a9bc7ac1745fa12db39ed1aa7b", func := "haversack/haversacklaw11.MimeNested", spec := "mimeNested", inPlace := ["internal/bytealg.IndexByteString", "internal/bytealg.IndexString", "internal/bytealg.CountString", "internal/abi.NoEscape", "internal/bytealg.MakeNoZero"], unfollowed := true, recurses := true, named := ["unicode/utf8.first", "unicode/utf8.acceptRanges", "internal/bytealg.MaxLen"], apart := false, laid := [("unicode/utf8.acceptRanges", laid_unicode_utf8_acceptRanges), ("unicode/utf8.first", laid_unicode_utf8_first)] }
def MimeNestedSaid : Prop := mimeNestedRow.holds Tryz.pinned (OpenSpec.ofChange mimeNestedSpec)

/-- ITS FALSE NEIGHBOUR: 'it returns false'. Refute it at one input. -/
def mimeNestedWrong : ChangeSpec := { name := "mimeNested", fn := fun _ => fun
  | [d1, d2] => { results := [.lit (.bool false)], args := [d1, d2] }
  | _ => none }
def MimeNestedWrongFalsely : Prop := mimeNestedRow.holds Tryz.pinned (OpenSpec.ofChange mimeNestedWrong)

/- THE SECOND FORM. 'bulk': how many values and letters a reading holds, each counted each time it is reached (what is shared counts as often as it is met; a slice's spare places count too). A statement '..UptoSaid' is the law's where the arguments, and the package variables that the reading takes, are together of bulk at most 1048576: NARROWER than '..Said'. Prove '..Said' where nothing that the law and all that it calls make is longer than what came in: it says more and counts as full. Else prove '..UptoSaid'. A law counts once. -/
mutual
def uptoBulk {H : Type} : DataW H → Nat
  | .lit (.string bytes) => bytes.length + 1
  | .lit _ => 1
  | .nil => 1
  | .ptr d => uptoBulk d + 1
  | .slice elems spare => uptoBulkAll elems + uptoBulkAll spare + 1
  | .agg parts => uptoBulkAll parts + 1
  | .iface _ d => uptoBulk d + 1
  | .map entries => uptoBulkEntries entries + 1
  | .held _ => 1
def uptoBulkAll {H : Type} : List (DataW H) → Nat
  | [] => 0
  | d :: r => uptoBulk d + uptoBulkAll r
def uptoBulkEntries {H : Type} : List (Lit × DataW H) → Nat
  | [] => 0
  | x :: r => uptoBulkEntry x + uptoBulkEntries r
def uptoBulkEntry {H : Type} : Lit × DataW H → Nat
  | (.string bytes, d) => bytes.length + uptoBulk d + 1
  | (_, d) => uptoBulk d + 1
 end
def uptoSmall : (H : Type) → List (DataW H) → Bool := fun _ ds => decide (uptoBulkAll ds ≤ 1048576)
def OpenSpec.upto (s : _root_.Go.ChangeSpec) : _root_.Go.OpenSpec := { _root_.Go.OpenSpec.ofChange s with cond := some uptoSmall }

/-- 'haversacklaw11.MimeKinds', WHERE WHAT IT READS IS OF BULK AT MOST 1048576: true; the input reads as it did. -/
def mimeKindsUptoRow : OpenClaim := { program := "ytgolcmafbenjbaagreatdoor", sum := "86669a2bd096b5d91ee27488fa714277bc1305a9bc7ac1745fa12db39ed1aa7b", func := "haversack/haversacklaw11.MimeKinds", spec := "mimeKinds", inPlace := ["internal/bytealg.IndexByteString", "internal/bytealg.IndexString", "internal/bytealg.CountString", "internal/abi.NoEscape", "internal/bytealg.MakeNoZero"], unfollowed := true, recurses := true, named := ["unicode/utf8.first", "unicode/utf8.acceptRanges", "internal/bytealg.MaxLen"], apart := false, laid := [("unicode/utf8.acceptRanges", laid_unicode_utf8_acceptRanges), ("unicode/utf8.first", laid_unicode_utf8_first)], narrowed := true }
def MimeKindsUptoSaid : Prop := mimeKindsUptoRow.holds Tryz.pinned (OpenSpec.upto mimeKindsSpec)

/-- 'haversacklaw11.MimePartial', WHERE WHAT IT READS IS OF BULK AT MOST 1048576: true; the input reads as it did. -/
def mimePartialUptoRow : OpenClaim := { program := "ytgolcmafbenjbaagreatdoor", sum := "86669a2bd096b5d91ee27488fa714277bc1305a9bc7ac1745fa12db39ed1aa7b", func := "haversack/haversacklaw11.MimePartial", spec := "mimePartial", inPlace := ["internal/bytealg.IndexByteString", "internal/bytealg.IndexString", "internal/bytealg.CountString", "internal/abi.NoEscape", "internal/bytealg.MakeNoZero"], unfollowed := true, recurses := true, named := ["unicode/utf8.first", "unicode/utf8.acceptRanges", "internal/bytealg.MaxLen"], apart := false, laid := [("unicode/utf8.acceptRanges", laid_unicode_utf8_acceptRanges), ("unicode/utf8.first", laid_unicode_utf8_first)], narrowed := true }
def MimePartialUptoSaid : Prop := mimePartialUptoRow.holds Tryz.pinned (OpenSpec.upto mimePartialSpec)

/-- 'haversacklaw11.MimePlaces', WHERE WHAT IT READS IS OF BULK AT MOST 1048576: true; the input reads as it did. -/
def mimePlacesUptoRow : OpenClaim := { program := "ytgolcmafbenjbaagreatdoor", sum := "86669a2bd096b5d91ee27488fa714277bc1305a9bc7ac1745fa12db39ed1aa7b", func := "haversack/haversacklaw11.MimePlaces", spec := "mimePlaces", inPlace := ["internal/bytealg.IndexByteString", "internal/bytealg.IndexString", "internal/bytealg.CountString", "internal/abi.NoEscape", "internal/bytealg.MakeNoZero"], unfollowed := true, recurses := true, named := ["unicode/utf8.first", "unicode/utf8.acceptRanges", "internal/bytealg.MaxLen"], apart := false, laid := [("unicode/utf8.acceptRanges", laid_unicode_utf8_acceptRanges), ("unicode/utf8.first", laid_unicode_utf8_first)], narrowed := true }
def MimePlacesUptoSaid : Prop := mimePlacesUptoRow.holds Tryz.pinned (OpenSpec.upto mimePlacesSpec)

/-- 'haversacklaw11.MimeMade', WHERE WHAT IT READS IS OF BULK AT MOST 1048576: true; the input reads as it did. -/
def mimeMadeUptoRow : OpenClaim := { program := "ytgolcmafbenjbaagreatdoor", sum := "86669a2bd096b5d91ee27488fa714277bc1305a9bc7ac1745fa12db39ed1aa7b", func := "haversack/haversacklaw11.MimeMade", spec := "mimeMade", inPlace := ["internal/bytealg.IndexByteString", "internal/bytealg.IndexString", "internal/bytealg.CountString", "internal/abi.NoEscape", "internal/bytealg.MakeNoZero"], unfollowed := true, recurses := true, named := ["unicode/utf8.first", "unicode/utf8.acceptRanges", "internal/bytealg.MaxLen"], apart := false, laid := [("unicode/utf8.acceptRanges", laid_unicode_utf8_acceptRanges), ("unicode/utf8.first", laid_unicode_utf8_first)], narrowed := true }
def MimeMadeUptoSaid : Prop := mimeMadeUptoRow.holds Tryz.pinned (OpenSpec.upto mimeMadeSpec)

/-- 'haversacklaw11.MimeNested', WHERE WHAT IT READS IS OF BULK AT MOST 1048576: true; the input reads as it did. -/
def mimeNestedUptoRow : OpenClaim := { program := "ytgolcmafbenjbaagreatdoor", sum := "86669a2bd096b5d91ee27488fa714277bc1305a9bc7ac1745fa12db39ed1aa7b", func := "haversack/haversacklaw11.MimeNested", spec := "mimeNested", inPlace := ["internal/bytealg.IndexByteString", "internal/bytealg.IndexString", "internal/bytealg.CountString", "internal/abi.NoEscape", "internal/bytealg.MakeNoZero"], unfollowed := true, recurses := true, named := ["unicode/utf8.first", "unicode/utf8.acceptRanges", "internal/bytealg.MaxLen"], apart := false, laid := [("unicode/utf8.acceptRanges", laid_unicode_utf8_acceptRanges), ("unicode/utf8.first", laid_unicode_utf8_first)], narrowed := true }
def MimeNestedUptoSaid : Prop := mimeNestedUptoRow.holds Tryz.pinned (OpenSpec.upto mimeNestedSpec)

end Rows
end Go.Proofs.YtgolcmafbenjbaaGreatDoor
