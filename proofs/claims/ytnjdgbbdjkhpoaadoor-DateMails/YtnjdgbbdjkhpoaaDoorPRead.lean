/- What this text holds: how texts of dates are read, as plain facts about lists of bytes. No program in it. -/
namespace Go.Proofs.YtnjdgbbdjkhpoaaDoor
set_option linter.unusedVariables false

abbrev Bs := List UInt8
def lowB (c : UInt8) : UInt8 := if 65 ≤ c ∧ c ≤ 90 then c + 32 else c
def low (l : Bs) : Bs := l.map lowB
def blankB (c : UInt8) : Bool := c == 32 || c == 9 || c == 13 || c == 10
def digB (c : UInt8) : Bool := decide (48 ≤ c) && decide (c ≤ 57)
/-- Does a text begin so, in whatever letters? -/
def hasP (l b : Bs) : Bool := low (l.take b.length) == low b
def needP (b l : Bs) : Option Bs := if hasP l b then some (l.drop b.length) else none
def gapP (l : Bs) : Option Bs := match l with
  | c :: r => if blankB c then some (r.dropWhile blankB) else none
  | [] => none
def valF (n : Int) (c : UInt8) : Int := 10 * n + ((c.toNat : Int) - 48)
def val (l : Bs) : Int := l.foldl valF 0
def numL (most : Nat) (l : Bs) : Bs := (l.take most).takeWhile digB
def numP (least most : Nat) (l : Bs) : Option (Int × Bs) :=
  if (numL most l).length < least then none else some (val (numL most l), l.drop (numL most l).length)
def upToP (most : Int) (l : Bs) : Option (Int × Bs) :=
  match numP 2 2 l with
  | some (n, r) => if n > most then none else some (n, r)
  | none => none
def nameF (names : Bs) (n : Nat) (l : Bs) : Option Nat := (List.range n).find? fun i => hasP l ((names.drop (3 * i)).take 3)
def months : Bs := [74, 97, 110, 70, 101, 98, 77, 97, 114, 65, 112, 114, 77, 97, 121, 74, 117, 110, 74, 117, 108, 65, 117, 103, 83, 101, 112, 79, 99, 116, 78, 111, 118, 68, 101, 99]
def weekdays : Bs := [77, 111, 110, 84, 117, 101, 87, 101, 100, 84, 104, 117, 70, 114, 105, 83, 97, 116, 83, 117, 110]
def monthP (l : Bs) : Option (Int × Bs) := match nameF months 12 l with
  | some i => some ((i : Int) + 1, l.drop 3)
  | none => none
def weekdayP (l : Bs) : Option Bs := match nameF weekdays 7 l with
  | some _ => (needP [44] (l.drop 3)).bind gapP
  | none => some l
def minutesP (l : Bs) : Option (Int × Bs) :=
  match upToP 23 l with
  | some (h, r) => match upToP 59 r with
    | some (m, r') => some (60 * h + m, r')
    | none => none
  | none => none
def zoneP (l : Bs) : Option (Int × Bs) :=
  if hasP l [43] then minutesP (l.drop 1)
  else if hasP l [45] then (minutesP (l.drop 1)).map fun x => (-x.1, x.2)
  else if hasP l [71, 77, 84] then some (0, l.drop 3)
  else if hasP l [85, 84] then some (0, l.drop 2)
  else none
/-- Hours, minutes, seconds (those that there are, or what was there). -/
def clockP (l : Bs) : Option ((Int × Int × Option Int) × Bs) :=
  match numP 2 2 l with
  | none => none
  | some (h, r) => match needP [58] r with
    | none => none
    | some r => match numP 2 2 r with
      | none => none
      | some (m, r) => if hasP r [58] then
          match numP 2 2 (r.drop 1) with
          | none => none
          | some (s, r) => some ((h, m, some s), r)
        else some ((h, m, none), r)
structure Dt where
  y : Int
  mo : Int
  d : Int
  h : Int
  mi : Int
  s : Int
  z : Int
deriving DecidableEq
def Dt.zero : Dt := ⟨0, 0, 0, 0, 0, 0, 0⟩
structure Rd where
  l : Bs
  t : Dt
deriving DecidableEq
def dayP (r : Rd) : Option Rd :=
  match numP 1 2 r.l with
  | none => none
  | some (d, l) => match needP [45] l with
    | none => none
    | some l => match monthP l with
      | none => none
      | some (m, l) => match needP [45] l with
        | none => none
        | some l => match numP 4 4 l with
          | none => none
          | some (y, l) => some ⟨l, { r.t with d := d, mo := m, y := y }⟩
def clockR (r : Rd) : Option Rd :=
  match clockP r.l with
  | none => none
  | some ((h, m, s), l) => some ⟨l, { r.t with h := h, mi := m, s := s.getD r.t.s }⟩
def zoneR (r : Rd) : Option Rd :=
  match zoneP r.l with
  | none => none
  | some (z, l) => some ⟨l, { r.t with z := z }⟩
def gapR (r : Rd) : Option Rd := match gapP r.l with
  | none => none
  | some l => some ⟨l, r.t⟩
def internalP (r : Rd) : Option Rd := ((((dayP ⟨r.l.dropWhile blankB, r.t⟩).bind gapR).bind clockR).bind gapR).bind zoneR
def mailDay (r : Rd) : Option Rd :=
  match weekdayP r.l with
  | none => none
  | some l => match numP 1 2 l with
    | none => none
    | some (d, l) => match gapP l with
      | none => none
      | some l => match monthP l with
        | none => none
        | some (m, l) => match gapP l with
          | none => none
          | some l => match numP 4 4 l with
            | none => none
            | some (y, l) => some ⟨l, { r.t with d := d, mo := m, y := y }⟩
def mailP (r : Rd) : Option Rd :=
  match ((((mailDay ⟨r.l.dropWhile blankB, r.t⟩).bind gapR).bind clockR).bind gapR).bind zoneR with
  | none => none
  | some r => some ⟨r.l.dropWhile blankB, r.t⟩

/-! The text of a date. -/
def dg (n : Int) : UInt8 := UInt8.ofNat (48 + (n % 10).toNat)
def two (n : Int) : Bs := [dg (n / 10), dg n]
def four (n : Int) : Bs := two (n / 100) ++ two n
def monthN (m : Int) : Bs := (months.drop (3 * (m - 1).toNat)).take 3
def zoneN (z : Int) : Bs := if z < 0 then 45 :: (two (-z / 60) ++ two (-z % 60)) else 43 :: (two (z / 60) ++ two (z % 60))
def dayN (d : Int) : Bs := if d < 10 then [32, dg d] else two d
def printN (t : Dt) (c : UInt8) : Bs :=
  dayN t.d ++ [c] ++ monthN t.mo ++ [c] ++ four t.y ++ [32] ++ two t.h ++ [58] ++ two t.mi ++ [58] ++ two t.s ++ [32] ++ zoneN t.z
end Go.Proofs.YtnjdgbbdjkhpoaaDoor
