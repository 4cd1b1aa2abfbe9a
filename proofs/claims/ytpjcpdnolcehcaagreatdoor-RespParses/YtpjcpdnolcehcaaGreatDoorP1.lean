/- What this text holds: values and lines as plain data; how they are told, and how they are read. -/
import Derived.Test.YtpjcpdnolcehcaaGreatDoorM1
import Derived.Lib.AtoiAll
import Derived.Lib.ItoaMem
import Derived.Lib.Fold
namespace Go.Proofs.YtpjcpdnolcehcaaGreatDoor
open Go.RowKit
set_option linter.unusedVariables false
set_option linter.unusedSimpArgs false

/-- A value: kind, text, number, kids, From. -/
inductive Vl where
  | mk (k : Int) (x : Bs) (n : Int) (kids : List Vl) (frm : List Int)
def Vl.k : Vl → Int | .mk k _ _ _ _ => k
def Vl.x : Vl → Bs | .mk _ x _ _ _ => x
def Vl.n : Vl → Int | .mk _ _ n _ _ => n
def Vl.kids : Vl → List Vl | .mk _ _ _ kids _ => kids
def Vl.frm : Vl → List Int | .mk _ _ _ _ frm => frm
/-- A line. -/
structure Ln where
  tag : Bs
  vals : List Vl
  st : Bs
  code : List Vl
  x : Bs

/-- Bytes that can be seen, letters of atoms, digits. -/
def plB (c : UInt8) : Bool := decide (32 ≤ c.toNat) && decide (c.toNat ≤ 126)
def notB : Bs := [40, 41, 123, 125, 34, 91, 93, 60, 62]
def letB (c : UInt8) : Bool := plB c && (c != 32) && !(notB.contains c)
def dgB (c : UInt8) : Bool := decide (48 ≤ c.toNat) && decide (c.toNat ≤ 57)
def nilT : Bs := [78, 73, 76]
def statB (s : Bs) : Bool := s == [79, 75] || s == [78, 79] || s == [66, 65, 68] || s == [66, 89, 69] || s == [80, 82, 69, 65, 85, 84, 72]
def atomB (s : Bs) : Bool := (s != []) && s.all letB && !(s.all dgB) && !(Go.Lib.equalFold s nilT)
def quoB (s : Bs) : Bool := decide (s.length ≤ 100) && s.all plB

/-- Decimal digits. -/
def decP (n : Int) : Bs := Go.Lib.itoa n
def escP (s : Bs) : Bs := s.flatMap fun c => if c == 34 || c == 92 then [92, c] else [c]
def strP (s : Bs) : Bs := if quoB s then [34] ++ escP s ++ [34] else [123] ++ decP s.length ++ [125, 13, 10] ++ s
def fromP (l : List Int) : Bs := l.flatMap fun n => [60] ++ decP n ++ [62]
mutual
/-- A value as it is told; several, each with a blank ahead. -/
def told : Vl → Bs
  | .mk k x n kids frm =>
    if k = 0 then nilT else if k = 1 then decP n else if k = 2 then x else if k = 3 then strP x
    else if k = 4 then [40] ++ (toldS kids).drop 1 ++ [41]
    else if k = 5 then x ++ [91] ++ (toldS kids).drop 1 ++ [93] ++ fromP frm else []
def toldS : List Vl → Bs
  | [] => []
  | v :: l => [32] ++ told v ++ toldS l
end
def toldL (l : List Vl) : Bs := (toldS l).drop 1
theorem toldS_app : ∀ l m : List Vl, toldS (l ++ m) = toldS l ++ toldS m
  | [], m => by simp [toldS]
  | v :: l, m => by simp [toldS, toldS_app l m]
theorem toldL_cons (v : Vl) (l : List Vl) : toldL (v :: l) = told v ++ toldS l := by simp [toldL, toldS]
theorem toldL_snoc (v : Vl) (l : List Vl) (h : l ≠ []) : toldL (l ++ [v]) = toldL l ++ [32] ++ told v := by
  cases l with
  | nil => exact absurd rfl h
  | cons u l => simp [toldL_cons, toldS_app, toldS]
def codeP (l : List Vl) : Bs := if l = [] then [] else [91] ++ toldL l ++ [93, 32]
def lineT (l : Ln) : Bs :=
  l.tag ++ [32] ++ (if l.tag = [43] then l.x else if l.st ≠ [] then l.st ++ [32] ++ codeP l.code ++ l.x else toldL l.vals) ++ [13, 10]

/-- Right values, lines. -/
def bareB (v : Vl) : Bool :=
  (v.k == 5 || v.k == 2 || v.k == 3 || v.x == []) && (v.k == 1 || v.n == 0) && (v.k == 5 || v.k == 4 || v.kids.isEmpty) && (v.k == 5 || v.frm.isEmpty)
def frB (l : List Int) : Bool := l.isEmpty || (decide (l.length = 1) && decide (0 ≤ l.headD 0))
mutual
def rightB (d : Nat) : Vl → Bool
  | .mk k x n kids frm => bareB (.mk k x n kids frm) &&
    (if k = 0 then true else if k = 3 then true else if k = 1 then decide (0 ≤ n) else if k = 2 then atomB x
     else if k = 4 then decide (d < 30) && rightsB (d + 1) kids
     else if k = 5 then atomB x && frB frm && (decide (d < 30) && rightsB (d + 1) kids) else false)
def rightsB (d : Nat) : List Vl → Bool
  | [] => true
  | v :: l => rightB d v && rightsB d l
end
theorem rightsB_app (d : Nat) : ∀ l m : List Vl, rightsB d (l ++ m) = (rightsB d l && rightsB d m)
  | [], m => by simp [rightsB]
  | v :: l, m => by simp [rightsB, rightsB_app d l m, Bool.and_assoc]
def tagB (s : Bs) : Bool := s == [42] || s == [43] || ((s != []) && s.all letB && !(s.any fun c => c == 42 || c == 43))
def textB (l : Ln) : Bool := l.x.all plB && (!l.code.isEmpty || !([91] : Bs).isPrefixOf l.x)
def someB (l : List Vl) : Bool := match l with
  | [] => false
  | v :: _ => !(v.k == 2 && statB v.x) && rightsB 0 l
def lineB (l : Ln) : Bool :=
  tagB l.tag && textB l && (if l.tag = [43] then (l.st == []) && l.code.isEmpty && l.vals.isEmpty
    else if l.st ≠ [] then statB l.st && l.vals.isEmpty && rightsB 0 l.code
    else (l.x == []) && l.code.isEmpty && someB l.vals)
def printP (l : List Ln) : Bs := if l.all lineB then l.flatMap lineT else []

/-- Reading. -/
def numP (s : Bs) : Option Int := match Go.Lib.atoiAll s with
  | .ok v => some v
  | _ => none
def numberP (s : Bs) : Option (Int × Bs) := (numP (s.takeWhile dgB)).map fun n => (n, s.dropWhile dgB)
def needP (x s : Bs) : Option Bs := if x.isPrefixOf s then some (s.drop x.length) else none
def quotedP : Bs → Option (Bs × Bs)
  | [] => none
  | c :: r => if c = 34 then some ([], r) else if c = 92 then
      match r with
      | [] => none
      | d :: r' => (quotedP r').map fun p => (d :: p.1, p.2)
    else (quotedP r).map fun p => (c :: p.1, p.2)
def countedP (s : Bs) : Option (Bs × Bs) := match numberP s with
  | none => none
  | some (n, r) => match needP [125, 13, 10] r with
    | none => none
    | some r => if n ≤ r.length then some (r.take n.toNat, r.drop n.toNat) else none
def valuesP (rd : Bs → Option (Vl × Bs)) : Nat → Bs → Option (List Vl × Bs)
  | 0, _ => none
  | f + 1, s => match rd s with
    | none => none
    | some (v, r) => match needP [32] r with
      | none => some ([v], r)
      | some r => (valuesP rd f r).map fun p => (v :: p.1, p.2)
def kidF (vs : Bs → Option (List Vl × Bs)) (e : UInt8) (s : Bs) : Option (List Vl × Bs) := match needP [e] s with
  | some r => some ([], r)
  | none => match vs s with
    | none => none
    | some (l, r) => (needP [e] r).map fun r => (l, r)
def sectP (x : Bs) (k : Option (List Vl × Bs)) : Option (Vl × Bs) := match k with
  | none => none
  | some (l, r) => match needP [60] r with
    | none => some (.mk 5 x 0 l [], r)
    | some r => match numberP r with
      | none => none
      | some (n, r) => (needP [62] r).map fun r => (.mk 5 x 0 l [n], r)
def wordP (kid : UInt8 → Bs → Option (List Vl × Bs)) (s : Bs) : Option (Vl × Bs) := match needP [91] (s.dropWhile letB) with
  | some r => sectP (s.takeWhile letB) (kid 93 r)
  | none => if (s.takeWhile letB).all dgB then (numP (s.takeWhile letB)).map fun n => (.mk 1 [] n [] [], s.dropWhile letB)
    else if s.takeWhile letB = nilT then some (.mk 0 [] 0 [] [], s.dropWhile letB) else some (.mk 2 (s.takeWhile letB) 0 [] [], s.dropWhile letB)
def bodyP (kid : UInt8 → Bs → Option (List Vl × Bs)) (s : Bs) : Option (Vl × Bs) := match needP [34] s with
  | some r => (quotedP r).map fun p => (.mk 3 p.1 0 [] [], p.2)
  | none => match needP [123] s with
    | some r => (countedP r).map fun p => (.mk 3 p.1 0 [] [], p.2)
    | none => match needP [40] s with
      | some r => (kid 41 r).map fun p => (.mk 4 [] 0 p.1 [], p.2)
      | none => wordP kid s
def valueP : Nat → Bs → Option (Vl × Bs)
  | 0, s => bodyP (fun _ _ => none) s
  | d + 1, s => bodyP (kidF fun s => valuesP (valueP d) (s.length + 1) s) s
def kidP : Nat → UInt8 → Bs → Option (List Vl × Bs)
  | 0 => fun _ _ => none
  | d + 1 => kidF fun s => valuesP (valueP d) (s.length + 1) s
theorem valueP_is (d : Nat) (s : Bs) : valueP d s = bodyP (kidP d) s := by cases d <;> rfl
def valsP (d : Nat) (s : Bs) : Option (List Vl × Bs) := valuesP (valueP d) (s.length + 1) s
def behindP (tag s : Bs) : Option (Ln × Bs) :=
  if statB (s.takeWhile letB) ∧ [32].isPrefixOf (s.dropWhile letB) then
    match needP [91] ((s.dropWhile letB).drop 1) with
    | none => some (⟨tag, [], s.takeWhile letB, [], ((s.dropWhile letB).drop 1).takeWhile plB⟩, ((s.dropWhile letB).drop 1).dropWhile plB)
    | some r => match valsP 30 r with
      | none => none
      | some (l, r) => match needP [93] r with
        | none => none
        | some r => match needP [32] r with
          | none => none
          | some r => some (⟨tag, [], s.takeWhile letB, l, r.takeWhile plB⟩, r.dropWhile plB)
  else (valsP 30 s).map fun p => (⟨tag, p.1, [], [], []⟩, p.2)
def lineP (s : Bs) : Option (Ln × Bs) := match needP [32] (s.dropWhile letB) with
  | none => none
  | some r =>
    match (if s.takeWhile letB = [43] then some (⟨[43], [], [], [], r.takeWhile plB⟩, r.dropWhile plB) else behindP (s.takeWhile letB) r) with
    | none => none
    | some (l, r) => (needP [13, 10] r).map fun r => (l, r)
def linesP : Nat → Bs → Option (List Ln)
  | 0, _ => none
  | f + 1, s => if s = [] then some [] else match lineP s with
    | none => none
    | some (l, r) => (linesP f r).map fun p => l :: p
def parseP (s : Bs) : Option (List Ln) := match linesP (s.length + 1) s with
  | none => none
  | some l => if printP l = s then some l else none
end Go.Proofs.YtpjcpdnolcehcaaGreatDoor
