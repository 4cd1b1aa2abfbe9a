/- What this text holds: the parts of a message as plain data, and how they are told. No program in it. -/
import Derived.Test.YtgolcmafbenjbaaGreatDoorK1
namespace Go.Proofs.YtgolcmafbenjbaaGreatDoor
set_option linter.unusedVariables false
set_option linter.unusedSimpArgs false

/-- What is told of a part, its kids aside. -/
structure Pd where
  ty : Bs
  sub : Bs
  ps : List (Bs × Bs)
  id : List Bs
  desc : List Bs
  enc : Bs
  hd : Nat
  fr : Nat
  to : Nat
  lns : Nat
/-- A part. -/
inductive Pt where
  | mk (d : Pd) (kids : List Pt)
def Pt.d : Pt → Pd
  | .mk d _ => d
def Pt.kids : Pt → List Pt
  | .mk _ k => k

/-- The bytes of a message between two places. -/
def inn (m : Bs) (a b : Nat) : Bs := (m.drop a).take (b - a)
theorem inn_len (m : Bs) (a b : Nat) (h : b ≤ m.length) : (inn m a b).length = b - a := by
  unfold inn; simp; omega
theorem inn_le (m : Bs) (a b : Nat) : (inn m a b).length ≤ m.length := by
  unfold inn; simp; omega

def wMulti : Bs := [109, 117, 108, 116, 105, 112, 97, 114, 116]
def wMess : Bs := [109, 101, 115, 115, 97, 103, 101]
def wRfc : Bs := [114, 102, 99, 56, 50, 50]
def wDig : Bs := [100, 105, 103, 101, 115, 116]
def w7bit : Bs := [55, 98, 105, 116]
def nId : Bs := [99, 111, 110, 116, 101, 110, 116, 45, 105, 100]
def nDesc : Bs := [99, 111, 110, 116, 101, 110, 116, 45, 100, 101, 115, 99, 114, 105, 112, 116, 105, 111, 110]
def nType : Bs := [99, 111, 110, 116, 101, 110, 116, 45, 116, 121, 112, 101]
def nEnc : Bs := [99, 111, 110, 116, 101, 110, 116, 45, 116, 114, 97, 110, 115, 102, 101, 114, 45, 101, 110, 99, 111, 100, 105, 110, 103]
def nBound : Bs := [98, 111, 117, 110, 100, 97, 114, 121]

/-- The value of the first field with a name, as a list of one, or none. -/
def firstM (L : List (Bs × Bs)) (name : Bs) : List Bs := (getP L [name]).take 1
def kindOfM (L : List (Bs × Bs)) (dg : Bool) : Bs × Bs × List (Bs × Bs) :=
  match firstM L nType with
  | t :: _ => kindM t
  | [] => if dg then (wMess, wRfc, []) else (wText, wPlain, [])
def encM (L : List (Bs × Bs)) : Bs :=
  match firstM L nEnc with
  | t :: _ => low t
  | [] => w7bit
def fieldsOf (t : Bs) : List (Bs × Bs) := fieldsP (t.take (hdr t))
/-- A text as a part, its kids aside. -/
def partM (m : Bs) (a b : Nat) (dg : Bool) : Pd :=
  { ty := (kindOfM (fieldsOf (inn m a b)) dg).1
    sub := (kindOfM (fieldsOf (inn m a b)) dg).2.1
    ps := (kindOfM (fieldsOf (inn m a b)) dg).2.2
    id := firstM (fieldsOf (inn m a b)) nId
    desc := firstM (fieldsOf (inn m a b)) nDesc
    enc := encM (fieldsOf (inn m a b))
    hd := a
    fr := a + hdr (inn m a b)
    to := b
    lns := ((inn m a b).drop (hdr (inn m a b))).count 10 }

def isMulti (d : Pd) : Bool := decide (d.ty = wMulti)
def isLetter (d : Pd) : Bool := decide (d.ty = wMess) && decide (d.sub = wRfc)
def isDig (d : Pd) : Bool := isMulti d && decide (d.sub = wDig)
/-- The first boundary that has a byte. -/
def boundM : List (Bs × Bs) → Bs
  | [] => []
  | p :: l => if p.1 = nBound ∧ p.2 ≠ [] then p.2 else boundM l

/-- Nothing but blanks, and perhaps a line end. -/
def blankM (s : Bs) : Bool := decide (Go.Lib.trimS (bare s) [9, 32] = [])
/-- Is a line a border, or the last one? -/
def borderM (line beg : Bs) : Bool × Bool :=
  if beg.isPrefixOf line then (blankM (line.drop beg.length), [45, 45].isPrefixOf (line.drop beg.length) && blankM ((line.drop beg.length).drop 2)) else (false, false)
/-- Where the next line ends. -/
def eol (m : Bs) (a b : Nat) : Nat := a + ln (inn m a b)
def bits (m : Bs) (op : Option Nat) (a : Nat) : List (Nat × Nat) :=
  match op with
  | some f => [(f, f + (bare (inn m f a)).length)]
  | none => []
def lastB (b : Nat) : Option Nat → List (Nat × Nat)
  | some f => [(f, b)]
  | none => []
/-- The texts between borders: a: where the next line begins, op: where a text began. -/
def betN (m beg : Bs) (b : Nat) : Nat → Nat → Option Nat → List (Nat × Nat)
  | 0, _, op => lastB b op
  | n + 1, a, op =>
    if b ≤ a then lastB b op
    else if (borderM (inn m a (eol m a b)) beg).2 then bits m op a
    else if (borderM (inn m a (eol m a b)) beg).1 then bits m op a ++ betN m beg b n (eol m a b) (some (eol m a b))
    else betN m beg b n (eol m a b) op
def betM (m beg : Bs) (a b : Nat) : List (Nat × Nat) := betN m beg b (b - a) a none
/-- The texts of a part's own parts. -/
def textsM (m : Bs) (d : Pd) : List (Nat × Nat) :=
  if isLetter d then [(d.fr, d.to)] else if isMulti d = true ∧ boundM d.ps ≠ [] then betM m (45 :: 45 :: boundM d.ps) d.fr d.to else []

/-- Kids of texts, as long as there may be more parts. -/
def kidsF (f : Nat → Nat → Bool → Nat → Pt × Nat) (dg : Bool) : List (Nat × Nat) → Nat → List Pt × Nat
  | [], many => ([], many)
  | t :: ts, many => if 60 ≤ many then ([], many) else ((f t.1 t.2 dg many).1 :: (kidsF f dg ts (f t.1 t.2 dg many).2).1, (kidsF f dg ts (f t.1 t.2 dg many).2).2)
/-- A text as a part, with its kids, and how many parts there are then. -/
def tellM (m : Bs) : Nat → Nat → Nat → Bool → Nat → Pt × Nat
  | 0, a, b, dg, many => (.mk (partM m a b dg) [], many + 1)
  | n + 1, a, b, dg, many =>
    (.mk (partM m a b dg) (kidsF (tellM m n) (isDig (partM m a b dg)) (textsM m (partM m a b dg)) (many + 1)).1,
      (kidsF (tellM m n) (isDig (partM m a b dg)) (textsM m (partM m a b dg)) (many + 1)).2)
/-- A message as a part. -/
def strucM (m : Bs) : Pt := (tellM m 7 0 m.length false 0).1

theorem eol_le (m : Bs) (a b : Nat) (hb : b ≤ m.length) (h : a ≤ b) : eol m a b ≤ b := by
  unfold eol
  have := ln_le (inn m a b)
  rw [inn_len _ _ _ hb] at this
  omega
theorem eol_lt (m : Bs) (a b : Nat) (hb : b ≤ m.length) (h : a < b) : a < eol m a b := by
  unfold eol
  have : inn m a b ≠ [] := by
    intro e
    have := congrArg List.length e
    rw [inn_len _ _ _ hb] at this
    simp at this
    omega
  have := ln_pos _ this
  omega
theorem betN_more (m beg : Bs) (b : Nat) (hb : b ≤ m.length) : ∀ (n k a : Nat) (op : Option Nat), b - a ≤ n → b - a ≤ k → betN m beg b n a op = betN m beg b k a op
  | 0, 0, a, op, h1, h2 => rfl
  | 0, k + 1, a, op, h1, h2 => by
    rw [betN, betN, if_pos (by omega)]
  | n + 1, 0, a, op, h1, h2 => by
    rw [betN, betN, if_pos (by omega)]
  | n + 1, k + 1, a, op, h1, h2 => by
    rw [betN, betN]
    by_cases h0 : b ≤ a
    · rw [if_pos h0, if_pos h0]
    · rw [if_neg h0, if_neg h0]
      have := eol_lt m a b hb (by omega)
      rw [betN_more m beg b hb n k (eol m a b) _ (by omega) (by omega), betN_more m beg b hb n k (eol m a b) _ (by omega) (by omega)]
def betR (m beg : Bs) (b a : Nat) (op : Option Nat) : List (Nat × Nat) := betN m beg b (b - a) a op
theorem betR_end (m beg : Bs) (b a : Nat) (op : Option Nat) (h : b ≤ a) : betR m beg b a op = lastB b op := by
  unfold betR
  rw [show b - a = 0 by omega, betN]
theorem betR_step (m beg : Bs) (b a : Nat) (op : Option Nat) (hb : b ≤ m.length) (h : a < b) :
    betR m beg b a op = if (borderM (inn m a (eol m a b)) beg).2 then bits m op a
    else if (borderM (inn m a (eol m a b)) beg).1 then bits m op a ++ betR m beg b (eol m a b) (some (eol m a b))
    else betR m beg b (eol m a b) op := by
  unfold betR
  have := eol_lt m a b hb h
  rw [show b - a = (b - a - 1) + 1 by omega, betN, if_neg (by omega), betN_more m beg b hb (b - a - 1) (b - eol m a b) (eol m a b) _ (by omega) (Nat.le_refl _), betN_more m beg b hb (b - a - 1) (b - eol m a b) (eol m a b) _ (by omega) (Nat.le_refl _)]
theorem betM_is (m beg : Bs) (a b : Nat) : betM m beg a b = betR m beg b a none := rfl

/-- The texts that lie behind a place, one behind the other. -/
def Rise (lo hi : Nat) : List (Nat × Nat) → Prop
  | [] => lo ≤ hi
  | t :: ts => lo ≤ t.1 ∧ t.1 ≤ t.2 ∧ Rise t.2 hi ts
theorem Rise.le : ∀ {lo hi : Nat} {l : List (Nat × Nat)}, Rise lo hi l → lo ≤ hi
  | lo, hi, [], h => h
  | lo, hi, t :: ts, h => by have := h.2.2.le; have := h.1; have := h.2.1; omega
theorem Rise.mono : ∀ {lo lo' hi : Nat} {l : List (Nat × Nat)}, Rise lo hi l → lo' ≤ lo → Rise lo' hi l
  | lo, lo', hi, [], h, hl => Nat.le_trans hl h
  | lo, lo', hi, t :: ts, h, hl => ⟨Nat.le_trans hl h.1, h.2⟩
theorem bits_rise (m : Bs) (f a : Nat) (ha : a ≤ m.length) (hf : f ≤ a) : f + (bare (inn m f a)).length ≤ a := by
  have := bare_len (inn m f a)
  rw [inn_len _ _ _ ha] at this
  omega
theorem betR_rise (m beg : Bs) (b : Nat) (hb : b ≤ m.length) : ∀ (n a lo : Nat) (op : Option Nat), b - a ≤ n → a ≤ b → lo ≤ a → (∀ f, op = some f → lo ≤ f ∧ f ≤ a) → Rise lo b (betR m beg b a op)
  | n, a, lo, op, hn, ha, hlo, hop => by
    by_cases h0 : a = b
    · subst h0
      rw [betR_end _ _ _ _ _ (Nat.le_refl _)]
      cases op with
      | none => exact hlo
      | some f => exact ⟨(hop f rfl).1, (hop f rfl).2, Nat.le_refl _⟩
    · rw [betR_step m beg b a op hb (by omega)]
      have h1 := eol_lt m a b hb (by omega)
      have h2 := eol_le m a b hb ha
      cases n with
      | zero => omega
      | succ n =>
        split
        · cases op with
          | none => exact Nat.le_trans hlo ha
          | some f =>
            have := bits_rise m f a (by omega) (hop f rfl).2
            exact ⟨(hop f rfl).1, Nat.le_add_right _ _, by show _ ≤ b; omega⟩
        · split
          · have := betR_rise m beg b hb n (eol m a b) (eol m a b) (some (eol m a b)) (by omega) h2 (Nat.le_refl _) (fun f e => by cases e; exact ⟨Nat.le_refl _, Nat.le_refl _⟩)
            cases op with
            | none => exact this.mono (by omega)
            | some f =>
              have h3 := bits_rise m f a (by omega) (hop f rfl).2
              exact ⟨(hop f rfl).1, Nat.le_add_right _ _, this.mono (by show _ ≤ eol m a b; simp; omega)⟩
          · exact betR_rise m beg b hb n (eol m a b) lo op (by omega) h2 (by omega) (fun f e => ⟨(hop f e).1, Nat.le_trans (hop f e).2 (by omega)⟩)
theorem part_fr (m : Bs) (a b : Nat) (dg : Bool) (hb : b ≤ m.length) (h : a ≤ b) : a ≤ (partM m a b dg).fr ∧ (partM m a b dg).fr ≤ b := by
  have := hdr_le _ (inn m a b) (Nat.le_refl _)
  rw [inn_len _ _ _ hb] at this
  simp only [partM]
  omega
theorem texts_rise (m : Bs) (a b : Nat) (dg : Bool) (hb : b ≤ m.length) (h : a ≤ b) : Rise (partM m a b dg).fr b (textsM m (partM m a b dg)) := by
  have h1 := part_fr m a b dg hb h
  unfold textsM
  split
  · exact ⟨Nat.le_refl _, h1.2, Nat.le_refl _⟩
  · split
    · rw [betM_is]
      exact betR_rise m _ b hb _ _ _ none (Nat.le_refl _) h1.2 (Nat.le_refl _) (fun f e => by cases e)
    · exact h1.2
end Go.Proofs.YtgolcmafbenjbaaGreatDoor
