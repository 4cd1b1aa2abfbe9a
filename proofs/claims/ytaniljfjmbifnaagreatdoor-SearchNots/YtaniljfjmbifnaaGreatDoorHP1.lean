/- What this text holds: the words of chapter 10 as plain functions over bytes: lines, headers, fields. No program in it. -/
import Derived.Lib.TrimByte
import Derived.Lib.Bytealg
import Derived.Lib.SlTrimSet
namespace Go.Proofs.YtaniljfjmbifnaaGreatDoor.H
set_option linter.unusedVariables false
set_option linter.unusedSimpArgs false

abbrev Bs := List UInt8

/-- How long the first line is. -/
def ln : Bs → Nat
  | [] => 0
  | c :: s => if c = 10 then 1 else ln s + 1
theorem ln_le : ∀ s : Bs, ln s ≤ s.length
  | [] => Nat.le_refl _
  | c :: s => by
    have := ln_le s
    unfold ln
    split <;> simp <;> omega
theorem ln_pos : ∀ s : Bs, s ≠ [] → 0 < ln s
  | [], h => absurd rfl h
  | c :: s, _ => by unfold ln; split <;> omega
theorem ln_none : ∀ s : Bs, Go.Lib.indexByte s 10 = -1 → ln s = s.length
  | [], _ => rfl
  | c :: s, h => by
    unfold Go.Lib.indexByte at h
    by_cases hc : c = 10
    · rw [if_pos (by simp [hc])] at h; omega
    · rw [if_neg (by simp [hc])] at h
      by_cases h1 : Go.Lib.indexByte s 10 = -1
      · have := ln_none s h1
        unfold ln
        rw [if_neg hc, this]; rfl
      · rw [if_neg (by simp [h1])] at h
        have := Go.Lib.indexByte_ge s 10
        omega
theorem ln_some : ∀ (s : Bs) (k : Nat), Go.Lib.indexByte s 10 = (k : Int) → ln s = k + 1
  | [], k, h => by unfold Go.Lib.indexByte at h; omega
  | c :: s, k, h => by
    unfold Go.Lib.indexByte at h
    by_cases hc : c = 10
    · rw [if_pos (by simp [hc])] at h
      unfold ln
      rw [if_pos hc]; omega
    · rw [if_neg (by simp [hc])] at h
      by_cases h1 : Go.Lib.indexByte s 10 = -1
      · rw [if_pos (by simp [h1])] at h; omega
      · rw [if_neg (by simp [h1])] at h
        have h2 := Go.Lib.indexByte_ge s 10
        have := ln_some s (k - 1) (by omega)
        unfold ln
        rw [if_neg hc, this]; omega

def linesN : Nat → Bs → List Bs
  | 0, _ => []
  | n + 1, s => if s = [] then [] else s.take (ln s) :: linesN n (s.drop (ln s))
/-- A text's lines. -/
def lines (s : Bs) : List Bs := linesN s.length s
theorem linesN_more : ∀ (n m : Nat) (s : Bs), s.length ≤ n → s.length ≤ m → linesN n s = linesN m s
  | 0, 0, s, h1, h2 => rfl
  | 0, m + 1, s, h1, h2 => by
    have : s = [] := List.eq_nil_of_length_eq_zero (by omega)
    subst this; simp [linesN]
  | n + 1, 0, s, h1, h2 => by
    have : s = [] := List.eq_nil_of_length_eq_zero (by omega)
    subst this; simp [linesN]
  | n + 1, m + 1, s, h1, h2 => by
    unfold linesN
    by_cases h0 : s = []
    · simp [h0]
    · rw [if_neg h0, if_neg h0]
      have := ln_pos s h0
      rw [linesN_more n m (s.drop (ln s)) (by simp; omega) (by simp; omega)]
theorem lines_nil : lines [] = [] := rfl
theorem lines_step (s : Bs) (h : s ≠ []) : lines s = s.take (ln s) :: lines (s.drop (ln s)) := by
  unfold lines
  cases s with
  | nil => exact absurd rfl h
  | cons c t =>
    have := ln_pos (c :: t) h
    rw [show (c :: t).length = t.length + 1 from rfl, linesN, if_neg h, linesN_more t.length ((c :: t).drop (ln (c :: t))).length _ (by simp; omega) (Nat.le_refl _)]

/-- Is a line empty? -/
def emp (l : Bs) : Bool := decide (l = [10]) || decide (l = [13, 10])
def hdrN : Nat → Bs → Nat
  | 0, _ => 0
  | n + 1, s => if s = [] then 0 else if emp (s.take (ln s)) then ln s else ln s + hdrN n (s.drop (ln s))
/-- How long a message's header is. -/
def hdr (s : Bs) : Nat := hdrN s.length s
theorem hdrN_more : ∀ (n m : Nat) (s : Bs), s.length ≤ n → s.length ≤ m → hdrN n s = hdrN m s
  | 0, 0, s, h1, h2 => rfl
  | 0, m + 1, s, h1, h2 => by
    have : s = [] := List.eq_nil_of_length_eq_zero (by omega)
    subst this; simp [hdrN]
  | n + 1, 0, s, h1, h2 => by
    have : s = [] := List.eq_nil_of_length_eq_zero (by omega)
    subst this; simp [hdrN]
  | n + 1, m + 1, s, h1, h2 => by
    unfold hdrN
    by_cases h0 : s = []
    · simp [h0]
    · rw [if_neg h0, if_neg h0]
      have := ln_pos s h0
      rw [hdrN_more n m (s.drop (ln s)) (by simp; omega) (by simp; omega)]
theorem hdr_nil : hdr [] = 0 := rfl
theorem hdr_step (s : Bs) (h : s ≠ []) : hdr s = if emp (s.take (ln s)) then ln s else ln s + hdr (s.drop (ln s)) := by
  unfold hdr
  cases s with
  | nil => exact absurd rfl h
  | cons c t =>
    have := ln_pos (c :: t) h
    rw [show (c :: t).length = t.length + 1 from rfl, hdrN, if_neg h, hdrN_more t.length ((c :: t).drop (ln (c :: t))).length _ (by simp; omega) (Nat.le_refl _)]
theorem hdr_le : ∀ (n : Nat) (s : Bs), s.length ≤ n → hdr s ≤ s.length
  | 0, s, h => by
    have : s = [] := List.eq_nil_of_length_eq_zero (by omega)
    subst this; simp [hdr_nil]
  | n + 1, s, h => by
    by_cases h0 : s = []
    · subst h0; simp [hdr_nil]
    · rw [hdr_step s h0]
      have h1 := ln_le s
      have h2 := ln_pos s h0
      have := hdr_le n (s.drop (ln s)) (by simp; omega)
      simp at this
      split <;> omega

/-- May a byte stand in a field's name? -/
def good (c : UInt8) : Bool := decide (32 < c.toNat) && decide (c.toNat ≤ 126)
/-- The name of the field that a line begins; empty: it begins none. -/
def nameB (l : Bs) : Bs := if (l.takeWhile (· != 58)).length < l.length ∧ (l.takeWhile (· != 58)).all good = true then l.takeWhile (· != 58) else []
def cont : Bs → Bool
  | [] => false
  | c :: _ => c == 32 || c == 9
theorem cont_ne {s : Bs} (h : cont s = true) : s ≠ [] := by rintro rfl; simp [cont] at h
def moreN : Nat → Bs → Nat
  | 0, _ => 0
  | n + 1, s => if cont s then ln s + moreN n (s.drop (ln s)) else 0
/-- How long the lines are that go on. -/
def more (s : Bs) : Nat := moreN s.length s
theorem moreN_more : ∀ (n m : Nat) (s : Bs), s.length ≤ n → s.length ≤ m → moreN n s = moreN m s
  | 0, 0, s, h1, h2 => rfl
  | 0, m + 1, s, h1, h2 => by
    have : s = [] := List.eq_nil_of_length_eq_zero (by omega)
    subst this; simp [moreN, cont]
  | n + 1, 0, s, h1, h2 => by
    have : s = [] := List.eq_nil_of_length_eq_zero (by omega)
    subst this; simp [moreN, cont]
  | n + 1, m + 1, s, h1, h2 => by
    unfold moreN
    by_cases h0 : cont s = true
    · rw [if_pos h0, if_pos h0]
      have := ln_pos s (cont_ne h0)
      rw [moreN_more n m (s.drop (ln s)) (by simp; omega) (by simp; omega)]
    · rw [if_neg h0, if_neg h0]
theorem more_no (s : Bs) (h : cont s = false) : more s = 0 := by
  unfold more
  cases s with
  | nil => rfl
  | cons c t => rw [show (c :: t).length = t.length + 1 from rfl, moreN, h]; rfl
theorem more_yes (s : Bs) (h : cont s = true) : more s = ln s + more (s.drop (ln s)) := by
  unfold more
  cases s with
  | nil => simp [cont] at h
  | cons c t =>
    have := ln_pos (c :: t) (by simp)
    rw [show (c :: t).length = t.length + 1 from rfl, moreN, if_pos h, moreN_more t.length ((c :: t).drop (ln (c :: t))).length _ (by simp; omega) (Nat.le_refl _)]
theorem more_le : ∀ (n : Nat) (s : Bs), s.length ≤ n → more s ≤ s.length
  | 0, s, h => by
    have : s = [] := List.eq_nil_of_length_eq_zero (by omega)
    subst this; exact Nat.le_refl _
  | n + 1, s, h => by
    rcases hc : cont s
    · rw [more_no s hc]; omega
    · rw [more_yes s hc]
      have h1 := ln_le s
      have h2 := ln_pos s (cont_ne hc)
      have := more_le n (s.drop (ln s)) (by simp; omega)
      simp at this
      omega

/-- How long the field is that a text begins with. -/
def fl (s : Bs) : Nat := ln s + more (s.drop (ln s))
theorem fl_le (s : Bs) : fl s ≤ s.length := by
  unfold fl
  have h1 := ln_le s
  have := more_le _ (s.drop (ln s)) (Nat.le_refl _)
  simp at this
  omega
theorem fl_pos (s : Bs) (h : s ≠ []) : 0 < fl s := by
  have := ln_pos s h
  unfold fl
  omega
def entsN : Nat → Bs → List (Bs × Bs)
  | 0, _ => []
  | n + 1, s => if s = [] then [] else if nameB (s.take (ln s)) = [] then entsN n (s.drop (ln s)) else (nameB (s.take (ln s)), s.take (fl s)) :: entsN n (s.drop (fl s))
/-- A text's fields: names and lines. -/
def ents (s : Bs) : List (Bs × Bs) := entsN s.length s
theorem entsN_more : ∀ (n m : Nat) (s : Bs), s.length ≤ n → s.length ≤ m → entsN n s = entsN m s
  | 0, 0, s, h1, h2 => rfl
  | 0, m + 1, s, h1, h2 => by
    have : s = [] := List.eq_nil_of_length_eq_zero (by omega)
    subst this; simp [entsN]
  | n + 1, 0, s, h1, h2 => by
    have : s = [] := List.eq_nil_of_length_eq_zero (by omega)
    subst this; simp [entsN]
  | n + 1, m + 1, s, h1, h2 => by
    unfold entsN
    by_cases h0 : s = []
    · simp [h0]
    · rw [if_neg h0, if_neg h0]
      have := ln_pos s h0
      have := fl_pos s h0
      rw [entsN_more n m (s.drop (ln s)) (by simp; omega) (by simp; omega), entsN_more n m (s.drop (fl s)) (by simp; omega) (by simp; omega)]
theorem ents_nil : ents [] = [] := rfl
theorem ents_step (s : Bs) (h : s ≠ []) : ents s = if nameB (s.take (ln s)) = [] then ents (s.drop (ln s)) else (nameB (s.take (ln s)), s.take (fl s)) :: ents (s.drop (fl s)) := by
  unfold ents
  cases s with
  | nil => exact absurd rfl h
  | cons c t =>
    have := ln_pos (c :: t) h
    have := fl_pos (c :: t) h
    rw [show (c :: t).length = t.length + 1 from rfl, entsN, if_neg h, entsN_more t.length ((c :: t).drop (ln (c :: t))).length _ (by simp; omega) (Nat.le_refl _), entsN_more t.length ((c :: t).drop (fl (c :: t))).length _ (by simp; omega) (Nat.le_refl _)]

/-- A text without the line end behind it. -/
def bare (s : Bs) : Bs := if s.getLast? = some 10 then (if s.dropLast.getLast? = some 13 then s.dropLast.dropLast else s.dropLast) else s
theorem bare_len (s : Bs) : (bare s).length ≤ s.length := by
  unfold bare
  split
  · split <;> simp <;> omega
  · exact Nat.le_refl _
/-- A text's fields: names and values. -/
def fieldsP (s : Bs) : List (Bs × Bs) := (ents s).map fun e => (e.1, bare (e.2.drop (e.1.length + 1)))

def small (c : UInt8) : UInt8 := if 65 ≤ c.toNat ∧ c.toNat ≤ 90 then c + 32 else c
def low (l : Bs) : Bs := l.map small
theorem low_len (l : Bs) : (low l).length = l.length := by simp [low]

def trimW (l : Bs) : Bs := Go.Lib.trimS l [32, 9]
def trimA (l : Bs) : Bs := Go.Lib.trimS l [9, 10, 13, 32]
theorem dw_len (p : UInt8 → Bool) (l : Bs) : (l.dropWhile p).length ≤ l.length := (List.dropWhile_suffix p (l := l)).length_le
theorem trimS_len (l cs : Bs) : (Go.Lib.trimS l cs).length ≤ l.length := by
  unfold Go.Lib.trimS Go.Lib.trimLeftS Go.Lib.trimRightS
  have h1 := dw_len (cs.contains ·) (l.reverse.dropWhile (cs.contains ·)).reverse
  have h2 := dw_len (cs.contains ·) l.reverse
  simp at h1 h2 ⊢
  omega
/-- A value on one line. -/
def unf (s : Bs) : Bs := trimW ((s.filter (· != 10)).filter (· != 13))
theorem unf_len (s : Bs) : (unf s).length ≤ s.length := by
  unfold unf trimW
  refine Nat.le_trans (trimS_len _ _) (Nat.le_trans (List.length_filter_le _ _) (List.length_filter_le _ _))
/-- Is a name one of some, in whatever letters? -/
def amongP (n : Bs) (names : List Bs) : Bool := (names.map low).contains (low n)
def getP (l : List (Bs × Bs)) (names : List Bs) : List Bs := (l.filter fun f => amongP f.1 names).map fun f => unf f.2
def onlyP (s : Bs) (not : Bool) (names : List Bs) : Bs := ((ents s).filter fun e => amongP e.1 names != not).flatMap (fun e => e.2) ++ [13, 10]
end Go.Proofs.YtaniljfjmbifnaaGreatDoor.H
