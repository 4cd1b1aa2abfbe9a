/- What this text holds: days of the Gregorian calendar and their numbers, as plain facts. No program in it. · What this text holds: how texts of dates are read, as plain facts about lists of bytes. No program in it. · What this text holds: the text of a right date is read as that date. Plain facts, no program in it. -/
namespace Go.Proofs.YtaniljfjmbifnaaGreatDoor.D
set_option linter.unusedVariables false

/-- One more day in years with a 29th of February. -/
def lp (y : Int) : Int := if y % 400 = 0 ∨ y % 4 = 0 ∧ y % 100 ≠ 0 then 1 else 0
theorem lp_or (y : Int) : lp y = 0 ∨ lp y = 1 := by unfold lp; split <;> simp
/-- How many days a month has; how many days of the year are ahead of it. -/
def long (y m : Int) : Int := if m = 2 then 28 + lp y else if m = 4 ∨ m = 6 ∨ m = 9 ∨ m = 11 then 30 else 31
def before (y m : Int) : Int :=
  if m ≤ 1 then 0 else if m = 2 then 31 else if m = 3 then 59 + lp y else if m = 4 then 90 + lp y else if m = 5 then 120 + lp y else if m = 6 then 151 + lp y
  else if m = 7 then 181 + lp y else if m = 8 then 212 + lp y else if m = 9 then 243 + lp y else if m = 10 then 273 + lp y else if m = 11 then 304 + lp y else 334 + lp y
/-- The days of all years ahead of one. -/
def ahead (y : Int) : Int := 365 * (y - 1) + (y - 1) / 4 - (y - 1) / 100 + (y - 1) / 400
def There (y m d : Int) : Prop := 1 ≤ y ∧ y ≤ 9999 ∧ 1 ≤ m ∧ m ≤ 12 ∧ 1 ≤ d ∧ d ≤ long y m
instance (y m d : Int) : Decidable (There y m d) := by unfold There; infer_instance
/-- A day's number. -/
def dayNo (y m d : Int) : Int := ahead y - 719162 + before y m + d - 1
theorem ahead70 : ahead 1970 = 719162 := by decide
theorem month_cases {m : Int} (h1 : 1 ≤ m) (h2 : m ≤ 12) : m = 1 ∨ m = 2 ∨ m = 3 ∨ m = 4 ∨ m = 5 ∨ m = 6 ∨ m = 7 ∨ m = 8 ∨ m = 9 ∨ m = 10 ∨ m = 11 ∨ m = 12 := by omega
theorem ahead_next (y : Int) : ahead (y + 1) = ahead y + 365 + lp y := by
  unfold ahead lp
  split <;> omega
theorem ahead_mono {y z : Int} (h : y ≤ z) : ahead y ≤ ahead z := by
  unfold ahead
  omega
theorem before_next {y m : Int} (h1 : 1 ≤ m) (h2 : m ≤ 11) : before y (m + 1) = before y m + long y m := by
  have h := lp_or y
  rcases month_cases h1 (by omega) with rfl | rfl | rfl | rfl | rfl | rfl | rfl | rfl | rfl | rfl | rfl | rfl <;> simp [before, long] <;> omega
theorem before_last (y : Int) : before y 12 + long y 12 = 365 + lp y := by simp [before, long]; omega
theorem long_pos (y m : Int) : 28 ≤ long y m ∧ long y m ≤ 31 := by
  have h := lp_or y
  unfold long
  split
  · omega
  · split <;> omega
theorem before_in {y m : Int} (h1 : 1 ≤ m) (h2 : m ≤ 12) : 0 ≤ before y m ∧ before y m + long y m ≤ 365 + lp y := by
  have h := lp_or y
  rcases month_cases h1 h2 with rfl | rfl | rfl | rfl | rfl | rfl | rfl | rfl | rfl | rfl | rfl | rfl <;> simp [before, long] <;> omega
theorem before_lt {y m n : Int} (h1 : 1 ≤ m) (h2 : n ≤ 12) (h : m < n) : before y m + long y m ≤ before y n := by
  have hl := lp_or y
  rcases month_cases h1 (by omega) with rfl | rfl | rfl | rfl | rfl | rfl | rfl | rfl | rfl | rfl | rfl | rfl <;>
    rcases month_cases (m := n) (by omega) h2 with rfl | rfl | rfl | rfl | rfl | rfl | rfl | rfl | rfl | rfl | rfl | rfl <;> first | omega | (simp [before, long] <;> omega)
theorem day_in {y m d : Int} (h : There y m d) : ahead y - 719162 ≤ dayNo y m d ∧ dayNo y m d < ahead (y + 1) - 719162 := by
  obtain ⟨h1, h2, h3, h4, h5, h6⟩ := h
  have hb := before_in (y := y) h3 h4
  have ha := ahead_next y
  unfold dayNo
  omega
/-- Days behind one another have numbers behind one another. -/
theorem day_next {y m d : Int} : dayNo y m (d + 1) = dayNo y m d + 1 := by unfold dayNo; omega
theorem day_month {y m : Int} (h1 : 1 ≤ m) (h2 : m ≤ 11) : dayNo y (m + 1) 1 = dayNo y m (long y m) + 1 := by
  have := before_next (y := y) h1 h2
  unfold dayNo; omega
theorem day_year (y : Int) : dayNo (y + 1) 1 1 = dayNo y 12 31 + 1 := by
  have h1 := ahead_next y
  have h2 := before_last y
  have h3 : before (y + 1) 1 = 0 := by simp [before]
  have h4 : long y 12 = 31 := by simp [long]
  unfold dayNo; omega
/-- A day has its number alone. -/
theorem day_uniq {y m d y' m' d' : Int} (h : There y m d) (h' : There y' m' d') (e : dayNo y m d = dayNo y' m' d') : y = y' ∧ m = m' ∧ d = d' := by
  have i1 := day_in h
  have i2 := day_in h'
  have ey : y = y' := by
    rcases Int.lt_trichotomy y y' with hlt | rfl | hlt
    · have := ahead_mono (show y + 1 ≤ y' by omega); omega
    · rfl
    · have := ahead_mono (show y' + 1 ≤ y by omega); omega
  subst ey
  obtain ⟨h1, h2, h3, h4, h5, h6⟩ := h
  obtain ⟨k1, k2, k3, k4, k5, k6⟩ := h'
  have em : m = m' := by
    rcases Int.lt_trichotomy m m' with hlt | rfl | hlt
    · have := before_lt (y := y) h3 k4 hlt; unfold dayNo at e; omega
    · rfl
    · have := before_lt (y := y) k3 h4 hlt; unfold dayNo at e; omega
  subst em
  refine ⟨rfl, rfl, ?_⟩
  unfold dayNo at e; omega
theorem first_day : dayNo 1 1 1 = -719162 := by decide
theorem last_day : dayNo 9999 12 31 = 2932896 := by decide
theorem day_range {y m d : Int} (h : There y m d) : -719162 ≤ dayNo y m d ∧ dayNo y m d ≤ 2932896 := by
  have i := day_in h
  have a1 := ahead_mono h.1
  have a2 := ahead_mono (show y + 1 ≤ 10000 by have := h.2.1; omega)
  have e1 : ahead 1 = 0 := by decide
  have e2 : ahead 10000 = 3652059 := by decide
  omega
theorem year_of : ∀ (n : Nat) (N : Int), ahead 1 - 719162 ≤ N → N < ahead (1 + n) - 719162 → ∃ y : Int, 1 ≤ y ∧ y < 1 + (n : Int) ∧ ahead y - 719162 ≤ N ∧ N < ahead (y + 1) - 719162
  | 0, N, h1, h2 => by simp at h2; omega
  | n + 1, N, h1, h2 => by
    by_cases h : N < ahead (1 + n) - 719162
    · obtain ⟨y, a, b, c, d⟩ := year_of n N h1 h
      exact ⟨y, a, by omega, c, d⟩
    · refine ⟨1 + (n : Int), by omega, by omega, by omega, ?_⟩
      have e : (1 : Int) + ((n + 1 : Nat) : Int) = 1 + (n : Int) + 1 := by omega
      rw [e] at h2
      exact h2
theorem month_of (y k : Int) (h0 : 0 ≤ k) (h1 : k < 365 + lp y) : ∃ m, 1 ≤ m ∧ m ≤ 12 ∧ before y m ≤ k ∧ k < before y m + long y m := by
  have hl := lp_or y
  by_cases c1 : k < before y 2
  · exact ⟨1, by omega, by omega, by simp [before]; omega, by simp [before, long] at c1 ⊢; omega⟩
  by_cases c2 : k < before y 3
  · exact ⟨2, by omega, by omega, by omega, by rw [← before_next (by omega) (by omega)]; exact c2⟩
  by_cases c3 : k < before y 4
  · exact ⟨3, by omega, by omega, by omega, by rw [← before_next (by omega) (by omega)]; exact c3⟩
  by_cases c4 : k < before y 5
  · exact ⟨4, by omega, by omega, by omega, by rw [← before_next (by omega) (by omega)]; exact c4⟩
  by_cases c5 : k < before y 6
  · exact ⟨5, by omega, by omega, by omega, by rw [← before_next (by omega) (by omega)]; exact c5⟩
  by_cases c6 : k < before y 7
  · exact ⟨6, by omega, by omega, by omega, by rw [← before_next (by omega) (by omega)]; exact c6⟩
  by_cases c7 : k < before y 8
  · exact ⟨7, by omega, by omega, by omega, by rw [← before_next (by omega) (by omega)]; exact c7⟩
  by_cases c8 : k < before y 9
  · exact ⟨8, by omega, by omega, by omega, by rw [← before_next (by omega) (by omega)]; exact c8⟩
  by_cases c9 : k < before y 10
  · exact ⟨9, by omega, by omega, by omega, by rw [← before_next (by omega) (by omega)]; exact c9⟩
  by_cases c10 : k < before y 11
  · exact ⟨10, by omega, by omega, by omega, by rw [← before_next (by omega) (by omega)]; exact c10⟩
  by_cases c11 : k < before y 12
  · exact ⟨11, by omega, by omega, by omega, by rw [← before_next (by omega) (by omega)]; exact c11⟩
  · exact ⟨12, by omega, by omega, by omega, by rw [before_last]; exact h1⟩
/-- Each number from the first day's to the last one's is a day's. -/
theorem day_of (N : Int) (h1 : -719162 ≤ N) (h2 : N ≤ 2932896) : ∃ y m d, There y m d ∧ dayNo y m d = N := by
  have e1 : ahead 1 = 0 := by decide
  have e2 : ahead (1 + ((9999 : Nat) : Int)) = 3652059 := by decide
  obtain ⟨y, y1, y2, y3, y4⟩ := year_of 9999 N (by omega) (by omega)
  have ha := ahead_next y
  obtain ⟨m, m1, m2, m3, m4⟩ := month_of y (N - (ahead y - 719162)) (by omega) (by omega)
  refine ⟨y, m, N - (ahead y - 719162) - before y m + 1, ⟨y1, by omega, m1, m2, by omega, by omega⟩, ?_⟩
  unfold dayNo; omega
end Go.Proofs.YtaniljfjmbifnaaGreatDoor.D
namespace Go.Proofs.YtaniljfjmbifnaaGreatDoor.D
set_option linter.unusedVariables false

abbrev Bs := List UInt8
def lowB (c : UInt8) : UInt8 := if 65 ≤ c ∧ c ≤ 90 then c + 32 else c
def low (l : Bs) : Bs := l.map lowB
def blankB (c : UInt8) : Bool := c == 32 || c == 9 || c == 13 || c == 10
def digB (c : UInt8) : Bool := decide (48 ≤ c) && decide (c ≤ 57)
/-- Does a text begin so, in whatever letters? -/
def hasP (l b : Bs) : Bool := low (l.take b.length) == low b
def needP (b l : Bs) : Option Bs := if hasP l b then some (l.drop b.length) else none
def gapP (l : Bs) : Option Bs := match l with
  | c :: r => if blankB c then some (r.dropWhile blankB) else none
  | [] => none
def valF (n : Int) (c : UInt8) : Int := 10 * n + ((c.toNat : Int) - 48)
def val (l : Bs) : Int := l.foldl valF 0
def numL (most : Nat) (l : Bs) : Bs := (l.take most).takeWhile digB
def numP (least most : Nat) (l : Bs) : Option (Int × Bs) :=
  if (numL most l).length < least then none else some (val (numL most l), l.drop (numL most l).length)
def upToP (most : Int) (l : Bs) : Option (Int × Bs) :=
  match numP 2 2 l with
  | some (n, r) => if n > most then none else some (n, r)
  | none => none
def nameF (names : Bs) (n : Nat) (l : Bs) : Option Nat := (List.range n).find? fun i => hasP l ((names.drop (3 * i)).take 3)
def months : Bs := [74, 97, 110, 70, 101, 98, 77, 97, 114, 65, 112, 114, 77, 97, 121, 74, 117, 110, 74, 117, 108, 65, 117, 103, 83, 101, 112, 79, 99, 116, 78, 111, 118, 68, 101, 99]
def weekdays : Bs := [77, 111, 110, 84, 117, 101, 87, 101, 100, 84, 104, 117, 70, 114, 105, 83, 97, 116, 83, 117, 110]
def monthP (l : Bs) : Option (Int × Bs) := match nameF months 12 l with
  | some i => some ((i : Int) + 1, l.drop 3)
  | none => none
def weekdayP (l : Bs) : Option Bs := match nameF weekdays 7 l with
  | some _ => (needP [44] (l.drop 3)).bind gapP
  | none => some l
def minutesP (l : Bs) : Option (Int × Bs) :=
  match upToP 23 l with
  | some (h, r) => match upToP 59 r with
    | some (m, r') => some (60 * h + m, r')
    | none => none
  | none => none
def zoneP (l : Bs) : Option (Int × Bs) :=
  if hasP l [43] then minutesP (l.drop 1)
  else if hasP l [45] then (minutesP (l.drop 1)).map fun x => (-x.1, x.2)
  else if hasP l [71, 77, 84] then some (0, l.drop 3)
  else if hasP l [85, 84] then some (0, l.drop 2)
  else none
/-- Hours, minutes, seconds (those that there are, or what was there). -/
def clockP (l : Bs) : Option ((Int × Int × Option Int) × Bs) :=
  match numP 2 2 l with
  | none => none
  | some (h, r) => match needP [58] r with
    | none => none
    | some r => match numP 2 2 r with
      | none => none
      | some (m, r) => if hasP r [58] then
          match numP 2 2 (r.drop 1) with
          | none => none
          | some (s, r) => some ((h, m, some s), r)
        else some ((h, m, none), r)
structure Dt where
  y : Int
  mo : Int
  d : Int
  h : Int
  mi : Int
  s : Int
  z : Int
deriving DecidableEq
def Dt.zero : Dt := ⟨0, 0, 0, 0, 0, 0, 0⟩
structure Rd where
  l : Bs
  t : Dt
deriving DecidableEq
def dayP (r : Rd) : Option Rd :=
  match numP 1 2 r.l with
  | none => none
  | some (d, l) => match needP [45] l with
    | none => none
    | some l => match monthP l with
      | none => none
      | some (m, l) => match needP [45] l with
        | none => none
        | some l => match numP 4 4 l with
          | none => none
          | some (y, l) => some ⟨l, { r.t with d := d, mo := m, y := y }⟩
def clockR (r : Rd) : Option Rd :=
  match clockP r.l with
  | none => none
  | some ((h, m, s), l) => some ⟨l, { r.t with h := h, mi := m, s := s.getD r.t.s }⟩
def zoneR (r : Rd) : Option Rd :=
  match zoneP r.l with
  | none => none
  | some (z, l) => some ⟨l, { r.t with z := z }⟩
def gapR (r : Rd) : Option Rd := match gapP r.l with
  | none => none
  | some l => some ⟨l, r.t⟩
def internalP (r : Rd) : Option Rd := ((((dayP ⟨r.l.dropWhile blankB, r.t⟩).bind gapR).bind clockR).bind gapR).bind zoneR
def mailDay (r : Rd) : Option Rd :=
  match weekdayP r.l with
  | none => none
  | some l => match numP 1 2 l with
    | none => none
    | some (d, l) => match gapP l with
      | none => none
      | some l => match monthP l with
        | none => none
        | some (m, l) => match gapP l with
          | none => none
          | some l => match numP 4 4 l with
            | none => none
            | some (y, l) => some ⟨l, { r.t with d := d, mo := m, y := y }⟩
def mailP (r : Rd) : Option Rd :=
  match ((((mailDay ⟨r.l.dropWhile blankB, r.t⟩).bind gapR).bind clockR).bind gapR).bind zoneR with
  | none => none
  | some r => some ⟨r.l.dropWhile blankB, r.t⟩

/-! The text of a date. -/
def dg (n : Int) : UInt8 := UInt8.ofNat (48 + (n % 10).toNat)
def two (n : Int) : Bs := [dg (n / 10), dg n]
def four (n : Int) : Bs := two (n / 100) ++ two n
def monthN (m : Int) : Bs := (months.drop (3 * (m - 1).toNat)).take 3
def zoneN (z : Int) : Bs := if z < 0 then 45 :: (two (-z / 60) ++ two (-z % 60)) else 43 :: (two (z / 60) ++ two (z % 60))
def dayN (d : Int) : Bs := if d < 10 then [32, dg d] else two d
def printN (t : Dt) (c : UInt8) : Bs :=
  dayN t.d ++ [c] ++ monthN t.mo ++ [c] ++ four t.y ++ [32] ++ two t.h ++ [58] ++ two t.mi ++ [58] ++ two t.s ++ [32] ++ zoneN t.z
end Go.Proofs.YtaniljfjmbifnaaGreatDoor.D
namespace Go.Proofs.YtaniljfjmbifnaaGreatDoor.D
set_option linter.unusedVariables false

def RightP (t : Dt) : Prop := There t.y t.mo t.d ∧ 0 ≤ t.h ∧ t.h ≤ 23 ∧ 0 ≤ t.mi ∧ t.mi ≤ 59 ∧ 0 ≤ t.s ∧ t.s ≤ 59 ∧ -1439 ≤ t.z ∧ t.z ≤ 1439
instance (t : Dt) : Decidable (RightP t) := by unfold RightP; infer_instance

theorem dg_all : ∀ k < 10, digB (UInt8.ofNat (48 + k)) = true ∧ (UInt8.ofNat (48 + k)).toNat = 48 + k ∧ blankB (UInt8.ofNat (48 + k)) = false := by decide
theorem dg_dig (n : Int) : digB (dg n) = true := (dg_all _ (by omega)).1
theorem dg_nb (n : Int) : blankB (dg n) = false := (dg_all _ (by omega)).2.2
theorem dg_val (n : Int) : ((dg n).toNat : Int) = 48 + n % 10 := by
  have := (dg_all (n % 10).toNat (by omega)).2.1
  unfold dg
  rw [this]
  omega
theorem num_two (n : Int) (r : Bs) (h0 : 0 ≤ n) (h1 : n < 100) : numP 2 2 (two n ++ r) = some (n, r) := by
  have e : numL 2 (two n ++ r) = two n := by simp [numL, two, dg_dig]
  unfold numP
  rw [e]
  simp [two, val, valF, dg_val]
  omega
theorem num_four (n : Int) (r : Bs) (h0 : 0 ≤ n) (h1 : n < 10000) : numP 4 4 (four n ++ r) = some (n, r) := by
  have e : numL 4 (four n ++ r) = four n := by simp [numL, four, two, dg_dig]
  unfold numP
  rw [e]
  simp [four, two, val, valF, dg_val]
  omega
theorem num_day (d : Int) (c : UInt8) (r : Bs) (h0 : 1 ≤ d) (h1 : d ≤ 31) (hc : digB c = false) : numP 1 2 ((dayN d ++ c :: r).dropWhile blankB) = some (d, c :: r) := by
  by_cases h : d < 10
  · have e0 : (dayN d ++ c :: r).dropWhile blankB = dg d :: c :: r := by
      have : blankB 32 = true := by decide
      simp [dayN, h, this, dg_nb]
    have e : numL 2 (dg d :: c :: r) = [dg d] := by simp [numL, dg_dig, hc]
    unfold numP
    rw [e0, e]
    simp [val, valF, dg_val]
    omega
  · have e0 : (dayN d ++ c :: r).dropWhile blankB = two d ++ c :: r := by simp [dayN, h, two, dg_nb]
    have e : numL 2 (two d ++ c :: r) = two d := by simp [numL, two, dg_dig]
    unfold numP
    rw [e0, e]
    simp [two, val, valF, dg_val]
    omega
theorem month_back (m : Int) (r : Bs) (h0 : 1 ≤ m) (h1 : m ≤ 12) : monthP (monthN m ++ r) = some (m, r) := by
  rcases month_cases h0 h1 with rfl | rfl | rfl | rfl | rfl | rfl | rfl | rfl | rfl | rfl | rfl | rfl <;> rfl
theorem day_no_weekday (d : Int) (c : UInt8) (r : Bs) (h0 : 1 ≤ d) (h1 : d ≤ 31) : weekdayP ((dayN d ++ c :: r).dropWhile blankB) = some ((dayN d ++ c :: r).dropWhile blankB) := by
  have hw : ∀ k < 10, ∀ l : Bs, nameF weekdays 7 (UInt8.ofNat (48 + k) :: l) = none := by
    intro k hk l
    unfold nameF
    rw [List.find?_eq_none]
    intro i hi
    have hi := List.mem_range.1 hi
    have hl : lowB (UInt8.ofNat (48 + k)) = UInt8.ofNat (48 + k) := by
      have : ∀ k < 10, lowB (UInt8.ofNat (48 + k)) = UInt8.ofNat (48 + k) := by decide
      exact this k hk
    have hne : ∀ i < 7, ∀ k < 10, (low ((weekdays.drop (3 * i)).take 3)).head? ≠ some (UInt8.ofNat (48 + k)) ∧ ((weekdays.drop (3 * i)).take 3).length = 3 := by decide
    have h3 := hne i hi k hk
    intro hh
    unfold hasP at hh
    rw [h3.2] at hh
    have := congrArg List.head? (beq_iff_eq.1 hh)
    rw [show low ((UInt8.ofNat (48 + k) :: l).take 3) = UInt8.ofNat (48 + k) :: low (l.take 2) by rw [List.take_succ_cons]; unfold low; rw [List.map_cons, hl]] at this
    exact h3.1 this.symm
  have hd : ∃ k, k < 10 ∧ ∃ l, (dayN d ++ c :: r).dropWhile blankB = UInt8.ofNat (48 + k) :: l := by
    by_cases h : d < 10
    · refine ⟨(d % 10).toNat, by omega, c :: r, ?_⟩
      have : blankB 32 = true := by decide
      have h2 := dg_nb d
      have h3 : UInt8.ofNat (48 + (d % 10).toNat) = dg d := rfl
      rw [h3]
      simp [dayN, h, this, h2]
    · refine ⟨((d / 10) % 10).toNat, by omega, dg d :: c :: r, ?_⟩
      have h2 := dg_nb (d / 10)
      have h3 : UInt8.ofNat (48 + (d / 10 % 10).toNat) = dg (d / 10) := rfl
      rw [h3]
      simp [dayN, h, two, h2]
  obtain ⟨k, hk, l, e⟩ := hd
  unfold weekdayP
  rw [e, hw k hk]
theorem upTo_two (n b : Int) (r : Bs) (h0 : 0 ≤ n) (h1 : n ≤ b) (h2 : b < 100) : upToP b (two n ++ r) = some (n, r) := by
  unfold upToP
  rw [num_two n r h0 (by omega)]
  simp
  omega
theorem minutes_back (z : Int) (h0 : 0 ≤ z) (h1 : z ≤ 1439) : minutesP (two (z / 60) ++ two (z % 60)) = some (z, []) := by
  unfold minutesP
  rw [upTo_two (z / 60) 23 _ (by omega) (by omega) (by omega)]
  have := upTo_two (z % 60) 59 [] (by omega) (by omega) (by omega)
  rw [List.append_nil] at this
  simp [this]
  omega
theorem zone_back (z : Int) (h0 : -1439 ≤ z) (h1 : z ≤ 1439) : zoneP (zoneN z) = some (z, []) := by
  unfold zoneN
  split
  · have := minutes_back (-z) (by omega) (by omega)
    have e1 : ∀ r : Bs, hasP (45 :: r) [43] = false := fun _ => rfl
    have e2 : ∀ r : Bs, hasP (45 :: r) [45] = true := fun _ => rfl
    unfold zoneP
    rw [e1, e2]
    simp [this]
  · have := minutes_back z (by omega) (by omega)
    have e1 : ∀ r : Bs, hasP (43 :: r) [43] = true := fun _ => rfl
    unfold zoneP
    rw [e1]
    simp [this]
theorem clock_back (h mi s : Int) (r : Bs) (h0 : 0 ≤ h) (h1 : h ≤ 23) (h2 : 0 ≤ mi) (h3 : mi ≤ 59) (h4 : 0 ≤ s) (h5 : s ≤ 59) :
    clockP (two h ++ 58 :: (two mi ++ 58 :: (two s ++ r))) = some ((h, mi, some s), r) := by
  have e1 : ∀ r : Bs, needP [58] (58 :: r) = some r := fun _ => rfl
  have e2 : ∀ r : Bs, hasP (58 :: r) [58] = true := fun _ => rfl
  unfold clockP
  rw [num_two h _ h0 (by omega)]
  simp only [e1]
  rw [num_two mi _ h2 (by omega)]
  simp only [e2, List.drop_succ_cons, List.drop_zero, if_true]
  rw [num_two s _ h4 (by omega)]
theorem gap_one (x : UInt8) (r : Bs) (h : blankB x = false) : gapP (32 :: x :: r) = some (x :: r) := by
  have : blankB 32 = true := by decide
  simp [gapP, this, h]
theorem gap_two (n : Int) (r : Bs) : gapP (32 :: (two n ++ r)) = some (two n ++ r) := gap_one _ _ (dg_nb _)
theorem gap_zone (z : Int) : gapP (32 :: zoneN z) = some (zoneN z) := by
  unfold zoneN
  split <;> exact gap_one _ _ (by decide)
theorem gap_month (m : Int) (r : Bs) (h0 : 1 ≤ m) (h1 : m ≤ 12) : gapP (32 :: (monthN m ++ r)) = some (monthN m ++ r) := by
  rcases month_cases h0 h1 with rfl | rfl | rfl | rfl | rfl | rfl | rfl | rfl | rfl | rfl | rfl | rfl <;> rfl
theorem gap_four (n : Int) (r : Bs) : gapP (32 :: (four n ++ r)) = some (four n ++ r) := gap_one _ _ (dg_nb _)
theorem print_shape (t : Dt) (c : UInt8) : printN t c = dayN t.d ++ c :: (monthN t.mo ++ c :: (four t.y ++ 32 :: (two t.h ++ 58 :: (two t.mi ++ 58 :: (two t.s ++ 32 :: zoneN t.z))))) := by
  simp [printN]
theorem tail_back (t : Dt) (hr : RightP t) (u : Dt) : (((gapR ⟨32 :: (two t.h ++ 58 :: (two t.mi ++ 58 :: (two t.s ++ 32 :: zoneN t.z))), u⟩).bind clockR).bind gapR).bind zoneR = some ⟨[], { u with h := t.h, mi := t.mi, s := t.s, z := t.z }⟩ := by
  obtain ⟨⟨h1, h2, h3, h4, h5, h6⟩, k1, k2, k3, k4, k5, k6, k7, k8⟩ := hr
  simp only [gapR, gap_two, Option.bind_some, clockR]
  rw [clock_back _ _ _ _ k1 k2 k3 k4 k5 k6]
  simp only [Option.bind_some, gapR, gap_zone, zoneR]
  rw [zone_back _ k7 k8]
  rfl
/-- Internal reads what Print tells. -/
theorem internal_back (t : Dt) (hr : RightP t) : internalP ⟨printN t 45, Dt.zero⟩ = some ⟨[], t⟩ := by
  have hr' := hr
  obtain ⟨⟨h1, h2, h3, h4, h5, h6⟩, k1, k2, k3, k4, k5, k6, k7, k8⟩ := hr'
  have hl := long_pos t.y t.mo
  have e1 : ∀ r : Bs, needP [45] (45 :: r) = some r := fun _ => rfl
  have hd : dayP ⟨(printN t 45).dropWhile blankB, Dt.zero⟩ = some ⟨32 :: (two t.h ++ 58 :: (two t.mi ++ 58 :: (two t.s ++ 32 :: zoneN t.z))), { Dt.zero with d := t.d, mo := t.mo, y := t.y }⟩ := by
    unfold dayP
    rw [print_shape, num_day _ _ _ h5 (by omega) (by decide)]
    simp only [e1]
    rw [month_back _ _ h3 h4]
    simp only [e1]
    rw [num_four _ _ (by omega) (by omega)]
  unfold internalP
  rw [hd, Option.bind_some, tail_back t hr]
/-- Mail reads it with blanks. -/
theorem mail_back (t : Dt) (hr : RightP t) : mailP ⟨printN t 32, Dt.zero⟩ = some ⟨[], t⟩ := by
  have hr' := hr
  obtain ⟨⟨h1, h2, h3, h4, h5, h6⟩, k1, k2, k3, k4, k5, k6, k7, k8⟩ := hr'
  have hl := long_pos t.y t.mo
  have hd : mailDay ⟨(printN t 32).dropWhile blankB, Dt.zero⟩ = some ⟨32 :: (two t.h ++ 58 :: (two t.mi ++ 58 :: (two t.s ++ 32 :: zoneN t.z))), { Dt.zero with d := t.d, mo := t.mo, y := t.y }⟩ := by
    unfold mailDay
    rw [print_shape, day_no_weekday _ _ _ h5 (by omega)]
    simp only
    rw [num_day _ _ _ h5 (by omega) (by decide)]
    simp only
    rw [gap_month _ _ h3 h4]
    simp only
    rw [month_back _ _ h3 h4]
    simp only
    rw [gap_four]
    simp only
    rw [num_four _ _ (by omega) (by omega)]
  unfold mailP
  rw [hd, Option.bind_some, tail_back t hr]
  rfl
end Go.Proofs.YtaniljfjmbifnaaGreatDoor.D
