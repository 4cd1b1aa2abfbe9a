/- What this text holds: days of the Gregorian calendar and their numbers, as plain facts. No program in it. -/
namespace Go.Proofs.YtnjdgbbdjkhpoaaDoor
set_option linter.unusedVariables false

/-- One more day in years with a 29th of February. -/
def lp (y : Int) : Int := if y % 400 = 0 ∨ y % 4 = 0 ∧ y % 100 ≠ 0 then 1 else 0
theorem lp_or (y : Int) : lp y = 0 ∨ lp y = 1 := by unfold lp; split <;> simp
/-- How many days a month has; how many days of the year are ahead of it. -/
def long (y m : Int) : Int := if m = 2 then 28 + lp y else if m = 4 ∨ m = 6 ∨ m = 9 ∨ m = 11 then 30 else 31
def before (y m : Int) : Int :=
  if m ≤ 1 then 0 else if m = 2 then 31 else if m = 3 then 59 + lp y else if m = 4 then 90 + lp y else if m = 5 then 120 + lp y else if m = 6 then 151 + lp y
  else if m = 7 then 181 + lp y else if m = 8 then 212 + lp y else if m = 9 then 243 + lp y else if m = 10 then 273 + lp y else if m = 11 then 304 + lp y else 334 + lp y
/-- The days of all years ahead of one. -/
def ahead (y : Int) : Int := 365 * (y - 1) + (y - 1) / 4 - (y - 1) / 100 + (y - 1) / 400
def There (y m d : Int) : Prop := 1 ≤ y ∧ y ≤ 9999 ∧ 1 ≤ m ∧ m ≤ 12 ∧ 1 ≤ d ∧ d ≤ long y m
instance (y m d : Int) : Decidable (There y m d) := by unfold There; infer_instance
/-- A day's number. -/
def dayNo (y m d : Int) : Int := ahead y - 719162 + before y m + d - 1
theorem ahead70 : ahead 1970 = 719162 := by decide
theorem month_cases {m : Int} (h1 : 1 ≤ m) (h2 : m ≤ 12) : m = 1 ∨ m = 2 ∨ m = 3 ∨ m = 4 ∨ m = 5 ∨ m = 6 ∨ m = 7 ∨ m = 8 ∨ m = 9 ∨ m = 10 ∨ m = 11 ∨ m = 12 := by omega
theorem ahead_next (y : Int) : ahead (y + 1) = ahead y + 365 + lp y := by
  unfold ahead lp
  split <;> omega
theorem ahead_mono {y z : Int} (h : y ≤ z) : ahead y ≤ ahead z := by
  unfold ahead
  omega
theorem before_next {y m : Int} (h1 : 1 ≤ m) (h2 : m ≤ 11) : before y (m + 1) = before y m + long y m := by
  have h := lp_or y
  rcases month_cases h1 (by omega) with rfl | rfl | rfl | rfl | rfl | rfl | rfl | rfl | rfl | rfl | rfl | rfl <;> simp [before, long] <;> omega
theorem before_last (y : Int) : before y 12 + long y 12 = 365 + lp y := by simp [before, long]; omega
theorem long_pos (y m : Int) : 28 ≤ long y m ∧ long y m ≤ 31 := by
  have h := lp_or y
  unfold long
  split
  · omega
  · split <;> omega
theorem before_in {y m : Int} (h1 : 1 ≤ m) (h2 : m ≤ 12) : 0 ≤ before y m ∧ before y m + long y m ≤ 365 + lp y := by
  have h := lp_or y
  rcases month_cases h1 h2 with rfl | rfl | rfl | rfl | rfl | rfl | rfl | rfl | rfl | rfl | rfl | rfl <;> simp [before, long] <;> omega
theorem before_lt {y m n : Int} (h1 : 1 ≤ m) (h2 : n ≤ 12) (h : m < n) : before y m + long y m ≤ before y n := by
  have hl := lp_or y
  rcases month_cases h1 (by omega) with rfl | rfl | rfl | rfl | rfl | rfl | rfl | rfl | rfl | rfl | rfl | rfl <;>
    rcases month_cases (m := n) (by omega) h2 with rfl | rfl | rfl | rfl | rfl | rfl | rfl | rfl | rfl | rfl | rfl | rfl <;> first | omega | (simp [before, long] <;> omega)
theorem day_in {y m d : Int} (h : There y m d) : ahead y - 719162 ≤ dayNo y m d ∧ dayNo y m d < ahead (y + 1) - 719162 := by
  obtain ⟨h1, h2, h3, h4, h5, h6⟩ := h
  have hb := before_in (y := y) h3 h4
  have ha := ahead_next y
  unfold dayNo
  omega
/-- Days behind one another have numbers behind one another. -/
theorem day_next {y m d : Int} : dayNo y m (d + 1) = dayNo y m d + 1 := by unfold dayNo; omega
theorem day_month {y m : Int} (h1 : 1 ≤ m) (h2 : m ≤ 11) : dayNo y (m + 1) 1 = dayNo y m (long y m) + 1 := by
  have := before_next (y := y) h1 h2
  unfold dayNo; omega
theorem day_year (y : Int) : dayNo (y + 1) 1 1 = dayNo y 12 31 + 1 := by
  have h1 := ahead_next y
  have h2 := before_last y
  have h3 : before (y + 1) 1 = 0 := by simp [before]
  have h4 : long y 12 = 31 := by simp [long]
  unfold dayNo; omega
/-- A day has its number alone. -/
theorem day_uniq {y m d y' m' d' : Int} (h : There y m d) (h' : There y' m' d') (e : dayNo y m d = dayNo y' m' d') : y = y' ∧ m = m' ∧ d = d' := by
  have i1 := day_in h
  have i2 := day_in h'
  have ey : y = y' := by
    rcases Int.lt_trichotomy y y' with hlt | rfl | hlt
    · have := ahead_mono (show y + 1 ≤ y' by omega); omega
    · rfl
    · have := ahead_mono (show y' + 1 ≤ y by omega); omega
  subst ey
  obtain ⟨h1, h2, h3, h4, h5, h6⟩ := h
  obtain ⟨k1, k2, k3, k4, k5, k6⟩ := h'
  have em : m = m' := by
    rcases Int.lt_trichotomy m m' with hlt | rfl | hlt
    · have := before_lt (y := y) h3 k4 hlt; unfold dayNo at e; omega
    · rfl
    · have := before_lt (y := y) k3 h4 hlt; unfold dayNo at e; omega
  subst em
  refine ⟨rfl, rfl, ?_⟩
  unfold dayNo at e; omega
theorem first_day : dayNo 1 1 1 = -719162 := by decide
theorem last_day : dayNo 9999 12 31 = 2932896 := by decide
theorem day_range {y m d : Int} (h : There y m d) : -719162 ≤ dayNo y m d ∧ dayNo y m d ≤ 2932896 := by
  have i := day_in h
  have a1 := ahead_mono h.1
  have a2 := ahead_mono (show y + 1 ≤ 10000 by have := h.2.1; omega)
  have e1 : ahead 1 = 0 := by decide
  have e2 : ahead 10000 = 3652059 := by decide
  omega
theorem year_of : ∀ (n : Nat) (N : Int), ahead 1 - 719162 ≤ N → N < ahead (1 + n) - 719162 → ∃ y : Int, 1 ≤ y ∧ y < 1 + (n : Int) ∧ ahead y - 719162 ≤ N ∧ N < ahead (y + 1) - 719162
  | 0, N, h1, h2 => by simp at h2; omega
  | n + 1, N, h1, h2 => by
    by_cases h : N < ahead (1 + n) - 719162
    · obtain ⟨y, a, b, c, d⟩ := year_of n N h1 h
      exact ⟨y, a, by omega, c, d⟩
    · refine ⟨1 + (n : Int), by omega, by omega, by omega, ?_⟩
      have e : (1 : Int) + ((n + 1 : Nat) : Int) = 1 + (n : Int) + 1 := by omega
      rw [e] at h2
      exact h2
theorem month_of (y k : Int) (h0 : 0 ≤ k) (h1 : k < 365 + lp y) : ∃ m, 1 ≤ m ∧ m ≤ 12 ∧ before y m ≤ k ∧ k < before y m + long y m := by
  have hl := lp_or y
  by_cases c1 : k < before y 2
  · exact ⟨1, by omega, by omega, by simp [before]; omega, by simp [before, long] at c1 ⊢; omega⟩
  by_cases c2 : k < before y 3
  · exact ⟨2, by omega, by omega, by omega, by rw [← before_next (by omega) (by omega)]; exact c2⟩
  by_cases c3 : k < before y 4
  · exact ⟨3, by omega, by omega, by omega, by rw [← before_next (by omega) (by omega)]; exact c3⟩
  by_cases c4 : k < before y 5
  · exact ⟨4, by omega, by omega, by omega, by rw [← before_next (by omega) (by omega)]; exact c4⟩
  by_cases c5 : k < before y 6
  · exact ⟨5, by omega, by omega, by omega, by rw [← before_next (by omega) (by omega)]; exact c5⟩
  by_cases c6 : k < before y 7
  · exact ⟨6, by omega, by omega, by omega, by rw [← before_next (by omega) (by omega)]; exact c6⟩
  by_cases c7 : k < before y 8
  · exact ⟨7, by omega, by omega, by omega, by rw [← before_next (by omega) (by omega)]; exact c7⟩
  by_cases c8 : k < before y 9
  · exact ⟨8, by omega, by omega, by omega, by rw [← before_next (by omega) (by omega)]; exact c8⟩
  by_cases c9 : k < before y 10
  · exact ⟨9, by omega, by omega, by omega, by rw [← before_next (by omega) (by omega)]; exact c9⟩
  by_cases c10 : k < before y 11
  · exact ⟨10, by omega, by omega, by omega, by rw [← before_next (by omega) (by omega)]; exact c10⟩
  by_cases c11 : k < before y 12
  · exact ⟨11, by omega, by omega, by omega, by rw [← before_next (by omega) (by omega)]; exact c11⟩
  · exact ⟨12, by omega, by omega, by omega, by rw [before_last]; exact h1⟩
/-- Each number from the first day's to the last one's is a day's. -/
theorem day_of (N : Int) (h1 : -719162 ≤ N) (h2 : N ≤ 2932896) : ∃ y m d, There y m d ∧ dayNo y m d = N := by
  have e1 : ahead 1 = 0 := by decide
  have e2 : ahead (1 + ((9999 : Nat) : Int)) = 3652059 := by decide
  obtain ⟨y, y1, y2, y3, y4⟩ := year_of 9999 N (by omega) (by omega)
  have ha := ahead_next y
  obtain ⟨m, m1, m2, m3, m4⟩ := month_of y (N - (ahead y - 719162)) (by omega) (by omega)
  refine ⟨y, m, N - (ahead y - 719162) - before y m + 1, ⟨y1, by omega, m1, m2, by omega, by omega⟩, ?_⟩
  unfold dayNo; omega
end Go.Proofs.YtnjdgbbdjkhpoaaDoor
