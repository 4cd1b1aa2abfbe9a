/- What this text holds: the text of a right date is read as that date. Plain facts, no program in it. -/
import Derived.Test.YtnjdgbbdjkhpoaaDoorPDate
import Derived.Test.YtnjdgbbdjkhpoaaDoorPRead
namespace Go.Proofs.YtnjdgbbdjkhpoaaDoor
set_option linter.unusedVariables false

def RightP (t : Dt) : Prop := There t.y t.mo t.d ∧ 0 ≤ t.h ∧ t.h ≤ 23 ∧ 0 ≤ t.mi ∧ t.mi ≤ 59 ∧ 0 ≤ t.s ∧ t.s ≤ 59 ∧ -1439 ≤ t.z ∧ t.z ≤ 1439
instance (t : Dt) : Decidable (RightP t) := by unfold RightP; infer_instance

theorem dg_all : ∀ k < 10, digB (UInt8.ofNat (48 + k)) = true ∧ (UInt8.ofNat (48 + k)).toNat = 48 + k ∧ blankB (UInt8.ofNat (48 + k)) = false := by decide
theorem dg_dig (n : Int) : digB (dg n) = true := (dg_all _ (by omega)).1
theorem dg_nb (n : Int) : blankB (dg n) = false := (dg_all _ (by omega)).2.2
theorem dg_val (n : Int) : ((dg n).toNat : Int) = 48 + n % 10 := by
  have := (dg_all (n % 10).toNat (by omega)).2.1
  unfold dg
  rw [this]
  omega
theorem num_two (n : Int) (r : Bs) (h0 : 0 ≤ n) (h1 : n < 100) : numP 2 2 (two n ++ r) = some (n, r) := by
  have e : numL 2 (two n ++ r) = two n := by simp [numL, two, dg_dig]
  unfold numP
  rw [e]
  simp [two, val, valF, dg_val]
  omega
theorem num_four (n : Int) (r : Bs) (h0 : 0 ≤ n) (h1 : n < 10000) : numP 4 4 (four n ++ r) = some (n, r) := by
  have e : numL 4 (four n ++ r) = four n := by simp [numL, four, two, dg_dig]
  unfold numP
  rw [e]
  simp [four, two, val, valF, dg_val]
  omega
theorem num_day (d : Int) (c : UInt8) (r : Bs) (h0 : 1 ≤ d) (h1 : d ≤ 31) (hc : digB c = false) : numP 1 2 ((dayN d ++ c :: r).dropWhile blankB) = some (d, c :: r) := by
  by_cases h : d < 10
  · have e0 : (dayN d ++ c :: r).dropWhile blankB = dg d :: c :: r := by
      have : blankB 32 = true := by decide
      simp [dayN, h, this, dg_nb]
    have e : numL 2 (dg d :: c :: r) = [dg d] := by simp [numL, dg_dig, hc]
    unfold numP
    rw [e0, e]
    simp [val, valF, dg_val]
    omega
  · have e0 : (dayN d ++ c :: r).dropWhile blankB = two d ++ c :: r := by simp [dayN, h, two, dg_nb]
    have e : numL 2 (two d ++ c :: r) = two d := by simp [numL, two, dg_dig]
    unfold numP
    rw [e0, e]
    simp [two, val, valF, dg_val]
    omega
theorem month_back (m : Int) (r : Bs) (h0 : 1 ≤ m) (h1 : m ≤ 12) : monthP (monthN m ++ r) = some (m, r) := by
  rcases month_cases h0 h1 with rfl | rfl | rfl | rfl | rfl | rfl | rfl | rfl | rfl | rfl | rfl | rfl <;> rfl
theorem day_no_weekday (d : Int) (c : UInt8) (r : Bs) (h0 : 1 ≤ d) (h1 : d ≤ 31) : weekdayP ((dayN d ++ c :: r).dropWhile blankB) = some ((dayN d ++ c :: r).dropWhile blankB) := by
  have hw : ∀ k < 10, ∀ l : Bs, nameF weekdays 7 (UInt8.ofNat (48 + k) :: l) = none := by
    intro k hk l
    unfold nameF
    rw [List.find?_eq_none]
    intro i hi
    have hi := List.mem_range.1 hi
    have hl : lowB (UInt8.ofNat (48 + k)) = UInt8.ofNat (48 + k) := by
      have : ∀ k < 10, lowB (UInt8.ofNat (48 + k)) = UInt8.ofNat (48 + k) := by decide
      exact this k hk
    have hne : ∀ i < 7, ∀ k < 10, (low ((weekdays.drop (3 * i)).take 3)).head? ≠ some (UInt8.ofNat (48 + k)) ∧ ((weekdays.drop (3 * i)).take 3).length = 3 := by decide
    have h3 := hne i hi k hk
    intro hh
    unfold hasP at hh
    rw [h3.2] at hh
    have := congrArg List.head? (beq_iff_eq.1 hh)
    rw [show low ((UInt8.ofNat (48 + k) :: l).take 3) = UInt8.ofNat (48 + k) :: low (l.take 2) by rw [List.take_succ_cons]; unfold low; rw [List.map_cons, hl]] at this
    exact h3.1 this.symm
  have hd : ∃ k, k < 10 ∧ ∃ l, (dayN d ++ c :: r).dropWhile blankB = UInt8.ofNat (48 + k) :: l := by
    by_cases h : d < 10
    · refine ⟨(d % 10).toNat, by omega, c :: r, ?_⟩
      have : blankB 32 = true := by decide
      have h2 := dg_nb d
      have h3 : UInt8.ofNat (48 + (d % 10).toNat) = dg d := rfl
      rw [h3]
      simp [dayN, h, this, h2]
    · refine ⟨((d / 10) % 10).toNat, by omega, dg d :: c :: r, ?_⟩
      have h2 := dg_nb (d / 10)
      have h3 : UInt8.ofNat (48 + (d / 10 % 10).toNat) = dg (d / 10) := rfl
      rw [h3]
      simp [dayN, h, two, h2]
  obtain ⟨k, hk, l, e⟩ := hd
  unfold weekdayP
  rw [e, hw k hk]
theorem upTo_two (n b : Int) (r : Bs) (h0 : 0 ≤ n) (h1 : n ≤ b) (h2 : b < 100) : upToP b (two n ++ r) = some (n, r) := by
  unfold upToP
  rw [num_two n r h0 (by omega)]
  simp
  omega
theorem minutes_back (z : Int) (h0 : 0 ≤ z) (h1 : z ≤ 1439) : minutesP (two (z / 60) ++ two (z % 60)) = some (z, []) := by
  unfold minutesP
  rw [upTo_two (z / 60) 23 _ (by omega) (by omega) (by omega)]
  have := upTo_two (z % 60) 59 [] (by omega) (by omega) (by omega)
  rw [List.append_nil] at this
  simp [this]
  omega
theorem zone_back (z : Int) (h0 : -1439 ≤ z) (h1 : z ≤ 1439) : zoneP (zoneN z) = some (z, []) := by
  unfold zoneN
  split
  · have := minutes_back (-z) (by omega) (by omega)
    have e1 : ∀ r : Bs, hasP (45 :: r) [43] = false := fun _ => rfl
    have e2 : ∀ r : Bs, hasP (45 :: r) [45] = true := fun _ => rfl
    unfold zoneP
    rw [e1, e2]
    simp [this]
  · have := minutes_back z (by omega) (by omega)
    have e1 : ∀ r : Bs, hasP (43 :: r) [43] = true := fun _ => rfl
    unfold zoneP
    rw [e1]
    simp [this]
theorem clock_back (h mi s : Int) (r : Bs) (h0 : 0 ≤ h) (h1 : h ≤ 23) (h2 : 0 ≤ mi) (h3 : mi ≤ 59) (h4 : 0 ≤ s) (h5 : s ≤ 59) :
    clockP (two h ++ 58 :: (two mi ++ 58 :: (two s ++ r))) = some ((h, mi, some s), r) := by
  have e1 : ∀ r : Bs, needP [58] (58 :: r) = some r := fun _ => rfl
  have e2 : ∀ r : Bs, hasP (58 :: r) [58] = true := fun _ => rfl
  unfold clockP
  rw [num_two h _ h0 (by omega)]
  simp only [e1]
  rw [num_two mi _ h2 (by omega)]
  simp only [e2, List.drop_succ_cons, List.drop_zero, if_true]
  rw [num_two s _ h4 (by omega)]
theorem gap_one (x : UInt8) (r : Bs) (h : blankB x = false) : gapP (32 :: x :: r) = some (x :: r) := by
  have : blankB 32 = true := by decide
  simp [gapP, this, h]
theorem gap_two (n : Int) (r : Bs) : gapP (32 :: (two n ++ r)) = some (two n ++ r) := gap_one _ _ (dg_nb _)
theorem gap_zone (z : Int) : gapP (32 :: zoneN z) = some (zoneN z) := by
  unfold zoneN
  split <;> exact gap_one _ _ (by decide)
theorem gap_month (m : Int) (r : Bs) (h0 : 1 ≤ m) (h1 : m ≤ 12) : gapP (32 :: (monthN m ++ r)) = some (monthN m ++ r) := by
  rcases month_cases h0 h1 with rfl | rfl | rfl | rfl | rfl | rfl | rfl | rfl | rfl | rfl | rfl | rfl <;> rfl
theorem gap_four (n : Int) (r : Bs) : gapP (32 :: (four n ++ r)) = some (four n ++ r) := gap_one _ _ (dg_nb _)
theorem print_shape (t : Dt) (c : UInt8) : printN t c = dayN t.d ++ c :: (monthN t.mo ++ c :: (four t.y ++ 32 :: (two t.h ++ 58 :: (two t.mi ++ 58 :: (two t.s ++ 32 :: zoneN t.z))))) := by
  simp [printN]
theorem tail_back (t : Dt) (hr : RightP t) (u : Dt) : (((gapR ⟨32 :: (two t.h ++ 58 :: (two t.mi ++ 58 :: (two t.s ++ 32 :: zoneN t.z))), u⟩).bind clockR).bind gapR).bind zoneR = some ⟨[], { u with h := t.h, mi := t.mi, s := t.s, z := t.z }⟩ := by
  obtain ⟨⟨h1, h2, h3, h4, h5, h6⟩, k1, k2, k3, k4, k5, k6, k7, k8⟩ := hr
  simp only [gapR, gap_two, Option.bind_some, clockR]
  rw [clock_back _ _ _ _ k1 k2 k3 k4 k5 k6]
  simp only [Option.bind_some, gapR, gap_zone, zoneR]
  rw [zone_back _ k7 k8]
  rfl
/-- Internal reads what Print tells. -/
theorem internal_back (t : Dt) (hr : RightP t) : internalP ⟨printN t 45, Dt.zero⟩ = some ⟨[], t⟩ := by
  have hr' := hr
  obtain ⟨⟨h1, h2, h3, h4, h5, h6⟩, k1, k2, k3, k4, k5, k6, k7, k8⟩ := hr'
  have hl := long_pos t.y t.mo
  have e1 : ∀ r : Bs, needP [45] (45 :: r) = some r := fun _ => rfl
  have hd : dayP ⟨(printN t 45).dropWhile blankB, Dt.zero⟩ = some ⟨32 :: (two t.h ++ 58 :: (two t.mi ++ 58 :: (two t.s ++ 32 :: zoneN t.z))), { Dt.zero with d := t.d, mo := t.mo, y := t.y }⟩ := by
    unfold dayP
    rw [print_shape, num_day _ _ _ h5 (by omega) (by decide)]
    simp only [e1]
    rw [month_back _ _ h3 h4]
    simp only [e1]
    rw [num_four _ _ (by omega) (by omega)]
  unfold internalP
  rw [hd, Option.bind_some, tail_back t hr]
/-- Mail reads it with blanks. -/
theorem mail_back (t : Dt) (hr : RightP t) : mailP ⟨printN t 32, Dt.zero⟩ = some ⟨[], t⟩ := by
  have hr' := hr
  obtain ⟨⟨h1, h2, h3, h4, h5, h6⟩, k1, k2, k3, k4, k5, k6, k7, k8⟩ := hr'
  have hl := long_pos t.y t.mo
  have hd : mailDay ⟨(printN t 32).dropWhile blankB, Dt.zero⟩ = some ⟨32 :: (two t.h ++ 58 :: (two t.mi ++ 58 :: (two t.s ++ 32 :: zoneN t.z))), { Dt.zero with d := t.d, mo := t.mo, y := t.y }⟩ := by
    unfold mailDay
    rw [print_shape, day_no_weekday _ _ _ h5 (by omega)]
    simp only
    rw [num_day _ _ _ h5 (by omega) (by decide)]
    simp only
    rw [gap_month _ _ h3 h4]
    simp only
    rw [month_back _ _ h3 h4]
    simp only
    rw [gap_four]
    simp only
    rw [num_four _ _ (by omega) (by omega)]
  unfold mailP
  rw [hd, Option.bind_some, tail_back t hr]
  rfl
end Go.Proofs.YtnjdgbbdjkhpoaaDoor
