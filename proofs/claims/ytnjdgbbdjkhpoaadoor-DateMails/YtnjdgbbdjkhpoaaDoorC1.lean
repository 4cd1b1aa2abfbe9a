/- What this text holds: the program's calendar: its small functions. -/
import Derived.Test.YtnjdgbbdjkhpoaaDoorBase
import Derived.Test.YtnjdgbbdjkhpoaaDoorPBack
namespace Go.Proofs.YtnjdgbbdjkhpoaaDoor
open Go.RowKit
set_option linter.unusedVariables false
set_option linter.unusedSimpArgs false

set_option maxRecDepth 100000 in
theorem within_any (n a b : Int) (w : World) : Calls Tryd.prog 32 #[.int .i64 n, .int .i64 a, .int .i64 b] w fun e w' => e = .returned (.bool (decide (a ≤ n) && decide (n ≤ b))) ∧ w' = w := by
  go_enter Tryd.func32, Tryd.ntmps32
  by_cases h : a ≤ n
  · go_wp2_with fail
    go_ret
    simp [h]
  · go_wp2_with fail
    go_ret
    simp
    omega
theorem tdiv_pos (x k : Int) (h : 0 ≤ x) : x.tdiv k = x / k := Int.tdiv_eq_ediv_of_nonneg h

set_option maxRecDepth 100000 in
theorem ahead_any (y : Int) (h0 : 1 ≤ y) (h1 : y ≤ 20000) (w : World) : Calls Tryd.prog 33 #[.int .i64 y] w fun e w' => e = .returned (.int .i64 (ahead y)) ∧ w' = w := by
  have e1 := tdiv_pos (y - 1) 4 (by omega)
  have e2 := tdiv_pos (y - 1) 100 (by omega)
  have e3 := tdiv_pos (y - 1) 400 (by omega)
  have HA : Hid (ahead y = (y - 1) * 365 + (y - 1) / 4 - (y - 1) / 100 + (y - 1) / 400) := by unfold Hid ahead; omega
  go_enter Tryd.func33, Tryd.ntmps33
  go_wp2_with fail
  go_ret
  rw [HA.out]
  exact ⟨rfl, rfl⟩

set_option maxRecDepth 100000 in
theorem leap_any (y : Int) (h0 : 0 ≤ y) (h1 : y ≤ 20000) (w : World) : Calls Tryd.prog 72 #[.int .i64 y] w fun e w' => e = .returned (.bool (decide (lp y = 1))) ∧ w' = w := by
  have key : ∀ b : Bool, (b = true ↔ (y % 400 = 0 ∨ y % 4 = 0 ∧ y % 100 ≠ 0)) → decide (lp y = 1) = b := by
    intro b hb
    rw [Bool.eq_iff_iff, hb, decide_eq_true_iff]
    unfold lp
    split <;> simp_all
  go_enter Tryd.func72, Tryd.ntmps72
  go_wp2_with fail
  all_goals
    go_ret
    refine ⟨?_, rfl⟩
    refine congrArg (fun b => Ending.returned (Value.bool b)) (key _ ?_).symm
    simp
    omega

set_option maxRecDepth 100000 in
set_option maxHeartbeats 1000000 in
theorem length_any (y m : Int) (h0 : 0 ≤ y) (h1 : y ≤ 20000) (w : World) : Calls Tryd.prog 56 #[.int .i64 y, .int .i64 m] w fun e w' => e = .returned (.int .i64 (long y m)) ∧ w' = w := by
  have hl := lp_or y
  go_enter Tryd.func56, Tryd.ntmps56
  go_wp2_with (go_at_call 72; refine (leap_any y h0 h1 _).mono ?_; rintro e w' ⟨rfl, rfl⟩)
  all_goals
    go_ret
    refine ⟨?_, rfl⟩
    unfold long
    simp_all

set_option maxRecDepth 100000 in
set_option maxHeartbeats 1000000 in
theorem isDay_any (y m d : Int) (w : World) : Calls Tryd.prog 35 #[.int .i64 y, .int .i64 m, .int .i64 d] w fun e w' => e = .returned (.bool (decide (There y m d))) ∧ w' = w := by
  have key : ∀ b : Bool, (b = true ↔ There y m d) → decide (There y m d) = b := by
    intro b hb
    rw [Bool.eq_iff_iff, hb, decide_eq_true_iff]
  by_cases c1 : 1 ≤ y ∧ y ≤ 9999
  · have d1 : (decide (1 ≤ y) && decide (y ≤ 9999)) = true := by simp [c1]
    have hy0 : 0 ≤ y := by omega
    have hy1 : y ≤ 20000 := by omega
    have C1 := hid c1
    by_cases c2 : 1 ≤ m ∧ m ≤ 12
    · have d2 : (decide (1 ≤ m) && decide (m ≤ 12)) = true := by simp [c2]
      have C2 := hid c2
      clear c1 c2
      go_enter Tryd.func35, Tryd.ntmps35
      go_wp2_with (first | (go_at_call 32; refine (within_any _ _ _ _).mono ?_; rintro e w' ⟨rfl, rfl⟩; try rw [d1]; try rw [d2]) | (go_at_call 56; refine (length_any _ _ hy0 hy1 _).mono ?_; rintro e w' ⟨rfl, rfl⟩))
      go_ret
      refine ⟨?_, rfl⟩
      refine congrArg (fun b => Ending.returned (Value.bool b)) (key _ ?_).symm
      have := C1.out
      have := C2.out
      simp [There]
      omega
    · have d2 : (decide (1 ≤ m) && decide (m ≤ 12)) = false := by simp; omega
      have C2 := hid c2
      clear c1 c2
      go_enter Tryd.func35, Tryd.ntmps35
      go_wp2_with (first | (go_at_call 32; refine (within_any _ _ _ _).mono ?_; rintro e w' ⟨rfl, rfl⟩; try rw [d1]; try rw [d2]) | (go_at_call 56; refine (length_any _ _ hy0 hy1 _).mono ?_; rintro e w' ⟨rfl, rfl⟩))
      go_ret
      refine ⟨?_, rfl⟩
      refine congrArg (fun b => Ending.returned (Value.bool b)) (key _ ?_).symm
      have := C2.out
      simp [There]
      omega
  · have d1 : (decide (1 ≤ y) && decide (y ≤ 9999)) = false := by simp; omega
    have C1 := hid c1
    clear c1
    go_enter Tryd.func35, Tryd.ntmps35
    go_wp2_with (first | (go_at_call 32; refine (within_any _ _ _ _).mono ?_; rintro e w' ⟨rfl, rfl⟩; try rw [d1]) )
    go_ret
    refine ⟨?_, rfl⟩
    refine congrArg (fun b => Ending.returned (Value.bool b)) (key _ ?_).symm
    have := C1.out
    simp [There]
    omega

/-- The days ahead of a month, a thirteenth too. -/
def before' (y m : Int) : Int := if m ≤ 12 then before y m else 365 + lp y
theorem before_one (y : Int) : before' y 1 = 0 := by simp [before', before]
theorem before_step {y m : Int} (h1 : 1 ≤ m) (h2 : m ≤ 12) : before' y (m + 1) = before' y m + long y m := by
  unfold before'
  by_cases h : m ≤ 11
  · rw [if_pos (by omega), if_pos (by omega), before_next h1 h]
  · obtain rfl : m = 12 := by omega
    rw [if_neg (by omega), if_pos (by omega), before_last]
theorem before_small {y m : Int} (h1 : 1 ≤ m) (h2 : m ≤ 13) : 0 ≤ before' y m ∧ before' y m ≤ 366 := by
  have hl := lp_or y
  unfold before'
  split
  · have := before_in (y := y) h1 (by omega)
    have := long_pos y m
    omega
  · omega
end Go.Proofs.YtnjdgbbdjkhpoaaDoor
