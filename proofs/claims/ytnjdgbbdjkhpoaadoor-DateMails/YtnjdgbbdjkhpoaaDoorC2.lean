/- What this text holds: the program's calendar: days' numbers, and the day of a number. -/
import Derived.Test.YtnjdgbbdjkhpoaaDoorC1
namespace Go.Proofs.YtnjdgbbdjkhpoaaDoor
open Go.RowKit
set_option linter.unusedVariables false
set_option linter.unusedSimpArgs false

set_option maxRecDepth 100000 in
set_option maxHeartbeats 1000000 in
theorem aiy_any (y m : Int) (h0 : 0 ≤ y) (h1 : y ≤ 20000) (hm1 : 1 ≤ m) (hm2 : m ≤ 13) (w : World) : Calls Tryd.prog 34 #[.int .i64 y, .int .i64 m] w fun e w' => e = .returned (.int .i64 (before' y m)) ∧ w' = w := by
  go_enter Tryd.func34, Tryd.ntmps34
  go_wp2_with fail
  go_loop [5, 6] (fun v i => ∃ k : Int, 1 ≤ k ∧ k ≤ m ∧ i = .int .i64 k ∧ v = .int .i64 (before' y k)) (fun _ i => (14 - intOf i).toNat)
  case atStart => exact ⟨1, by omega, by omega, rfl, by rw [before_one]⟩
  case round =>
    obtain ⟨k, hk1, hk2, rfl, rfl⟩ := hrel
    by_cases hlt : k < m
    · have hs := before_small (y := y) hk1 (by omega)
      have HS : Hid (before' y (k + 1) = before' y k + long y k) := before_step hk1 (by omega)
      have hl := long_pos y k
      have e1 : wrap64 (before' y k + long y k) = before' y k + long y k := by unfold wrap64; omega
      go_wp2_with (go_at_call 56; refine (length_any _ _ h0 h1 _).mono ?_; rintro e w' ⟨rfl, rfl⟩)
      go_round
      case rel => exact ⟨k + 1, by omega, by omega, by go_num, by rw [HS.out]⟩
      case measure => simp [intOf]; omega
    · obtain rfl : k = m := by omega
      go_wp2_with fail
      go_ret
      exact ⟨rfl, rfl⟩

/-- A day's number, 0 of none. -/
def daysV (y m d : Int) : Int := if There y m d then dayNo y m d else 0
theorem there_small {y m d : Int} (h : There y m d) : 1 ≤ y ∧ y ≤ 9999 ∧ 1 ≤ m ∧ m ≤ 12 ∧ 1 ≤ d ∧ d ≤ 31 := by
  obtain ⟨h1, h2, h3, h4, h5, h6⟩ := h
  have := long_pos y m
  omega
theorem ahead_small {y : Int} (h1 : 1 ≤ y) (h2 : y ≤ 20000) : 0 ≤ ahead y ∧ ahead y ≤ 8000000 := by unfold ahead; omega
theorem before_eq {y m : Int} (h : m ≤ 12) : before' y m = before y m := by simp [before', h]

set_option maxRecDepth 100000 in
set_option maxHeartbeats 1000000 in
theorem days_any (y m d : Int) (w : World) : Calls Tryd.prog 12 #[.int .i64 y, .int .i64 m, .int .i64 d] w fun e w' => e = .returned (.int .i64 (daysV y m d)) ∧ w' = w := by
  by_cases ht : There y m d
  · have dt : decide (There y m d) = true := decide_eq_true ht
    have hV : daysV y m d = ahead y - 719162 + before' y m + d - 1 := by rw [daysV, if_pos ht, dayNo, before_eq (there_small ht).2.2.2.1]
    obtain ⟨h1, h2, h3, h4, h5, h6⟩ := there_small ht
    have ha := ahead_small h1 (show y ≤ 20000 by omega)
    have hb := before_small (y := y) h3 (show m ≤ 13 by omega)
    have H70 := ahead70
    have HV := hid hV
    clear hV ht
    go_enter Tryd.func12, Tryd.ntmps12
    go_wp2_with (first | (go_at_call 35; refine (isDay_any _ _ _ _).mono ?_; rintro e w' ⟨rfl, rfl⟩; rw [dt]) | (go_at_call 33; refine (ahead_any _ (by omega) (by omega) _).mono ?_; rintro e w' ⟨rfl, rfl⟩) | (go_at_call 34; refine (aiy_any y m (by omega) (by omega) (by omega) (by omega) _).mono ?_; rintro e w' ⟨rfl, rfl⟩))
    go_ret
    rw [HV.out]
    exact ⟨rfl, rfl⟩
  · have dt : decide (There y m d) = false := decide_eq_false ht
    have HV : Hid (daysV y m d = 0) := by unfold Hid; rw [daysV, if_neg ht]
    clear ht
    go_enter Tryd.func12, Tryd.ntmps12
    go_wp2_with (first | (go_at_call 35; refine (isDay_any _ _ _ _).mono ?_; rintro e w' ⟨rfl, rfl⟩; rw [dt]))
    go_ret
    rw [HV.out]
    exact ⟨rfl, rfl⟩
end Go.Proofs.YtnjdgbbdjkhpoaaDoor
