/- What this text holds: the program's Civil. -/
import Derived.Test.YtnjdgbbdjkhpoaaDoorC2
namespace Go.Proofs.YtnjdgbbdjkhpoaaDoor
open Go.RowKit
set_option linter.unusedVariables false
set_option linter.unusedSimpArgs false

theorem ahead_le (y : Int) (h : 1 ≤ y) : ahead (y + 1) ≤ 366 * y := by unfold ahead; omega
theorem before_mono {y j m : Int} (h1 : 1 ≤ j) (h2 : m ≤ 12) (h : j < m) : before' y (j + 1) ≤ before' y m := by
  rw [before_step h1 (by omega), before_eq (by omega), before_eq h2]
  exact before_lt h1 h2 h
theorem days_first : daysV 1 1 1 = -719162 := by decide
theorem days_last : daysV 9999 12 31 = 2932896 := by decide

set_option maxRecDepth 100000 in
set_option maxHeartbeats 1000000 in
theorem civil_no (N : Int) (h : N < -719162 ∨ 2932896 < N) (w : World) : Calls Tryd.prog 10 #[.int .i64 N] w fun e w' => e = .returned (.tuple #[.int .i64 0, .int .i64 0, .int .i64 0]) ∧ w' = w := by
  have d1 : (decide (-719162 ≤ N) && decide (N ≤ 2932896)) = false := by simp; omega
  have HF := days_first
  have HL := days_last
  clear h
  go_enter Tryd.func10, Tryd.ntmps10
  go_wp2_with (first | (go_at_call 12; refine (days_any _ _ _ _).mono ?_; rintro e w' ⟨rfl, rfl⟩) | (go_at_call 32; refine (within_any _ _ _ _).mono ?_; rintro e w' ⟨rfl, rfl⟩; rw [d1]))
  go_ret3
  exact ⟨rfl, rfl⟩

set_option maxRecDepth 100000 in
set_option maxHeartbeats 1000000 in
theorem civil_yes (y m d : Int) (ht : There y m d) (w : World) : Calls Tryd.prog 10 #[.int .i64 (dayNo y m d)] w fun e w' => e = .returned (.tuple #[.int .i64 y, .int .i64 m, .int .i64 d]) ∧ w' = w := by
  have hr := day_range ht
  obtain ⟨h1, h2, h3, h4, h5, h6⟩ := there_small ht
  have hin := day_in ht
  have hdn : dayNo y m d = ahead y - 719162 + before' y m + d - 1 := by rw [dayNo, before_eq h4]
  have hd6 := ht.2.2.2.2.2
  have hb := before_small (y := y) h3 (show m ≤ 13 by omega)
  have hbs := before_step (y := y) h3 h4
  have ha := ahead_small h1 (show y ≤ 20000 by omega)
  have hal := ahead_le y h1
  generalize hN : dayNo y m d = N at *
  have d1 : (decide (-719162 ≤ N) && decide (N ≤ 2932896)) = true := by simp; omega
  have HF := days_first
  have HL := days_last
  have H70 := ahead70
  have e1 := tdiv_pos (N + 719162) 366 (by omega)
  have HIN := hid hin
  have HDN := hid hdn
  have HBS := hid hbs
  have HAL := hid hal
  have HD6 := hid hd6
  have HQ : Hid ((N + 719162) / 366 + 1 ≤ y) := by unfold Hid; omega
  have HQ0 : Hid (0 ≤ (N + 719162) / 366) := by unfold Hid; omega
  clear hin hdn hbs hal ht hN hd6
  go_enter Tryd.func10, Tryd.ntmps10
  go_wp2_with (first | (go_at_call 12; refine (days_any _ _ _ _).mono ?_; rintro e w' ⟨rfl, rfl⟩) | (go_at_call 32; refine (within_any _ _ _ _).mono ?_; rintro e w' ⟨rfl, rfl⟩; rw [d1]) | (go_at_call 33; refine (ahead_any _ (by omega) (by omega) _).mono ?_; rintro e w' ⟨rfl, rfl⟩))
  clear H70 HF HL d1 e1
  go_loop [6] (fun v => ∃ k : Int, 1 ≤ k ∧ k ≤ y ∧ v = .int .i64 k) (fun v => (10000 - intOf v).toNat)
  case atStart => exact ⟨(N + 719162) / 366 + 1, by have := HQ0.out; omega, HQ.out, by go_num⟩
  case round =>
    obtain ⟨k, hk1, hk2, rfl⟩ := hrel
    have hak := ahead_small (y := k + 1) (by omega) (by omega)
    by_cases hlt : k < y
    · have hle : ahead (k + 1) ≤ N + 719162 := by have := ahead_mono (show k + 1 ≤ y by omega); have := HIN.out; omega
      go_wp2_with (first | (go_at_call 33; refine (ahead_any _ (by omega) (by omega) _).mono ?_; rintro e w' ⟨rfl, rfl⟩))
      go_round
      case rel => exact ⟨k + 1, by omega, by omega, by go_num⟩
      case measure => simp [intOf]; omega
    · obtain rfl : k = y := by omega
      have hle : ¬ ahead (k + 1) ≤ N + 719162 := by have := HIN.out; omega
      have e2 : wrap64 (N + 719162 - ahead k) = before' k m + d - 1 := by have := HDN.out; unfold wrap64; omega
      have e3 : N + 719162 - ahead k = before' k m + d - 1 := by have := HDN.out; omega
      go_wp2_with (first | (go_at_call 33; refine (ahead_any _ (by omega) (by omega) _).mono ?_; rintro e w' ⟨rfl, rfl⟩))
      clear e2 e3 hle
      go_loop [7] (fun v => ∃ j : Int, 1 ≤ j ∧ j ≤ m ∧ v = .int .i64 j) (fun v => (13 - intOf v).toNat)
      case atStart => exact ⟨1, by omega, by omega, by go_num⟩
      case round =>
        obtain ⟨j, hj1, hj2, rfl⟩ := hrel
        by_cases hjm : j < m
        · have hle : before' k (j + 1) ≤ before' k m + d - 1 := by have := before_mono (y := k) hj1 h4 hjm; omega
          go_wp2_with (first | (go_at_call 34; refine (aiy_any _ _ (by omega) (by omega) (by omega) (by omega) _).mono ?_; rintro e w' ⟨rfl, rfl⟩))
          go_round
          case rel => exact ⟨j + 1, by omega, by omega, by go_num⟩
          case measure => simp [intOf]; omega
        · obtain rfl : j = m := by omega
          have hle : ¬ before' k (j + 1) ≤ before' k j + d - 1 := by have := HBS.out; have := HD6.out; omega
          have e4 : wrap64 (wrap64 (before' k j + d - 1 - before' k j) + 1) = d := by unfold wrap64; omega
          have e5 : before' k j + d - 1 - before' k j = d - 1 := by omega
          go_wp2_with (first | (go_at_call 34; refine (aiy_any _ _ (by omega) (by omega) (by omega) (by omega) _).mono ?_; rintro e w' ⟨rfl, rfl⟩))
          go_ret3
          exact ⟨rfl, rfl⟩
end Go.Proofs.YtnjdgbbdjkhpoaaDoor
