/- What this text holds: the document's words for what a span covers, and what a set has. -/
import Derived.Test.YtiiegjdclpkeeaaGreatDoorM10
namespace Go.Proofs.YtiiegjdclpkeeaaGreatDoor
open Go.RowKit
set_option linter.unusedVariables false
set_option linter.unusedSimpArgs false

theorem ret_bool {a b : Bool} (h : a = b) : Ending.returned (.bool a) = .returned (.bool b) := by rw [h]
theorem cov_no {x y n most : Int} (h : (x = 0 ∨ y = 0) ∧ most < 1) : covB (x, y) n most = false := by unfold covB; rw [if_pos h]
theorem cov_yes {x y n most a b : Int} (h : ¬ ((x = 0 ∨ y = 0) ∧ most < 1)) (ha : kn x most = a) (hb : kn y most = b) : covB (x, y) n most = decide ((a ≤ n ∧ n ≤ b) ∨ (b ≤ n ∧ n ≤ a)) := by
  subst ha hb
  unfold covB; rw [if_neg h]
theorem kn_0 {x most : Int} (h : x = 0) : kn x most = most := if_pos h
theorem kn_1 {x most : Int} (h : ¬ x = 0) : kn x most = x := if_neg h
set_option maxRecDepth 100000 in
set_option maxHeartbeats 4000000 in
theorem rcovers_any (x y n most : Int) (w : World) : Calls Tryz.prog 36 #[.agg #[.int .i64 x, .int .i64 y], .int .i64 n, .int .i64 most] w fun e w' => e = .returned (.bool (covB (x, y) n most)) ∧ Below w.heap.size w w' := by
  have HB : Hid (Below w.heap.size w (w.alloc (.cells #[.int .i64 x, .int .i64 y] 44))) := (Below.refl _ _).alloc (Nat.le_refl _) _
  by_cases hx : x = 0
  · have d1 : (x == 0) = true := by simp [hx]
    by_cases hm : most < 1
    · have d3 : decide (most < 1) = true := by simpa using hm
      have HC := hid (cov_no (x := x) (y := y) (n := n) (most := most) (by omega))
      clear hx
      go_enter Tryz.func36, Tryz.ntmps36
      go_wp2_with fail
      go_ret
      rw [HC.out]
      exact ⟨rfl, HB.out⟩
    · have d3 : decide (most < 1) = false := by simpa using hm
      by_cases hy : y = 0
      · have d2 : (y == 0) = true := by simp [hy]
        have HC := hid (cov_yes (x := x) (y := y) (n := n) (most := most) (by omega) (kn_0 hx) (kn_0 hy))
        clear hx hy
        go_enter Tryz.func36, Tryz.ntmps36
        go_wp2_with fail
        all_goals
          go_ret
          exact ⟨ret_bool (by rw [HC.out, Bool.eq_iff_iff]; simp <;> omega), HB.out⟩
      · have d2 : (y == 0) = false := by simp [hy]
        have HC := hid (cov_yes (x := x) (y := y) (n := n) (most := most) (by omega) (kn_0 hx) (kn_1 hy))
        clear hx hy
        go_enter Tryz.func36, Tryz.ntmps36
        go_wp2_with fail
        all_goals
          go_ret
          exact ⟨ret_bool (by rw [HC.out, Bool.eq_iff_iff]; simp <;> omega), HB.out⟩
  · have d1 : (x == 0) = false := by simp [hx]
    by_cases hm : most < 1
    · have d3 : decide (most < 1) = true := by simpa using hm
      by_cases hy : y = 0
      · have d2 : (y == 0) = true := by simp [hy]
        have HC := hid (cov_no (x := x) (y := y) (n := n) (most := most) (by omega))
        clear hx hy
        go_enter Tryz.func36, Tryz.ntmps36
        go_wp2_with fail
        go_ret
        rw [HC.out]
        exact ⟨rfl, HB.out⟩
      · have d2 : (y == 0) = false := by simp [hy]
        have HC := hid (cov_yes (x := x) (y := y) (n := n) (most := most) (by omega) (kn_1 hx) (kn_1 hy))
        clear hx hy
        go_enter Tryz.func36, Tryz.ntmps36
        go_wp2_with fail
        all_goals
          go_ret
          exact ⟨ret_bool (by rw [HC.out, Bool.eq_iff_iff]; simp <;> omega), HB.out⟩
    · have d3 : decide (most < 1) = false := by simpa using hm
      by_cases hy : y = 0
      · have d2 : (y == 0) = true := by simp [hy]
        have HC := hid (cov_yes (x := x) (y := y) (n := n) (most := most) (by omega) (kn_1 hx) (kn_0 hy))
        clear hx hy
        go_enter Tryz.func36, Tryz.ntmps36
        go_wp2_with fail
        all_goals
          go_ret
          exact ⟨ret_bool (by rw [HC.out, Bool.eq_iff_iff]; simp <;> omega), HB.out⟩
      · have d2 : (y == 0) = false := by simp [hy]
        have HC := hid (cov_yes (x := x) (y := y) (n := n) (most := most) (by omega) (kn_1 hx) (kn_1 hy))
        clear hx hy
        go_enter Tryz.func36, Tryz.ntmps36
        go_wp2_with fail
        all_goals
          go_ret
          exact ⟨ret_bool (by rw [HC.out, Bool.eq_iff_iff]; simp <;> omega), HB.out⟩
end Go.Proofs.YtiiegjdclpkeeaaGreatDoor
