/- What this text holds: the document's calendar. -/
import Derived.Test.YtnjdgbbdjkhpoaaDoorV7
namespace Go.Proofs.YtnjdgbbdjkhpoaaDoor
open Go.RowKit
set_option linter.unusedVariables false
set_option linter.unusedSimpArgs false

set_option maxRecDepth 100000 in
theorem in_any (n a b : Int) (w : World) : Calls Tryd.prog 39 #[.int .i64 n, .int .i64 a, .int .i64 b] w fun e w' => e = .returned (.bool (decide (a ≤ n) && decide (n ≤ b))) ∧ w' = w := by
  go_enter Tryd.func39, Tryd.ntmps39
  by_cases h : a ≤ n
  · go_wp2_with fail
    go_ret
    simp [h]
  · go_wp2_with fail
    go_ret
    simp
    omega
set_option maxRecDepth 100000 in
theorem rahead_any (y : Int) (h0 : 1 ≤ y) (h1 : y ≤ 20000) (w : World) : Calls Tryd.prog 37 #[.int .i64 y] w fun e w' => e = .returned (.int .i64 (ahead y)) ∧ w' = w := by
  have e1 := tdiv_pos (y - 1) 4 (by omega)
  have e2 := tdiv_pos (y - 1) 100 (by omega)
  have e3 := tdiv_pos (y - 1) 400 (by omega)
  have HA : Hid (ahead y = 365 * (y - 1) + (y - 1) / 4 - (y - 1) / 100 + (y - 1) / 400) := rfl
  go_enter Tryd.func37, Tryd.ntmps37
  go_wp2_with fail
  go_ret
  rw [HA.out]
  exact ⟨rfl, rfl⟩
set_option maxRecDepth 100000 in
theorem rleap_any (y : Int) (h0 : 0 ≤ y) (h1 : y ≤ 20000) (w : World) : Calls Tryd.prog 57 #[.int .i64 y] w fun e w' => e = .returned (.bool (decide (lp y = 1))) ∧ w' = w := by
  have key : ∀ b : Bool, (b = true ↔ (y % 400 = 0 ∨ y % 4 = 0 ∧ y % 100 ≠ 0)) → decide (lp y = 1) = b := by
    intro b hb
    rw [Bool.eq_iff_iff, hb, decide_eq_true_iff]
    unfold lp
    split <;> simp_all
  go_enter Tryd.func57, Tryd.ntmps57
  go_wp2_with fail
  all_goals
    go_ret
    refine ⟨?_, rfl⟩
    refine congrArg (fun b => Ending.returned (Value.bool b)) (key _ ?_).symm
    simp
    omega
def longL : List Int := [31, 28, 31, 30, 31, 30, 31, 31, 30, 31, 30, 31]
set_option maxRecDepth 100000 in
set_option maxHeartbeats 1000000 in
theorem rlong_any (y m : Int) (h0 : 0 ≤ y) (h1 : y ≤ 20000) (hm1 : 1 ≤ m) (hm2 : m ≤ 12) (w : World) : Calls Tryd.prog 38 #[.int .i64 y, .int .i64 m] w fun e w' => e = .returned (.int .i64 (long y m)) ∧ Below w.heap.size w w' := by
  have hl := lp_or y
  rcases month_cases hm1 hm2 with rfl | rfl | rfl | rfl | rfl | rfl | rfl | rfl | rfl | rfl | rfl | rfl
  case inr.inl =>
    rcases hl with hl | hl
    · have C := rleap_any y h0 h1
      rw [show decide (lp y = 1) = false by rw [hl]; rfl] at C
      have HC := hid C
      have HV : Hid (long y 2 = 28) := by unfold Hid long; rw [hl]; rfl
      clear C hl
      go_enter Tryd.func38, Tryd.ntmps38
      go_wp2_with (go_at_call 57; refine (HC.out _).mono ?_; rintro e w' ⟨rfl, rfl⟩)
      go_ret
      rw [HV.out]
      exact ⟨rfl, (Below.refl _ _).alloc (Nat.le_refl _) _⟩
    · have C := rleap_any y h0 h1
      rw [show decide (lp y = 1) = true by rw [hl]; rfl] at C
      have HC := hid C
      have HV : Hid (long y 2 = 29) := by unfold Hid long; rw [hl]; rfl
      clear C hl
      go_enter Tryd.func38, Tryd.ntmps38
      go_wp2_with (go_at_call 57; refine (HC.out _).mono ?_; rintro e w' ⟨rfl, rfl⟩)
      go_ret
      rw [HV.out]
      exact ⟨rfl, (Below.refl _ _).alloc (Nat.le_refl _) _⟩
  all_goals
    clear hl
    go_enter Tryd.func38, Tryd.ntmps38
    go_wp2_with fail
    go_ret
    exact ⟨rfl, (Below.refl _ _).alloc (Nat.le_refl _) _⟩
end Go.Proofs.YtnjdgbbdjkhpoaaDoor
