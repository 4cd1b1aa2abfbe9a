/- What this text holds: the program's Right, and its reading of a text, with what it stops by. (Written by gent.py.) -/
import Derived.Test.YtnjdgbbdjkhpoaaDoorS10
namespace Go.Proofs.YtnjdgbbdjkhpoaaDoor
open Go.RowKit
set_option linter.unusedVariables false
set_option linter.unusedSimpArgs false

/-- A date as a value. -/
def dtV (t : Dt) : Value := .agg (dtL t).toArray
theorem right_eq (t : Dt) : RightP t ↔ There t.y t.mo t.d ∧ (0 ≤ t.h ∧ t.h ≤ 23) ∧ (0 ≤ t.mi ∧ t.mi ≤ 59) ∧ (0 ≤ t.s ∧ t.s ≤ 59) ∧ (-1439 ≤ t.z ∧ t.z ≤ 1439) := by
  unfold RightP
  constructor
  · rintro ⟨a, b, c, d, e, f, g, h, i⟩
    exact ⟨a, ⟨b, c⟩, ⟨d, e⟩, ⟨f, g⟩, h, i⟩
  · rintro ⟨a, ⟨b, c⟩, ⟨d, e⟩, ⟨f, g⟩, h, i⟩
    exact ⟨a, b, c, d, e, f, g, h, i⟩

set_option maxRecDepth 100000 in
set_option maxHeartbeats 2000000 in
theorem right_any (t : Dt) (w : World) : Calls Tryd.prog 15 #[dtV t] w fun e w' => e = .returned (.bool (decide (RightP t))) ∧ Below w.heap.size w w' := by
  have key : ∀ b : Bool, (b = true ↔ RightP t) → decide (RightP t) = b := by
    intro b hb
    rw [Bool.eq_iff_iff, hb, decide_eq_true_iff]
  have HKEY := hid key
  have HB : Hid (Below w.heap.size w (w.alloc (.cells (dtL t).toArray 29))) := (Below.refl _ _).alloc (Nat.le_refl _) _
  obtain ⟨y, mo, d, h, mi, s, z⟩ := t
  have HRE := hid (right_eq ⟨y, mo, d, h, mi, s, z⟩)
  clear key
  unfold dtV dtL
  simp only
  by_cases c0 : There y mo d
  · have d0 : decide (There y mo d) = true := by simp [c0]
    have C0 := hid c0
    clear c0
    by_cases c1 : 0 ≤ h ∧ h ≤ 23
    · have d1 : (decide (0 ≤ h) && decide (h ≤ 23)) = true := by simp [c1]
      have C1 := hid c1
      clear c1
      by_cases c2 : 0 ≤ mi ∧ mi ≤ 59
      · have d2 : (decide (0 ≤ mi) && decide (mi ≤ 59)) = true := by simp [c2]
        have C2 := hid c2
        clear c2
        by_cases c3 : 0 ≤ s ∧ s ≤ 59
        · have d3 : (decide (0 ≤ s) && decide (s ≤ 59)) = true := by simp [c3]
          have C3 := hid c3
          clear c3
          by_cases c4 : -1439 ≤ z ∧ z ≤ 1439
          · have d4 : (decide (-1439 ≤ z) && decide (z ≤ 1439)) = true := by simp [c4]
            have C4 := hid c4
            clear c4
            go_enter Tryd.func15, Tryd.ntmps15
            go_wp2_with (first | (go_at_call 35; refine (isDay_any _ _ _ _).mono ?_; rintro e w' ⟨rfl, rfl⟩; rw [d0]) | (go_at_call 32; refine (within_any _ _ _ _).mono ?_; rintro e w' ⟨rfl, rfl⟩; try rw [d0]; try rw [d1]; try rw [d2]; try rw [d3]; try rw [d4]))
            go_ret
            refine ⟨?_, HB.out⟩
            refine congrArg (fun b => Ending.returned (Value.bool b)) (HKEY.out _ ?_).symm
            rw [HRE.out]
            simp only [C0.out, C1.out, C2.out, C3.out, C4.out, and_self]
          · have d4 : (decide (-1439 ≤ z) && decide (z ≤ 1439)) = false := by simp; omega
            have C4 := hid c4
            clear c4
            go_enter Tryd.func15, Tryd.ntmps15
            go_wp2_with (first | (go_at_call 35; refine (isDay_any _ _ _ _).mono ?_; rintro e w' ⟨rfl, rfl⟩; rw [d0]) | (go_at_call 32; refine (within_any _ _ _ _).mono ?_; rintro e w' ⟨rfl, rfl⟩; try rw [d0]; try rw [d1]; try rw [d2]; try rw [d3]; try rw [d4]))
            go_ret
            refine ⟨?_, HB.out⟩
            refine congrArg (fun b => Ending.returned (Value.bool b)) (HKEY.out _ ?_).symm
            rw [HRE.out]
            have := C4.out
            simp only [Bool.false_eq_true, false_iff]
            exact fun x => this x.2.2.2.2
        · have d3 : (decide (0 ≤ s) && decide (s ≤ 59)) = false := by simp; omega
          have C3 := hid c3
          clear c3
          go_enter Tryd.func15, Tryd.ntmps15
          go_wp2_with (first | (go_at_call 35; refine (isDay_any _ _ _ _).mono ?_; rintro e w' ⟨rfl, rfl⟩; rw [d0]) | (go_at_call 32; refine (within_any _ _ _ _).mono ?_; rintro e w' ⟨rfl, rfl⟩; try rw [d0]; try rw [d1]; try rw [d2]; try rw [d3]))
          go_ret
          refine ⟨?_, HB.out⟩
          refine congrArg (fun b => Ending.returned (Value.bool b)) (HKEY.out _ ?_).symm
          rw [HRE.out]
          have := C3.out
          simp only [Bool.false_eq_true, false_iff]
          exact fun x => this x.2.2.2.1
      · have d2 : (decide (0 ≤ mi) && decide (mi ≤ 59)) = false := by simp; omega
        have C2 := hid c2
        clear c2
        go_enter Tryd.func15, Tryd.ntmps15
        go_wp2_with (first | (go_at_call 35; refine (isDay_any _ _ _ _).mono ?_; rintro e w' ⟨rfl, rfl⟩; rw [d0]) | (go_at_call 32; refine (within_any _ _ _ _).mono ?_; rintro e w' ⟨rfl, rfl⟩; try rw [d0]; try rw [d1]; try rw [d2]))
        go_ret
        refine ⟨?_, HB.out⟩
        refine congrArg (fun b => Ending.returned (Value.bool b)) (HKEY.out _ ?_).symm
        rw [HRE.out]
        have := C2.out
        simp only [Bool.false_eq_true, false_iff]
        exact fun x => this x.2.2.1
    · have d1 : (decide (0 ≤ h) && decide (h ≤ 23)) = false := by simp; omega
      have C1 := hid c1
      clear c1
      go_enter Tryd.func15, Tryd.ntmps15
      go_wp2_with (first | (go_at_call 35; refine (isDay_any _ _ _ _).mono ?_; rintro e w' ⟨rfl, rfl⟩; rw [d0]) | (go_at_call 32; refine (within_any _ _ _ _).mono ?_; rintro e w' ⟨rfl, rfl⟩; try rw [d0]; try rw [d1]))
      go_ret
      refine ⟨?_, HB.out⟩
      refine congrArg (fun b => Ending.returned (Value.bool b)) (HKEY.out _ ?_).symm
      rw [HRE.out]
      have := C1.out
      simp only [Bool.false_eq_true, false_iff]
      exact fun x => this x.2.1
  · have d0 : decide (There y mo d) = false := by simp [c0]
    have C0 := hid c0
    clear c0
    go_enter Tryd.func15, Tryd.ntmps15
    go_wp2_with (first | (go_at_call 35; refine (isDay_any _ _ _ _).mono ?_; rintro e w' ⟨rfl, rfl⟩; rw [d0]) | (go_at_call 32; refine (within_any _ _ _ _).mono ?_; rintro e w' ⟨rfl, rfl⟩; try rw [d0]))
    go_ret
    refine ⟨?_, HB.out⟩
    refine congrArg (fun b => Ending.returned (Value.bool b)) (HKEY.out _ ?_).symm
    rw [HRE.out]
    have := C0.out
    simp only [Bool.false_eq_true, false_iff]
    exact fun x => this x.1
end Go.Proofs.YtnjdgbbdjkhpoaaDoor
