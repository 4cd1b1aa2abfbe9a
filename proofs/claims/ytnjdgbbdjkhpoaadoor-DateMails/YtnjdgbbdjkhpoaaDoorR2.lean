/- What this text holds: the document's There, Days, Civil. -/
import Derived.Test.YtnjdgbbdjkhpoaaDoorR1
namespace Go.Proofs.YtnjdgbbdjkhpoaaDoor
open Go.RowKit
set_option linter.unusedVariables false
set_option linter.unusedSimpArgs false

set_option maxRecDepth 100000 in
set_option maxHeartbeats 1000000 in
theorem rthere_any (y m d : Int) (w : World) : Calls Tryd.prog 36 #[.int .i64 y, .int .i64 m, .int .i64 d] w fun e w' => e = .returned (.bool (decide (There y m d))) ∧ Below w.heap.size w w' := by
  have key : ∀ b : Bool, (b = true ↔ There y m d) → decide (There y m d) = b := by
    intro b hb
    rw [Bool.eq_iff_iff, hb, decide_eq_true_iff]
  have HKEY := hid key
  have HR := hid (Below.refl w.heap.size w)
  have no : (¬ 1 ≤ y ∨ ¬ y ≤ 9999 ∨ ¬ 1 ≤ m ∨ ¬ m ≤ 12 ∨ ¬ 1 ≤ d) → ¬ There y m d := by unfold There; omega
  have HNO := hid no
  clear key no
  by_cases c1 : 1 ≤ y
  · by_cases c2 : y ≤ 9999
    · by_cases c3 : 1 ≤ m
      · by_cases c4 : m ≤ 12
        · by_cases c5 : 1 ≤ d
          · have HC := hid (rlong_any y m (by omega) (by omega) c3 c4)
            have HT : Hid (d ≤ long y m ↔ There y m d) := by unfold Hid There; omega
            go_enter Tryd.func36, Tryd.ntmps36
            go_wp2_with fail
            refine (HC.out _).mono ?_
            rintro e w1 ⟨rfl, hb⟩
            have HB := hid hb
            clear hb
            go_wp2_with fail
            go_ret
            refine ⟨congrArg (fun b => Ending.returned (Value.bool b)) (HKEY.out _ ?_).symm, HB.out⟩
            rw [← HT.out]
            simp
          · go_enter Tryd.func36, Tryd.ntmps36
            go_wp2_with fail
            go_ret
            refine ⟨congrArg (fun b => Ending.returned (Value.bool b)) (HKEY.out _ ?_).symm, HR.out⟩
            simp only [Bool.false_eq_true, false_iff]
            exact HNO.out (by omega)
        · go_enter Tryd.func36, Tryd.ntmps36
          go_wp2_with fail
          go_ret
          refine ⟨congrArg (fun b => Ending.returned (Value.bool b)) (HKEY.out _ ?_).symm, HR.out⟩
          simp only [Bool.false_eq_true, false_iff]
          exact HNO.out (by omega)
      · go_enter Tryd.func36, Tryd.ntmps36
        go_wp2_with fail
        go_ret
        refine ⟨congrArg (fun b => Ending.returned (Value.bool b)) (HKEY.out _ ?_).symm, HR.out⟩
        simp only [Bool.false_eq_true, false_iff]
        exact HNO.out (by omega)
    · go_enter Tryd.func36, Tryd.ntmps36
      go_wp2_with fail
      go_ret
      refine ⟨congrArg (fun b => Ending.returned (Value.bool b)) (HKEY.out _ ?_).symm, HR.out⟩
      simp only [Bool.false_eq_true, false_iff]
      exact HNO.out (by omega)
  · go_enter Tryd.func36, Tryd.ntmps36
    go_wp2_with fail
    go_ret
    refine ⟨congrArg (fun b => Ending.returned (Value.bool b)) (HKEY.out _ ?_).symm, HR.out⟩
    simp only [Bool.false_eq_true, false_iff]
    exact HNO.out (by omega)

set_option maxRecDepth 100000 in
set_option maxHeartbeats 1000000 in
theorem rdays_any (y m d : Int) (w : World) : Calls Tryd.prog 13 #[.int .i64 y, .int .i64 m, .int .i64 d] w fun e w' => e = .returned (.int .i64 (daysV y m d)) ∧ Below w.heap.size w w' := by
  have C := rthere_any y m d w
  by_cases ht : There y m d
  · rw [decide_eq_true ht] at C
    have HC := hid C
    have hV : daysV y m d = ahead y - 719162 + d - 1 + before' y m := by rw [daysV, if_pos ht, dayNo, before_eq (there_small ht).2.2.2.1]; omega
    obtain ⟨h1, h2, h3, h4, h5, h6⟩ := there_small ht
    have ha := ahead_small h1 (show y ≤ 20000 by omega)
    have H70 := ahead70
    have HV := hid hV
    clear hV ht C
    go_enter Tryd.func13, Tryd.ntmps13
    go_wp2_with fail
    refine HC.out.mono ?_
    rintro e w1 ⟨rfl, hb1⟩
    have HB1 := hid hb1
    clear hb1
    go_wp2_with (go_at_call 37; refine (rahead_any _ (by omega) (by omega) _).mono ?_; rintro e w' ⟨rfl, rfl⟩)
    clear H70
    have HBw := HB1
    go_loopw [7, 8] (fun v i wr => ∃ k : Int, 1 ≤ k ∧ k ≤ m ∧ i = .int .i64 k ∧ v = .int .i64 (ahead y - 719162 + d - 1 + before' y k) ∧ Below w.heap.size w wr) (fun _ i _ => (14 - intOf i).toNat)
    case atStart => exact ⟨1, by omega, by omega, rfl, by rw [before_one, Int.add_zero], HBw.out⟩
    case round =>
      obtain ⟨k, hk1, hk2, rfl, rfl, hb⟩ := hrel
      have HB := hid hb
      clear hb
      have hs := before_small (y := y) hk1 (by omega)
      by_cases hlt : k < m
      · have HS : Hid (before' y (k + 1) = before' y k + long y k) := before_step hk1 (by omega)
        have hl := long_pos y k
        go_wp2_with fail
        refine (rlong_any y k (by omega) (by omega) hk1 (by omega) _).mono ?_
        rintro e w2 ⟨rfl, hb2⟩
        have HB2 := hid (HB.out.trans (hb2.mono HB.out.size))
        clear hb2
        go_wp2_with fail
        go_roundw
        case rel => exact ⟨k + 1, by omega, by omega, by go_num, by rw [HS.out]; congr 1; omega, HB2.out⟩
        case measure => simp [intOf]; omega
      · obtain rfl : k = m := by omega
        go_wp2_with fail
        go_ret
        rw [HV.out]
        exact ⟨rfl, HB.out⟩
  · rw [decide_eq_false ht] at C
    have HC := hid C
    have HV : Hid (daysV y m d = 0) := by unfold Hid; rw [daysV, if_neg ht]
    clear ht C
    go_enter Tryd.func13, Tryd.ntmps13
    go_wp2_with fail
    refine HC.out.mono ?_
    rintro e w1 ⟨rfl, hb1⟩
    have HB1 := hid hb1
    clear hb1
    go_wp2_with fail
    go_ret
    rw [HV.out]
    exact ⟨rfl, HB1.out⟩
end Go.Proofs.YtnjdgbbdjkhpoaaDoor
