/- What this text holds: the document's Civil. -/
import Derived.Test.YtnjdgbbdjkhpoaaDoorR2
namespace Go.Proofs.YtnjdgbbdjkhpoaaDoor
open Go.RowKit
set_option linter.unusedVariables false
set_option linter.unusedSimpArgs false

theorem first_of {y m : Int} (h1 : 1 ≤ y) (h2 : y ≤ 9999) (h3 : 1 ≤ m) (h4 : m ≤ 12) : daysV y m 1 = ahead y - 719162 + before' y m := by
  have := long_pos y m
  rw [daysV, if_pos ⟨h1, h2, h3, h4, by omega, by omega⟩, dayNo, before_eq h4]
  omega
theorem year_first {y : Int} (h1 : 1 ≤ y) (h2 : y ≤ 9999) : daysV y 1 1 = ahead y - 719162 := by
  rw [first_of h1 h2 (by omega) (by omega), before_one, Int.add_zero]

set_option maxRecDepth 100000 in
set_option maxHeartbeats 1000000 in
theorem rcivil_no (N : Int) (h : N < -719162 ∨ 2932896 < N) (w : World) : Calls Tryd.prog 11 #[.int .i64 N] w fun e w' => e = .returned (.tuple #[.int .i64 0, .int .i64 0, .int .i64 0]) ∧ Below w.heap.size w w' := by
  have C1 := rdays_any 1 1 1 w
  rw [days_first] at C1
  have C2 := rdays_any 9999 12 31
  rw [days_last] at C2
  have HC1 := hid C1
  have HC2 := hid C2
  clear C1 C2
  by_cases hlo : N < -719162
  · go_enter Tryd.func11, Tryd.ntmps11
    go_wp2_with fail
    refine HC1.out.mono ?_
    rintro e w1 ⟨rfl, hb1⟩
    have HB1 := hid hb1
    clear hb1
    go_wp2_with fail
    go_ret3
    exact ⟨rfl, HB1.out⟩
  · have hhi : 2932896 < N := by omega
    clear h
    go_enter Tryd.func11, Tryd.ntmps11
    go_wp2_with fail
    refine HC1.out.mono ?_
    rintro e w1 ⟨rfl, hb1⟩
    have HB1 := hid hb1
    clear hb1
    go_wp2_with fail
    refine (HC2.out _).mono ?_
    rintro e w2 ⟨rfl, hb2⟩
    have HB2 := hid (HB1.out.trans (hb2.mono HB1.out.size))
    clear hb2
    go_wp2_with fail
    go_ret3
    exact ⟨rfl, HB2.out⟩

set_option maxRecDepth 100000 in
set_option maxHeartbeats 2000000 in
theorem rcivil_yes (y m d : Int) (ht : There y m d) (w : World) : Calls Tryd.prog 11 #[.int .i64 (dayNo y m d)] w fun e w' => e = .returned (.tuple #[.int .i64 y, .int .i64 m, .int .i64 d]) ∧ Below w.heap.size w w' := by
  have hr := day_range ht
  obtain ⟨h1, h2, h3, h4, h5, h6⟩ := there_small ht
  have hin := day_in ht
  have hdn : dayNo y m d = ahead y - 719162 + before' y m + d - 1 := by rw [dayNo, before_eq h4]
  have hd6 := ht.2.2.2.2.2
  have hb := before_small (y := y) h3 (show m ≤ 13 by omega)
  have hbs := before_step (y := y) h3 h4
  have ha := ahead_small h1 (show y ≤ 20000 by omega)
  have hal := ahead_le y h1
  have C1 := rdays_any 1 1 1
  rw [days_first] at C1
  have C2 := rdays_any 9999 12 31
  rw [days_last] at C2
  have HC1 := hid C1
  have HC2 := hid C2
  generalize hN : dayNo y m d = N at *
  have n1 : -719162 ≤ N := hr.1
  have n2 : N ≤ 2932896 := hr.2
  have e1 := tdiv_pos (N + 719162) 366 (by omega)
  have HIN := hid hin
  have HDN := hid hdn
  have HBS := hid hbs
  have HD6 := hid hd6
  have HQ : Hid (1 + (N + 719162) / 366 ≤ y) := by unfold Hid; omega
  have HQ0 : Hid (0 ≤ (N + 719162) / 366) := by unfold Hid; omega
  clear hin hdn hbs hal ht hN hd6 C1 C2 hr
  go_enter Tryd.func11, Tryd.ntmps11
  go_wp2_with fail
  refine (HC1.out _).mono ?_
  rintro e w1 ⟨rfl, hb1⟩
  have HB1 := hid hb1
  clear hb1
  go_wp2_with fail
  refine (HC2.out _).mono ?_
  rintro e w2 ⟨rfl, hb2⟩
  have HB2 := hid (HB1.out.trans (hb2.mono HB1.out.size))
  clear hb2
  go_wp2_with fail
  refine (HC1.out _).mono ?_
  rintro e w3 ⟨rfl, hb3⟩
  have HB3 := hid (HB2.out.trans (hb3.mono HB2.out.size))
  clear hb3
  go_wp2_with fail
  clear e1
  go_loopw [5] (fun v wr => ∃ k : Int, 1 ≤ k ∧ k ≤ y ∧ v = .int .i64 k ∧ Below w.heap.size w wr) (fun v _ => (10000 - intOf v).toNat)
  case atStart => exact ⟨1 + (N + 719162) / 366, by have := HQ0.out; omega, HQ.out, by go_num, HB3.out⟩
  case round =>
    obtain ⟨k, hk1, hk2, rfl, hbw⟩ := hrel
    have HBw := hid hbw
    clear hbw
    by_cases hlt : k < y
    · have hak := ahead_small (y := k + 1) (by omega) (by omega)
      have hle : ahead (k + 1) - 719162 ≤ N := by have := ahead_mono (show k + 1 ≤ y by omega); have := HIN.out; omega
      have k9 : k < 9999 := by omega
      have CD := rdays_any (k + 1) 1 1 wr
      rw [year_first (by omega) (by omega)] at CD
      have HCD := hid CD
      clear CD
      go_wp2_with fail
      refine HCD.out.mono ?_
      rintro e w4 ⟨rfl, hb4⟩
      have HB4 := hid (HBw.out.trans (hb4.mono HBw.out.size))
      clear hb4
      go_wp2_with fail
      go_roundw
      case rel => exact ⟨k + 1, by omega, by omega, by go_num, HB4.out⟩
      case measure => simp [intOf]; omega
    · obtain rfl : k = y := by omega
      have go2 : ∀ wv : World, Below w.heap.size w wv → True := fun _ _ => trivial
      by_cases k9 : k < 9999
      · have hak := ahead_small (y := k + 1) (by omega) (by omega)
        have hle : ¬ ahead (k + 1) - 719162 ≤ N := by have := HIN.out; omega
        have CD := rdays_any (k + 1) 1 1 wr
        rw [year_first (by omega) (by omega)] at CD
        have HCD := hid CD
        clear CD
        go_wp2_with fail
        refine HCD.out.mono ?_
        rintro e w4 ⟨rfl, hb4⟩
        have HB4 := hid (HBw.out.trans (hb4.mono HBw.out.size))
        clear hb4
        go_wp2_with fail
        clear hle hak
        go_loopw [6] (fun v wr => ∃ j : Int, 1 ≤ j ∧ j ≤ m ∧ v = .int .i64 j ∧ Below w.heap.size w wr) (fun v _ => (13 - intOf v).toNat)
        case atStart => exact ⟨1, by omega, by omega, by go_num, HB4.out⟩
        case round =>
          obtain ⟨j, hj1, hj2, rfl, hbv⟩ := hrel
          have HBv := hid hbv
          clear hbv
          by_cases hjm : j < m
          · have hsm := before_small (y := k) (m := j + 1) (by omega) (by omega)
            have hle : ahead k - 719162 + before' k (j + 1) ≤ N := by have := before_mono (y := k) hj1 h4 hjm; have := HDN.out; omega
            have j9 : j < 12 := by omega
            have CD := rdays_any k (j + 1) 1 wr
            rw [first_of (by omega) (by omega) (by omega) (by omega)] at CD
            have HCD := hid CD
            clear CD
            go_wp2_with fail
            refine HCD.out.mono ?_
            rintro e w5 ⟨rfl, hb5⟩
            have HB5 := hid (HBv.out.trans (hb5.mono HBv.out.size))
            clear hb5
            go_wp2_with fail
            go_roundw
            case rel => exact ⟨j + 1, by omega, by omega, by go_num, HB5.out⟩
            case measure => simp [intOf]; omega
          · obtain rfl : j = m := by omega
            have CF := rdays_any k j 1
            rw [first_of (by omega) (by omega) (by omega) (by omega)] at CF
            have HCF := hid CF
            have e5 : N - (ahead k - 719162 + before' k j) = d - 1 := by have := HDN.out; omega
            have e6 : wrap64 (N - (ahead k - 719162 + before' k j)) = d - 1 := by rw [e5]; unfold wrap64; omega
            clear CF
            by_cases j9 : j < 12
            · have hsm := before_small (y := k) (m := j + 1) (by omega) (by omega)
              have hle : ¬ ahead k - 719162 + before' k (j + 1) ≤ N := by have := HBS.out; have := HD6.out; have := HDN.out; omega
              have CD := rdays_any k (j + 1) 1 wr
              rw [first_of (by omega) (by omega) (by omega) (by omega)] at CD
              have HCD := hid CD
              clear CD
              go_wp2_with fail
              refine HCD.out.mono ?_
              rintro e w5 ⟨rfl, hb5⟩
              have HB5 := hid (HBv.out.trans (hb5.mono HBv.out.size))
              clear hb5
              go_wp2_with fail
              refine (HCF.out _).mono ?_
              rintro e w6 ⟨rfl, hb6⟩
              have HB6 := hid (HB5.out.trans (hb6.mono HB5.out.size))
              clear hb6
              go_wp2_with fail
              go_ret3
              exact ⟨rfl, HB6.out⟩
            · go_wp2_with fail
              refine (HCF.out _).mono ?_
              rintro e w6 ⟨rfl, hb6⟩
              have HB6 := hid (HBv.out.trans (hb6.mono HBv.out.size))
              clear hb6
              go_wp2_with fail
              go_ret3
              exact ⟨rfl, HB6.out⟩
      · go_wp2_with fail
        have HB4 := HBw
        go_loopw [6] (fun v wr => ∃ j : Int, 1 ≤ j ∧ j ≤ m ∧ v = .int .i64 j ∧ Below w.heap.size w wr) (fun v _ => (13 - intOf v).toNat)
        case atStart => exact ⟨1, by omega, by omega, by go_num, HB4.out⟩
        case round =>
          obtain ⟨j, hj1, hj2, rfl, hbv⟩ := hrel
          have HBv := hid hbv
          clear hbv
          by_cases hjm : j < m
          · have hsm := before_small (y := k) (m := j + 1) (by omega) (by omega)
            have hle : ahead k - 719162 + before' k (j + 1) ≤ N := by have := before_mono (y := k) hj1 h4 hjm; have := HDN.out; omega
            have j9 : j < 12 := by omega
            have CD := rdays_any k (j + 1) 1 wr
            rw [first_of (by omega) (by omega) (by omega) (by omega)] at CD
            have HCD := hid CD
            clear CD
            go_wp2_with fail
            refine HCD.out.mono ?_
            rintro e w5 ⟨rfl, hb5⟩
            have HB5 := hid (HBv.out.trans (hb5.mono HBv.out.size))
            clear hb5
            go_wp2_with fail
            go_roundw
            case rel => exact ⟨j + 1, by omega, by omega, by go_num, HB5.out⟩
            case measure => simp [intOf]; omega
          · obtain rfl : j = m := by omega
            have CF := rdays_any k j 1
            rw [first_of (by omega) (by omega) (by omega) (by omega)] at CF
            have HCF := hid CF
            have e5 : N - (ahead k - 719162 + before' k j) = d - 1 := by have := HDN.out; omega
            have e6 : wrap64 (N - (ahead k - 719162 + before' k j)) = d - 1 := by rw [e5]; unfold wrap64; omega
            clear CF
            by_cases j9 : j < 12
            · have hsm := before_small (y := k) (m := j + 1) (by omega) (by omega)
              have hle : ¬ ahead k - 719162 + before' k (j + 1) ≤ N := by have := HBS.out; have := HD6.out; have := HDN.out; omega
              have CD := rdays_any k (j + 1) 1 wr
              rw [first_of (by omega) (by omega) (by omega) (by omega)] at CD
              have HCD := hid CD
              clear CD
              go_wp2_with fail
              refine HCD.out.mono ?_
              rintro e w5 ⟨rfl, hb5⟩
              have HB5 := hid (HBv.out.trans (hb5.mono HBv.out.size))
              clear hb5
              go_wp2_with fail
              refine (HCF.out _).mono ?_
              rintro e w6 ⟨rfl, hb6⟩
              have HB6 := hid (HB5.out.trans (hb6.mono HB5.out.size))
              clear hb6
              go_wp2_with fail
              go_ret3
              exact ⟨rfl, HB6.out⟩
            · go_wp2_with fail
              refine (HCF.out _).mono ?_
              rintro e w6 ⟨rfl, hb6⟩
              have HB6 := hid (HBv.out.trans (hb6.mono HBv.out.size))
              clear hb6
              go_wp2_with fail
              go_ret3
              exact ⟨rfl, HB6.out⟩
end Go.Proofs.YtnjdgbbdjkhpoaaDoor
