/- What this text holds: the document's Right and Unix. (Written by genr4.py.) -/
import Derived.Test.YtnjdgbbdjkhpoaaDoorR3
namespace Go.Proofs.YtnjdgbbdjkhpoaaDoor
open Go.RowKit
set_option linter.unusedVariables false
set_option linter.unusedSimpArgs false

theorem wr64 (x : Int) (h : -9223372036854775808 ≤ x ∧ x ≤ 9223372036854775807) : IntKind.i64.wrap x = x := by rw [IntKind.wrap_i64]; omega

set_option maxRecDepth 100000 in
set_option maxHeartbeats 2000000 in
theorem rright_any (t : Dt) (w : World) : Calls Tryd.prog 16 #[dtV t] w fun e w' => e = .returned (.bool (decide (RightP t))) ∧ Below w.heap.size w w' := by
  have key : ∀ b : Bool, (b = true ↔ RightP t) → decide (RightP t) = b := by
    intro b hb
    rw [Bool.eq_iff_iff, hb, decide_eq_true_iff]
  have HKEY := hid key
  have HA := hid (boxed0 t w)
  have HB : Hid (Below w.heap.size w (w.alloc (.cells (dtL t).toArray 29))) := (Below.refl _ _).alloc (Nat.le_refl _) _
  obtain ⟨k0, k1, k2, k3, k4, k5, k6⟩ := cA_load HA.out
  have C := rthere_any t.y t.mo t.d (w.alloc (.cells (dtL t).toArray 29))
  obtain ⟨y, mo, d, h, mi, s, z⟩ := t
  have HRE := hid (right_eq ⟨y, mo, d, h, mi, s, z⟩)
  clear key
  unfold dtV
  unfold dtL at k0 k1 k2 k3 k4 k5 k6 ⊢
  simp only at k0 k1 k2 k3 k4 k5 k6 C ⊢
  by_cases c0 : There y mo d
  · have d0 : decide (There y mo d) = true := by simp [c0]
    have C0 := hid c0
    clear c0
    by_cases c1 : 0 ≤ h ∧ h ≤ 23
    · have d1 : (decide (0 ≤ h) && decide (h ≤ 23)) = true := by simp [c1]
      have C1 := hid c1
      clear c1
      by_cases c2 : 0 ≤ mi ∧ mi ≤ 59
      · have d2 : (decide (0 ≤ mi) && decide (mi ≤ 59)) = true := by simp [c2]
        have C2 := hid c2
        clear c2
        by_cases c3 : 0 ≤ s ∧ s ≤ 59
        · have d3 : (decide (0 ≤ s) && decide (s ≤ 59)) = true := by simp [c3]
          have C3 := hid c3
          clear c3
          by_cases c4 : -1439 ≤ z ∧ z ≤ 1439
          · have d4 : (decide (-1439 ≤ z) && decide (z ≤ 1439)) = true := by simp [c4]
            have C4 := hid c4
            clear c4
            rw [d0] at C
            have HC := hid C
            clear C
            go_enter Tryd.func16, Tryd.ntmps16
            go_wp2_with fail
            refine HC.out.mono ?_
            rintro e w1 ⟨rfl, hb1⟩
            have hA1 := (hb1.block w.heap.size (by simp)).trans HA.out
            have HB1 := hid (HB.out.trans (hb1.mono (by simp)))
            clear k0 k1 k2 k3 k4 k5 k6 hb1
            obtain ⟨k0, k1, k2, k3, k4, k5, k6⟩ := cA_load hA1
            simp only at k0 k1 k2 k3 k4 k5 k6
            clear hA1
            go_wp2_with (first | (go_at_call 39; refine (in_any _ _ _ _).mono ?_; rintro e w' ⟨rfl, rfl⟩; try rw [d1]; try rw [d2]; try rw [d3]; try rw [d4]))
            go_ret
            refine ⟨congrArg (fun b => Ending.returned (Value.bool b)) (HKEY.out _ ?_).symm, HB1.out⟩
            rw [HRE.out]
            simp only [C0.out, C1.out, C2.out, C3.out, C4.out, and_self]
          · have d4 : (decide (-1439 ≤ z) && decide (z ≤ 1439)) = false := by simp; omega
            have C4 := hid c4
            clear c4
            rw [d0] at C
            have HC := hid C
            clear C
            go_enter Tryd.func16, Tryd.ntmps16
            go_wp2_with fail
            refine HC.out.mono ?_
            rintro e w1 ⟨rfl, hb1⟩
            have hA1 := (hb1.block w.heap.size (by simp)).trans HA.out
            have HB1 := hid (HB.out.trans (hb1.mono (by simp)))
            clear k0 k1 k2 k3 k4 k5 k6 hb1
            obtain ⟨k0, k1, k2, k3, k4, k5, k6⟩ := cA_load hA1
            simp only at k0 k1 k2 k3 k4 k5 k6
            clear hA1
            go_wp2_with (first | (go_at_call 39; refine (in_any _ _ _ _).mono ?_; rintro e w' ⟨rfl, rfl⟩; try rw [d1]; try rw [d2]; try rw [d3]; try rw [d4]))
            go_ret
            refine ⟨congrArg (fun b => Ending.returned (Value.bool b)) (HKEY.out _ ?_).symm, HB1.out⟩
            rw [HRE.out]
            have := C4.out
            simp only [Bool.false_eq_true, false_iff]
            exact fun x => this x.2.2.2.2
        · have d3 : (decide (0 ≤ s) && decide (s ≤ 59)) = false := by simp; omega
          have C3 := hid c3
          clear c3
          rw [d0] at C
          have HC := hid C
          clear C
          go_enter Tryd.func16, Tryd.ntmps16
          go_wp2_with fail
          refine HC.out.mono ?_
          rintro e w1 ⟨rfl, hb1⟩
          have hA1 := (hb1.block w.heap.size (by simp)).trans HA.out
          have HB1 := hid (HB.out.trans (hb1.mono (by simp)))
          clear k0 k1 k2 k3 k4 k5 k6 hb1
          obtain ⟨k0, k1, k2, k3, k4, k5, k6⟩ := cA_load hA1
          simp only at k0 k1 k2 k3 k4 k5 k6
          clear hA1
          go_wp2_with (first | (go_at_call 39; refine (in_any _ _ _ _).mono ?_; rintro e w' ⟨rfl, rfl⟩; try rw [d1]; try rw [d2]; try rw [d3]))
          go_ret
          refine ⟨congrArg (fun b => Ending.returned (Value.bool b)) (HKEY.out _ ?_).symm, HB1.out⟩
          rw [HRE.out]
          have := C3.out
          simp only [Bool.false_eq_true, false_iff]
          exact fun x => this x.2.2.2.1
      · have d2 : (decide (0 ≤ mi) && decide (mi ≤ 59)) = false := by simp; omega
        have C2 := hid c2
        clear c2
        rw [d0] at C
        have HC := hid C
        clear C
        go_enter Tryd.func16, Tryd.ntmps16
        go_wp2_with fail
        refine HC.out.mono ?_
        rintro e w1 ⟨rfl, hb1⟩
        have hA1 := (hb1.block w.heap.size (by simp)).trans HA.out
        have HB1 := hid (HB.out.trans (hb1.mono (by simp)))
        clear k0 k1 k2 k3 k4 k5 k6 hb1
        obtain ⟨k0, k1, k2, k3, k4, k5, k6⟩ := cA_load hA1
        simp only at k0 k1 k2 k3 k4 k5 k6
        clear hA1
        go_wp2_with (first | (go_at_call 39; refine (in_any _ _ _ _).mono ?_; rintro e w' ⟨rfl, rfl⟩; try rw [d1]; try rw [d2]))
        go_ret
        refine ⟨congrArg (fun b => Ending.returned (Value.bool b)) (HKEY.out _ ?_).symm, HB1.out⟩
        rw [HRE.out]
        have := C2.out
        simp only [Bool.false_eq_true, false_iff]
        exact fun x => this x.2.2.1
    · have d1 : (decide (0 ≤ h) && decide (h ≤ 23)) = false := by simp; omega
      have C1 := hid c1
      clear c1
      rw [d0] at C
      have HC := hid C
      clear C
      go_enter Tryd.func16, Tryd.ntmps16
      go_wp2_with fail
      refine HC.out.mono ?_
      rintro e w1 ⟨rfl, hb1⟩
      have hA1 := (hb1.block w.heap.size (by simp)).trans HA.out
      have HB1 := hid (HB.out.trans (hb1.mono (by simp)))
      clear k0 k1 k2 k3 k4 k5 k6 hb1
      obtain ⟨k0, k1, k2, k3, k4, k5, k6⟩ := cA_load hA1
      simp only at k0 k1 k2 k3 k4 k5 k6
      clear hA1
      go_wp2_with (first | (go_at_call 39; refine (in_any _ _ _ _).mono ?_; rintro e w' ⟨rfl, rfl⟩; try rw [d1]))
      go_ret
      refine ⟨congrArg (fun b => Ending.returned (Value.bool b)) (HKEY.out _ ?_).symm, HB1.out⟩
      rw [HRE.out]
      have := C1.out
      simp only [Bool.false_eq_true, false_iff]
      exact fun x => this x.2.1
  · have d0 : decide (There y mo d) = false := by simp [c0]
    have C0 := hid c0
    clear c0
    rw [d0] at C
    have HC := hid C
    clear C
    go_enter Tryd.func16, Tryd.ntmps16
    go_wp2_with fail
    refine HC.out.mono ?_
    rintro e w1 ⟨rfl, hb1⟩
    have hA1 := (hb1.block w.heap.size (by simp)).trans HA.out
    have HB1 := hid (HB.out.trans (hb1.mono (by simp)))
    clear k0 k1 k2 k3 k4 k5 k6 hb1
    obtain ⟨k0, k1, k2, k3, k4, k5, k6⟩ := cA_load hA1
    simp only at k0 k1 k2 k3 k4 k5 k6
    clear hA1
    go_wp2_with (first | (go_at_call 39; refine (in_any _ _ _ _).mono ?_; rintro e w' ⟨rfl, rfl⟩; skip))
    go_ret
    refine ⟨congrArg (fun b => Ending.returned (Value.bool b)) (HKEY.out _ ?_).symm, HB1.out⟩
    rw [HRE.out]
    have := C0.out
    simp only [Bool.false_eq_true, false_iff]
    exact fun x => this x.1

set_option maxRecDepth 100000 in
set_option maxHeartbeats 2000000 in
theorem runix_any (t : Dt) (w : World) : Calls Tryd.prog 18 #[dtV t] w fun e w' => e = .returned (.int .i64 (unixV t)) ∧ Below w.heap.size w w' := by
  have HA := hid (boxed0 t w)
  have HB : Hid (Below w.heap.size w (w.alloc (.cells (dtL t).toArray 29))) := (Below.refl _ _).alloc (Nat.le_refl _) _
  obtain ⟨k0, k1, k2, k3, k4, k5, k6⟩ := cA_load HA.out
  have C := rright_any t (w.alloc (.cells (dtL t).toArray 29))
  by_cases ht : RightP t
  · rw [decide_eq_true ht] at C
    have HC := hid C
    have HV : Hid (unixV t = 86400 * dayNo t.y t.mo t.d + 3600 * t.h + 60 * t.mi + t.s - 60 * t.z) := by unfold Hid unixV unixN; rw [if_pos ht]; omega
    have hdv : daysV t.y t.mo t.d = dayNo t.y t.mo t.d := by rw [daysV, if_pos ht.1]
    have hdr := day_range ht.1
    obtain ⟨hth, g1, g2, g3, g4, g5, g6, g7, g8⟩ := ht
    generalize dayNo t.y t.mo t.d = D at HV hdv hdr
    obtain ⟨r1, r2⟩ := hdr
    clear C hth
    obtain ⟨y, mo, d, h, mi, s, z⟩ := t
    simp only at g1 g2 g3 g4 g5 g6 g7 g8 hdv HV
    unfold dtV
    unfold dtL at k0 k1 k2 k3 k4 k5 k6 ⊢
    simp only at k0 k1 k2 k3 k4 k5 k6
    go_enter Tryd.func18, Tryd.ntmps18
    go_wp2_with fail
    refine HC.out.mono ?_
    rintro e w1 ⟨rfl, hb1⟩
    have hA1 := (hb1.block w.heap.size (by simp)).trans HA.out
    have HB1 := hid (HB.out.trans (hb1.mono (by simp)))
    clear k0 k1 k2 k3 k4 k5 k6 hb1
    have hA1d : w1.drew.heap[w.heap.size]? = some (.cells (dtL ⟨y, mo, d, h, mi, s, z⟩).toArray 29 (0, 0)) := hA1
    have CD := rdays_any y mo d w1.drew
    rw [hdv] at CD
    have HCD := hid CD
    clear CD hdv
    have hk1 := cA_load hA1
    simp only at hk1
    have HB1d : Hid (Below w.heap.size w w1.drew) := HB1.out.drew
    have HL1 := hid (lt_of_some hA1)
    go_wp2_with fail
    go_region_held3 (fun w' => w'.cell? ⟨w.heap.size, 0, none⟩ = some (.int .i64 y) ∧ w'.cell? ⟨w.heap.size, 1, none⟩ = some (.int .i64 mo) ∧ w'.cell? ⟨w.heap.size, 2, none⟩ = some (.int .i64 d) ∧ w'.cell? ⟨w.heap.size, 3, none⟩ = some (.int .i64 h) ∧ w'.cell? ⟨w.heap.size, 4, none⟩ = some (.int .i64 mi) ∧ w'.cell? ⟨w.heap.size, 5, none⟩ = some (.int .i64 s) ∧ w'.cell? ⟨w.heap.size, 6, none⟩ = some (.int .i64 z)) (first | exact hk1 | exact hk2 | go_keep) (first | (go_at_call 13; refine HCD.out.mono ?_; rintro e w2 ⟨rfl, hb2⟩; have hk2 := cA_load ((hb2.block w.heap.size HL1.out).trans hA1d); have HB2 := hid (HB1d.out.trans (hb2.mono HB1d.out.size))))
    go_wp2_with fail
    go_ret
    rw [HV.out]
    refine ⟨congrArg (fun n => Ending.returned (Value.int .i64 n)) ?_, HB2.out⟩
    rw [wr64 (86400 * D) (by omega), wr64 (3600 * h) (by omega), wr64 (60 * mi) (by omega), wr64 (60 * z) (by omega), wr64 (86400 * D + 3600 * h) (by omega), wr64 (86400 * D + 3600 * h + 60 * mi) (by omega), wr64 (86400 * D + 3600 * h + 60 * mi + s) (by omega), wr64 (86400 * D + 3600 * h + 60 * mi + s - 60 * z) (by omega)]
  · rw [decide_eq_false ht] at C
    have HC := hid C
    have HV : Hid (unixV t = 0) := by unfold Hid unixV; rw [if_neg ht]
    clear C ht
    obtain ⟨y, mo, d, h, mi, s, z⟩ := t
    unfold dtV
    unfold dtL at k0 k1 k2 k3 k4 k5 k6 ⊢
    simp only at k0 k1 k2 k3 k4 k5 k6
    go_enter Tryd.func18, Tryd.ntmps18
    go_wp2_with fail
    refine HC.out.mono ?_
    rintro e w1 ⟨rfl, hb1⟩
    have HB1 := hid (HB.out.trans (hb1.mono (by simp)))
    clear k0 k1 k2 k3 k4 k5 k6 hb1
    go_wp2_with fail
    go_ret
    rw [HV.out]
    exact ⟨rfl, HB1.out⟩
end Go.Proofs.YtnjdgbbdjkhpoaaDoor
