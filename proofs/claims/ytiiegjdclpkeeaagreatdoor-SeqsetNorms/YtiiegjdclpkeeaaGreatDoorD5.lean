/- What this text holds: the document's words for the greatest and the least number that a span covers. -/
import Derived.Test.YtiiegjdclpkeeaaGreatDoorD1
import Derived.Test.YtiiegjdclpkeeaaGreatDoorP4
namespace Go.Proofs.YtiiegjdclpkeeaaGreatDoor
open Go.RowKit
set_option linter.unusedVariables false
set_option linter.unusedSimpArgs false

theorem ret_int {a b : Int} (h : a = b) : Ending.returned (.int .i64 a) = .returned (.int .i64 b) := by rw [h]
theorem end_no {x y most : Int} (h : (x = 0 ∨ y = 0) ∧ most < 1) : endD (x, y) most = 0 := by
  have h1 : rchB (x, y) most = false := by unfold rchB; rw [if_pos ⟨h.2, h.1⟩]
  unfold endD; rw [h1]; rfl
theorem end_yes {x y most a b : Int} (hx : 0 ≤ x) (hy : 0 ≤ y) (h : ¬ ((x = 0 ∨ y = 0) ∧ most < 1)) (ha : kn x most = a) (hb : kn y most = b) : endD (x, y) most = min (max a b) mx ∧ (rchA (x, y) most).1 = min a b ∧ 1 ≤ a ∧ 1 ≤ b := by
  have h1 : 1 ≤ a ∧ 1 ≤ b := by
    subst ha hb
    unfold kn
    constructor <;> split <;> omega
  have h2 : (rchA (x, y) most) = (max 1 (min a b), max a b) := by unfold rchA; rw [ha, hb]
  have h3 : rchB (x, y) most = true := by
    unfold rchB
    rw [if_neg (fun e => h ⟨e.2, e.1⟩), h2]
    simp; omega
  refine ⟨by unfold endD; rw [if_pos h3, h2], by rw [h2]; simp only; omega, h1⟩
set_option maxRecDepth 100000 in
set_option maxHeartbeats 4000000 in
theorem rend_any (x y most : Int) (w : World) (hx0 : 0 ≤ x) (hy0 : 0 ≤ y) : Calls Tryz.prog 38 #[.agg #[.int .i64 x, .int .i64 y], .int .i64 most] w fun e w' => e = .returned (.int .i64 (endD (x, y) most)) ∧ Below w.heap.size w w' := by
  have HB : Hid (Below w.heap.size w (w.alloc (.cells #[.int .i64 x, .int .i64 y] 44))) := (Below.refl _ _).alloc (Nat.le_refl _) _
  by_cases hx : x = 0
  · have d1 : (x == 0) = true := by simp [hx]
    by_cases hy : y = 0
    · have d2 : (y == 0) = true := by simp [hy]
      by_cases hm : most < 1
      · have HC := hid (end_no (x := x) (y := y) (most := most) (by omega))
        clear hx hy
        go_enter Tryz.func38, Tryz.ntmps38
        go_wp2_with fail
        all_goals
          go_ret
          rw [HC.out]
          exact ⟨rfl, HB.out⟩
      · have hE := end_yes (x := x) (y := y) (most := most) hx0 hy0 (by omega) (kn_0 hx) (kn_0 hy)
        try simp only [Int.max_self, Int.min_self] at hE
        have HC := hid hE.1
        have HXx := hid hx
        have HYy := hid hy
        clear hE hx hy
        go_enter Tryz.func38, Tryz.ntmps38
        go_wp2_with fail
        all_goals
          go_ret
          exact ⟨ret_int (by rw [HC.out]; unfold mx; have h1 := HXx.out; have h2 := HYy.out; omega), HB.out⟩
    · have d2 : (y == 0) = false := by simp [hy]
      by_cases hm : most < 1
      · have HC := hid (end_no (x := x) (y := y) (most := most) (by omega))
        clear hx hy
        go_enter Tryz.func38, Tryz.ntmps38
        go_wp2_with fail
        all_goals
          go_ret
          rw [HC.out]
          exact ⟨rfl, HB.out⟩
      · have hE := end_yes (x := x) (y := y) (most := most) hx0 hy0 (by omega) (kn_0 hx) (kn_1 hy)
        try simp only [Int.max_self, Int.min_self] at hE
        have HC := hid hE.1
        have HXx := hid hx
        have HYy := hid hy
        clear hE hx hy
        go_enter Tryz.func38, Tryz.ntmps38
        go_wp2_with fail
        all_goals
          go_ret
          exact ⟨ret_int (by rw [HC.out]; unfold mx; have h1 := HXx.out; have h2 := HYy.out; omega), HB.out⟩
  · have d1 : (x == 0) = false := by simp [hx]
    by_cases hy : y = 0
    · have d2 : (y == 0) = true := by simp [hy]
      by_cases hm : most < 1
      · have HC := hid (end_no (x := x) (y := y) (most := most) (by omega))
        clear hx hy
        go_enter Tryz.func38, Tryz.ntmps38
        go_wp2_with fail
        all_goals
          go_ret
          rw [HC.out]
          exact ⟨rfl, HB.out⟩
      · have hE := end_yes (x := x) (y := y) (most := most) hx0 hy0 (by omega) (kn_1 hx) (kn_0 hy)
        try simp only [Int.max_self, Int.min_self] at hE
        have HC := hid hE.1
        have HXx := hid hx
        have HYy := hid hy
        clear hE hx hy
        go_enter Tryz.func38, Tryz.ntmps38
        go_wp2_with fail
        all_goals
          go_ret
          exact ⟨ret_int (by rw [HC.out]; unfold mx; have h1 := HXx.out; have h2 := HYy.out; omega), HB.out⟩
    · have d2 : (y == 0) = false := by simp [hy]
      have hE := end_yes (x := x) (y := y) (most := most) hx0 hy0 (by omega) (kn_1 hx) (kn_1 hy)
      try simp only [Int.max_self, Int.min_self] at hE
      have HC := hid hE.1
      have HXx := hid hx
      have HYy := hid hy
      clear hE hx hy
      go_enter Tryz.func38, Tryz.ntmps38
      go_wp2_with fail
      all_goals
        go_ret
        exact ⟨ret_int (by rw [HC.out]; unfold mx; have h1 := HXx.out; have h2 := HYy.out; omega), HB.out⟩
theorem least_no {s : Sp} {most at_ : Int} (h : endD s most ≤ at_) : leastD s most at_ = 0 := by unfold leastD; rw [if_pos h]
theorem least_yes {s : Sp} {most at_ a : Int} (h : ¬ endD s most ≤ at_) (ha : (rchA s most).1 = a) : leastD s most at_ = if mx < a then 0 else if a ≤ at_ then at_ + 1 else a := by unfold leastD; rw [if_neg h, ha]
set_option maxRecDepth 100000 in
set_option maxHeartbeats 4000000 in
theorem rleast_any (x y most at_ : Int) (w : World) (hx0 : 0 ≤ x) (hy0 : 0 ≤ y) (ha0 : 0 ≤ at_) (ha1 : at_ ≤ 4294967295) : Calls Tryz.prog 37 #[.agg #[.int .i64 x, .int .i64 y], .int .i64 most, .int .i64 at_] w fun e w' => e = .returned (.int .i64 (leastD (x, y) most at_)) ∧ Below w.heap.size w w' := by
  have hb1 : Below w.heap.size w (w.alloc (.cells #[.int .i64 x, .int .i64 y] 44)) := (Below.refl _ _).alloc (Nat.le_refl _) _
  have C := rend_any x y most (w.alloc (.cells #[.int .i64 x, .int .i64 y] 44)) hx0 hy0
  have HB1 := hid hb1
  clear hb1
  have c0 : (w.alloc (.cells #[.int .i64 x, .int .i64 y] 44)).cell? ⟨w.heap.size, 0, none⟩ = some (.int .i64 x) := by simp
  have c1 : (w.alloc (.cells #[.int .i64 x, .int .i64 y] 44)).cell? ⟨w.heap.size, 1, none⟩ = some (.int .i64 y) := by simp
  by_cases hend : endD (x, y) most ≤ at_
  · have HX := hid (least_no hend)
    generalize endD (x, y) most = en at *
    have d0 : decide (en ≤ at_) = true := by simpa using hend
    go_enter Tryz.func37, Tryz.ntmps37
    go_wp2_with fail
    refine C.mono ?_
    clear C
    rintro e w1 ⟨rfl, hb2⟩
    have HB2 := hid (HB1.out.trans (hb2.mono HB1.out.size))
    clear hb2
    go_wp2_with fail
    go_ret
    rw [HX.out]
    exact ⟨rfl, HB2.out⟩
  · have hnz : ¬ ((x = 0 ∨ y = 0) ∧ most < 1) := fun e => hend (by rw [end_no e]; exact ha0)
    have HY := hid (fun a => @least_yes (x, y) most at_ a hend)
    have HEY := hid (fun a b h1 h2 => @end_yes x y most a b hx0 hy0 hnz h1 h2)
    generalize endD (x, y) most = en at *
    have d0 : decide (en ≤ at_) = false := by simpa using hend
    clear hnz
    by_cases hx : x = 0
    · have d1 : (x == 0) = true := by simp [hx]
      by_cases hy : y = 0
      · have d2 : (y == 0) = true := by simp [hy]
        have hE := (HEY.out _ _ (kn_0 hx) (kn_0 hy)).2
        try simp only [Int.max_self, Int.min_self] at hE
        have HC := hid (HY.out _ hE.1)
        have HXx := hid hx
        have HYy := hid hy
        have hp := hE.2
        clear hE hx hy HY HEY
        go_enter Tryz.func37, Tryz.ntmps37
        go_wp2_with fail
        refine C.mono ?_
        clear C
        rintro e w1 ⟨rfl, hb2⟩
        have HB2 := hid (HB1.out.trans (hb2.mono HB1.out.size))
        have c0' := (World.cell?_of_block (hb2.block w.heap.size (by simp))).trans c0
        have c1' := (World.cell?_of_block (hb2.block w.heap.size (by simp))).trans c1
        clear hb2
        go_wp2_with fail
        all_goals
          go_ret
          refine ⟨ret_int ?_, HB2.out⟩
          rw [HC.out]
          have h1 := HXx.out
          have h2 := HYy.out
          unfold mx
          repeat' split
          all_goals omega
      · have d2 : (y == 0) = false := by simp [hy]
        have hE := (HEY.out _ _ (kn_0 hx) (kn_1 hy)).2
        try simp only [Int.max_self, Int.min_self] at hE
        have HC := hid (HY.out _ hE.1)
        have HXx := hid hx
        have HYy := hid hy
        have hp := hE.2
        clear hE hx hy HY HEY
        go_enter Tryz.func37, Tryz.ntmps37
        go_wp2_with fail
        refine C.mono ?_
        clear C
        rintro e w1 ⟨rfl, hb2⟩
        have HB2 := hid (HB1.out.trans (hb2.mono HB1.out.size))
        have c0' := (World.cell?_of_block (hb2.block w.heap.size (by simp))).trans c0
        have c1' := (World.cell?_of_block (hb2.block w.heap.size (by simp))).trans c1
        clear hb2
        go_wp2_with fail
        all_goals
          go_ret
          refine ⟨ret_int ?_, HB2.out⟩
          rw [HC.out]
          have h1 := HXx.out
          have h2 := HYy.out
          unfold mx
          repeat' split
          all_goals omega
    · have d1 : (x == 0) = false := by simp [hx]
      by_cases hy : y = 0
      · have d2 : (y == 0) = true := by simp [hy]
        have hE := (HEY.out _ _ (kn_1 hx) (kn_0 hy)).2
        try simp only [Int.max_self, Int.min_self] at hE
        have HC := hid (HY.out _ hE.1)
        have HXx := hid hx
        have HYy := hid hy
        have hp := hE.2
        clear hE hx hy HY HEY
        go_enter Tryz.func37, Tryz.ntmps37
        go_wp2_with fail
        refine C.mono ?_
        clear C
        rintro e w1 ⟨rfl, hb2⟩
        have HB2 := hid (HB1.out.trans (hb2.mono HB1.out.size))
        have c0' := (World.cell?_of_block (hb2.block w.heap.size (by simp))).trans c0
        have c1' := (World.cell?_of_block (hb2.block w.heap.size (by simp))).trans c1
        clear hb2
        go_wp2_with fail
        all_goals
          go_ret
          refine ⟨ret_int ?_, HB2.out⟩
          rw [HC.out]
          have h1 := HXx.out
          have h2 := HYy.out
          unfold mx
          repeat' split
          all_goals omega
      · have d2 : (y == 0) = false := by simp [hy]
        have hE := (HEY.out _ _ (kn_1 hx) (kn_1 hy)).2
        try simp only [Int.max_self, Int.min_self] at hE
        have HC := hid (HY.out _ hE.1)
        have HXx := hid hx
        have HYy := hid hy
        have hp := hE.2
        clear hE hx hy HY HEY
        go_enter Tryz.func37, Tryz.ntmps37
        go_wp2_with fail
        refine C.mono ?_
        clear C
        rintro e w1 ⟨rfl, hb2⟩
        have HB2 := hid (HB1.out.trans (hb2.mono HB1.out.size))
        have c0' := (World.cell?_of_block (hb2.block w.heap.size (by simp))).trans c0
        have c1' := (World.cell?_of_block (hb2.block w.heap.size (by simp))).trans c1
        clear hb2
        go_wp2_with fail
        all_goals
          go_ret
          refine ⟨ret_int ?_, HB2.out⟩
          rw [HC.out]
          have h1 := HXx.out
          have h2 := HYy.out
          unfold mx
          repeat' split
          all_goals omega
end Go.Proofs.YtiiegjdclpkeeaaGreatDoor
