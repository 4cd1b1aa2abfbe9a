/- What this text holds: the chapter's examples. -/
import Derived.Test.YtnjdgbbdjkhpoaaDoorV6
namespace Go.Proofs.YtnjdgbbdjkhpoaaDoor
open Go.RowKit
set_option linter.unusedVariables false
set_option linter.unusedSimpArgs false

set_option maxRecDepth 100000 in
theorem no_any (n : Int) (w : World) : Calls Tryd.prog 25 #[.int .i64 n] w fun e w' => e = .returned (.int .i64 n) ∧ w' = w := by
  go_enter Tryd.func25, Tryd.ntmps25
  go_wp2_with fail
  go_ret
  exact ⟨rfl, rfl⟩
def exS : Bs := [49, 55, 45, 74, 117, 108, 45, 49, 57, 57, 54, 32, 48, 50, 58, 52, 52, 58, 50, 53, 32, 45, 48, 55, 48, 48]
def exD : Bs := [49, 45, 102, 101, 98, 45, 49, 57, 57, 52]
def exT : Dt := ⟨1996, 7, 17, 2, 44, 25, -420⟩
theorem al1 : internalV exS = some exT := by decide +kernel
theorem al2 : readP dayP exD = some ⟨1994, 2, 1, 0, 0, 0, 0⟩ := by decide +kernel
theorem al3 : daysV 1996 7 17 = 9694 := by decide +kernel
theorem al4 : printV exT = exS := by decide +kernel
theorem al5 : unixV exT = 837596665 := by decide +kernel
theorem al6 : daysV 1994 2 1 = 8797 := by decide +kernel
theorem al7 : dayV (some ⟨1994, 2, 1, 0, 0, 0, 0⟩) = .tuple #[.int .i64 8797, .int .i64 0] := by
  show Value.tuple #[.int .i64 (daysV 1994 2 1), .int .i64 0] = _
  rw [al6]

set_option maxRecDepth 100000 in
set_option maxHeartbeats 4000000 in
theorem alive_any {w : World} (hE : Env w) : Calls Tryd.prog 14 #[] w fun e w' => e = .returned (.bool true) ∧ Below w.heap.size w w' := by
  have HE := hid hE
  have q1 : ((str exS).toList == [49, 55, 45, 74, 117, 108, 45, 49, 57, 57, 54, 32, 48, 50, 58, 52, 52, 58, 50, 53, 32, 45, 48, 55, 48, 48]) = true := by rw [toList_str]; rfl
  clear hE
  go_enter Tryd.func14, Tryd.ntmps14
  go_wp2_with fail
  have hB0 : Below w.heap.size w (w.alloc (.cells (dtL exT).toArray 29)) := (Below.refl _ _).alloc (Nat.le_refl _) _
  have hA0 := boxed0 exT w
  have C := internals_any exS (by decide) (HE.out.later hB0)
  rw [al1] at C
  refine C.mono ?_
  clear C
  rintro e w1 ⟨rfl, hb1⟩
  have HB1 := hid (hB0.trans (hb1.mono hB0.size))
  have HA1 := hid ((hb1.block w.heap.size (by simp)).trans hA0)
  have HE1 : Hid (Env w1) := HE.out.later HB1.out
  have HL1 := hid (lt_of_some HA1.out)
  clear hB0 hA0 hb1
  unfold readV dtV dtL exT
  simp only
  go_wp2_with fail
  have hB1 := HB1.out.alloc HB1.out.size (.cells (dtL exT).toArray 29)
  have C := dayn_any exD (by decide) (w1.alloc (.cells (dtL exT).toArray 29))
  rw [al2, al7] at C
  refine C.mono ?_
  clear C
  rintro e w2 ⟨rfl, hb2⟩
  have HB2 := hid (hB1.trans (hb2.mono hB1.size))
  have hA2 := (hb2.block w.heap.size (by simp; have := HL1.out; omega)).trans ((Below.heap_alloc _ _ _ HL1.out).trans HA1.out)
  have hX2 := (hb2.block w1.heap.size (by simp)).trans (boxed0 exT w1)
  have HE2 : Hid (Env w2) := HE.out.later HB2.out
  have HA2 := hid hA2
  have HX2 := hid hX2
  obtain ⟨a0, a1, a2, a3, a4, a5, a6⟩ := cA_load hA2
  clear hA2 hX2 hb2 hB1
  go_wp2_with fail
  have C := days_any 1996 7 17 w2
  rw [al3] at C
  refine C.mono ?_
  clear C
  rintro e w3 ⟨rfl, rfl⟩
  go_wp2_with fail
  have C := print_any exT HE2.out
  rw [al4] at C
  refine C.mono ?_
  clear C
  rintro e w4 ⟨rfl, hb4⟩
  have HB4 := hid (HB2.out.trans (hb4.mono HB2.out.size))
  have hA4 := (hb4.block w.heap.size (lt_of_some HA2.out)).trans HA2.out
  have hX4 := (hb4.block w1.heap.size (lt_of_some HX2.out)).trans HX2.out
  have HA4 := hid hA4
  have HX4 := hid hX4
  clear a0 a1 a2 a3 a4 a5 a6
  obtain ⟨a0, a1, a2, a3, a4, a5, a6⟩ := cA_load hA4
  clear hA4 hX4 hb4
  go_wp2_with fail
  have C := unix_any exT w4
  rw [al5] at C
  refine C.mono ?_
  clear C
  rintro e w5 ⟨rfl, hb5⟩
  have HB5 := hid (HB4.out.trans (hb5.mono HB4.out.size))
  have hA5 := (hb5.block w.heap.size (lt_of_some HA4.out)).trans HA4.out
  have hX5 := (hb5.block w1.heap.size (lt_of_some HX4.out)).trans HX4.out
  clear a0 a1 a2 a3 a4 a5 a6
  obtain ⟨a0, a1, a2, a3, a4, a5, a6⟩ := cA_load hA5
  obtain ⟨b0, b1, b2, b3, b4, b5, b6⟩ := cA_load hX5
  clear hA5 hX5 hb5
  go_wp2_with (go_at_call 25; refine (no_any _ _).mono ?_; rintro e wn ⟨rfl, rfl⟩)
  go_ret
  exact ⟨rfl, HB5.out⟩
end Go.Proofs.YtnjdgbbdjkhpoaaDoor
