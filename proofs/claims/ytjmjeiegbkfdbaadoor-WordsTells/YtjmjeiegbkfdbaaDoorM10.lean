/- What this text holds: the chapter's examples. -/
import Derived.Test.YtjmjeiegbkfdbaaDoorM9
namespace Go.Proofs.YtjmjeiegbkfdbaaDoor
open Go.RowKit
set_option linter.unusedVariables false
set_option linter.unusedSimpArgs false

set_option maxRecDepth 100000 in
theorem no_any (n : Int) (w : World) : Calls Tryd.prog 14 #[.int .i64 n] w fun e w' => e = .returned (.int .i64 n) ∧ w' = w := by
  go_enter Tryd.func14, Tryd.ntmps14
  go_wp2_with fail
  go_ret
  exact ⟨rfl, rfl⟩
theorem al1 : un [89, 87, 73, 61] = some [97, 98] := by decide +kernel
theorem al2 : b64 [97, 98] = [89, 87, 73, 61] := by decide +kernel
theorem al3 : unq [97, 61, 51, 68, 98, 61, 48, 65] = [97, 61, 98, 10] := by decide +kernel
def exL : Bs := [61, 63, 117, 116, 102, 45, 56, 63, 66, 63, 119, 54, 107, 61, 63, 61, 32, 61, 63, 73, 83, 79, 45, 56, 56, 53, 57, 45, 49, 63, 113, 63, 61, 69, 57, 95, 120, 63, 61]
theorem al4 : wordsP false (joined [exL]) = [195, 169, 195, 169, 32, 120] := by decide +kernel
theorem al5 : low [97, 66] = [97, 98] := by decide +kernel
theorem exSL (w : World) : SL (w.alloc (.cells #[.string (str exL)] 9)) (.slice (some ⟨w.heap.size, 0, none⟩) 1 1) [exL] := by
  refine ⟨_, _, rfl, by simp, .inr ⟨_, _, rfl, ?_⟩⟩
  intro j x hx
  match j, hx with
  | 0, hx =>
    cases hx
    simp only [World.cell?, heap_alloc_new]
    rfl
  | (j + 1), hx => simp at hx

set_option maxRecDepth 100000 in
set_option maxHeartbeats 4000000 in
theorem alive_any (w : World) : Calls Tryd.prog 9 #[] w fun e w' => e = .returned (.bool true) ∧ Below w.heap.size w w' := by
  have q1 : ((str [89, 87, 73, 61]).toList == [89, 87, 73, 61]) = true := by rw [eq_lit]; simp
  have q2 : ((str [97, 98]).toList == [97, 98]) = true := by rw [eq_lit]; simp
  have q3 : ((str [97, 61, 98, 10]).toList == [97, 61, 98, 10]) = true := by rw [eq_lit]; simp
  have q4 : ((str [195, 169, 195, 169, 32, 120]).toList == [195, 169, 195, 169, 32, 120]) = true := by rw [eq_lit]; simp
  go_enter Tryd.func9, Tryd.ntmps9
  go_wp2_with fail
  have C := unbase64_any [89, 87, 73, 61] w (by simp)
  rw [unV_ok al1] at C
  refine C.mono ?_
  clear C
  rintro e w1 ⟨rfl, hb⟩
  have B1 := hid hb
  clear hb
  go_wp2_with fail
  have C := base64_any [97, 98] w1 (by simp)
  rw [al2] at C
  refine C.mono ?_
  clear C
  rintro e w2 ⟨rfl, hb⟩
  have B2 := hid (B1.out.trans (hb.mono B1.out.size))
  clear hb
  go_wp2_with fail
  refine (no_any _ _).mono ?_
  rintro e w3 ⟨rfl, rfl⟩
  go_wp2_with fail
  have C := unquote_any [97, 61, 51, 68, 98, 61, 48, 65] w3 (by simp)
  rw [al3] at C
  refine C.mono ?_
  clear C
  rintro e w4 ⟨rfl, hb⟩
  have B4 := hid (B2.out.trans (hb.mono B2.out.size))
  clear hb
  go_wp2_with fail
  have C := words_any [exL] _ _ (exSL w4) (by simp) (by decide)
  rw [al4] at C
  refine C.mono ?_
  clear C
  rintro e w5 ⟨rfl, hb⟩
  have B5 := hid ((B4.out.alloc B4.out.size _).trans (hb.mono (by have := B4.out.size; simp; omega)))
  clear hb
  go_wp2_with fail
  have C := lower_any [97, 66] w5 (by simp)
  rw [al5] at C
  refine C.mono ?_
  clear C
  rintro e w6 ⟨rfl, hb⟩
  have B6 := hid (B5.out.trans (hb.mono B5.out.size))
  clear hb
  go_wp2_with fail
  go_ret
  exact ⟨rfl, B6.out⟩
end Go.Proofs.YtjmjeiegbkfdbaaDoor
