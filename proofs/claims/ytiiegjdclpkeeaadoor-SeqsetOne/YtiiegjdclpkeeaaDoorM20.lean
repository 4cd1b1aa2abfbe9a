/- What this text holds: the chapter's examples. -/
import Derived.Test.YtiiegjdclpkeeaaDoorM19
import Derived.Test.YtiiegjdclpkeeaaDoorM13
import Derived.Test.YtiiegjdclpkeeaaDoorM11
namespace Go.Proofs.YtiiegjdclpkeeaaDoor
open Go.RowKit
set_option linter.unusedVariables false
set_option linter.unusedSimpArgs false

theorem no_any (n : Int) (w : World) : Calls Tryd.prog 11 #[.int .i64 n] w fun e w' => e = .returned (.int .i64 n) ∧ w' = w := by
  go_enter Tryd.func11, Tryd.ntmps11
  go_wp2_with fail
  go_ret
  exact ⟨rfl, rfl⟩
theorem gl_lit {α : Type} (E : En α) (l : List α) {W : World} {n : Nat} (h : W.heap[n]? = some (.cells (E.cs l).toArray E.T (0, 0))) : GL E W (.slice (some ⟨n, 0, none⟩) l.length l.length) l := by
  refine ⟨_, l.length, rfl, Nat.le_refl _, .inr ⟨n, 0, rfl, fun j i x v h1 h2 => ?_, lt_of_some h⟩⟩
  have := E.cs_at l j i x v h1 h2
  simp only [World.cell?, h, Nat.zero_add]
  simpa using this
theorem ex_parse : parV [49, 58, 51, 44, 42] = ([(1, 3), (0, 0)], 0) := by decide +kernel
theorem ex_memb : ([1, 2, 3, 4, 5, 6, 7, 8] : List Int).filter (fun n => hasB [(1, 3), (0, 0)] n 7) = [1, 2, 3, 7] := by decide +kernel
theorem ex_norm {L : List Sp} (h : Rise L) (hm : ∀ n, memS L n ↔ n ≤ mx ∧ hasB [(5, 7), (1, 2), (3, 3)] n 9 = true) : L = [(1, 3), (5, 7)] := by
  refine rise_one _ _ h (by simp [Rise]) (fun n => ?_)
  rw [hm n]
  simp [hasB, covB, kn, memS, mx]
  omega
theorem ex_of {L : List Sp} (h : Rise L) (hm : ∀ n, memS L n ↔ n ∈ ([3, 1, 2, 9] : List Int) ∧ 1 ≤ n ∧ n ≤ mx) : L = [(1, 3), (9, 9)] := by
  refine rise_one _ _ h (by simp [Rise]) (fun n => ?_)
  rw [hm n]
  simp [memS, mx]
  omega
theorem alloc_heap (w : World) (o : Obj) : (w.alloc o).heap[w.heap.size]? = some o := heap_alloc_new w o
set_option maxRecDepth 100000 in
set_option maxHeartbeats 4000000 in
theorem alive_any {w : World} (hE : Env w) : Calls Tryd.prog 4 #[] w fun e w' => e = .returned (.bool true) ∧ Below w.heap.size w w' := by
  have C : Calls Tryd.prog 10 #[.string ⟨#[49, 58, 51, 44, 42]⟩] w (ParseIs [49, 58, 51, 44, 42] w) := parse_any hE [49, 58, 51, 44, 42] (by simp)
  unfold ParseIs at C
  rw [ex_parse] at C
  go_enter Tryd.func4, Tryd.ntmps4
  go_wp2_with fail
  refine C.mono ?_
  clear C
  rintro e w1 ⟨⟨v1, rfl, ho1⟩, hb1⟩
  have HG1 := hid ho1.gl
  have HB1 := hid hb1
  clear ho1 hb1
  go_wp2_with fail
  refine (no_any 0 w1).mono ?_
  rintro e w1' ⟨rfl, rfl⟩
  go_wp2_with fail
  have hba : Below w1'.heap.size w1' (w1'.alloc (.cells #[.int .i64 1, .int .i64 3, .int .i64 0, .int .i64 0] 26)) := (Below.refl _ _).alloc (Nat.le_refl _) _
  have C2 := same_any (HG1.out.later hba) (gl_lit eSp [(1, 3), (0, 0)] (W := w1'.alloc (.cells #[.int .i64 1, .int .i64 3, .int .i64 0, .int .i64 0] 26)) (heap_alloc_new _ _)) (by simp)
  unfold SameIs at C2
  refine C2.mono ?_
  clear C2
  rintro e w2 ⟨rfl, hb2⟩
  have HB2 := hid (hba.trans (hb2.mono hba.size))
  clear hb2 hba
  have HBw2 := hid (HB1.out.trans (HB2.out.mono HB1.out.size))
  go_wp2_with fail
  have hba : Below w2.heap.size w2 (w2.alloc (.cells #[.int .i64 1, .int .i64 2, .int .i64 3, .int .i64 4, .int .i64 5, .int .i64 6, .int .i64 7, .int .i64 8] 3)) := (Below.refl _ _).alloc (Nat.le_refl _) _
  have C3 := members_any ((HG1.out.later HB2.out).later hba) (gl_lit eI [1, 2, 3, 4, 5, 6, 7, 8] (W := w2.alloc (.cells #[.int .i64 1, .int .i64 2, .int .i64 3, .int .i64 4, .int .i64 5, .int .i64 6, .int .i64 7, .int .i64 8] 3)) (heap_alloc_new _ _)) (by simp) (by simp) 7 (by unfold mi; omega) (by intro s hs; unfold mi; simp at hs; rcases hs with rfl | rfl <;> simp)
  unfold MembIs at C3
  rw [ex_memb] at C3
  refine C3.mono ?_
  clear C3
  rintro e w3 ⟨⟨v3, rfl, ho3⟩, hb3⟩
  have HG3 := hid ho3.gl
  have HB3 := hid (hba.trans (hb3.mono hba.size))
  have HBw3 := hid (HBw2.out.trans (HB3.out.mono HBw2.out.size))
  clear ho3 hb3 hba
  go_wp2_with fail
  have hba : Below w3.heap.size w3 (w3.alloc (.cells #[.int .i64 1, .int .i64 2, .int .i64 3, .int .i64 7] 3)) := (Below.refl _ _).alloc (Nat.le_refl _) _
  have C4 := ints_any (HG3.out.later hba) (gl_lit eI [1, 2, 3, 7] (W := w3.alloc (.cells #[.int .i64 1, .int .i64 2, .int .i64 3, .int .i64 7] 3)) (heap_alloc_new _ _)) (by simp)
  unfold SameIs at C4
  refine C4.mono ?_
  clear C4
  rintro e w4 ⟨rfl, hb4⟩
  have HBw4 := hid (HBw3.out.trans ((hba.trans (hb4.mono hba.size)).mono HBw3.out.size))
  clear hb4 hba
  go_wp2_with fail
  have hba : Below w4.heap.size w4 (w4.alloc (.cells #[.int .i64 5, .int .i64 7, .int .i64 1, .int .i64 2, .int .i64 3, .int .i64 3] 26)) := (Below.refl _ _).alloc (Nat.le_refl _) _
  have C5 := norm_any (gl_lit eSp [(5, 7), (1, 2), (3, 3)] (W := w4.alloc (.cells #[.int .i64 5, .int .i64 7, .int .i64 1, .int .i64 2, .int .i64 3, .int .i64 3] 26)) (heap_alloc_new _ _)) (by simp) 9 (by unfold mi; omega) (by intro s hs; unfold mi; simp at hs; rcases hs with rfl | rfl | rfl <;> simp)
  unfold NormIs at C5
  refine C5.mono ?_
  clear C5
  rintro e w5 ⟨⟨v5, L5, rfl, ho5, hr5, hm5, _⟩, hb5⟩
  have e5 := ex_norm hr5 hm5
  rw [e5] at ho5
  have HG5 := hid ho5.gl
  have HBw5 := hid (HBw4.out.trans ((hba.trans (hb5.mono hba.size)).mono HBw4.out.size))
  clear ho5 hr5 hm5 hb5 hba e5
  go_wp2_with fail
  have hba : Below w5.heap.size w5 (w5.alloc (.cells #[.int .i64 1, .int .i64 3, .int .i64 5, .int .i64 7] 26)) := (Below.refl _ _).alloc (Nat.le_refl _) _
  have C6 := same_any (HG5.out.later hba) (gl_lit eSp [(1, 3), (5, 7)] (W := w5.alloc (.cells #[.int .i64 1, .int .i64 3, .int .i64 5, .int .i64 7] 26)) (heap_alloc_new _ _)) (by simp)
  unfold SameIs at C6
  refine C6.mono ?_
  clear C6
  rintro e w6 ⟨rfl, hb6⟩
  have HBw6 := hid (HBw5.out.trans ((hba.trans (hb6.mono hba.size)).mono HBw5.out.size))
  clear hb6 hba
  go_wp2_with fail
  have hba : Below w6.heap.size w6 (w6.alloc (.cells #[.int .i64 3, .int .i64 1, .int .i64 2, .int .i64 9] 3)) := (Below.refl _ _).alloc (Nat.le_refl _) _
  have C7 := of_any (gl_lit eI [3, 1, 2, 9] (W := w6.alloc (.cells #[.int .i64 3, .int .i64 1, .int .i64 2, .int .i64 9] 3)) (heap_alloc_new _ _)) (by simp)
  unfold OfIs at C7
  refine C7.mono ?_
  clear C7
  rintro e w7 ⟨⟨v7, L7, rfl, ho7, hr7, hm7, _⟩, hb7⟩
  have e7 := ex_of hr7 hm7
  rw [e7] at ho7
  have HG7 := hid ho7.gl
  have HBw7 := hid (HBw6.out.trans ((hba.trans (hb7.mono hba.size)).mono HBw6.out.size))
  clear ho7 hr7 hm7 hb7 hba e7
  go_wp2_with fail
  have hba : Below w7.heap.size w7 (w7.alloc (.cells #[.int .i64 1, .int .i64 3, .int .i64 9, .int .i64 9] 26)) := (Below.refl _ _).alloc (Nat.le_refl _) _
  have C8 := same_any (HG7.out.later hba) (gl_lit eSp [(1, 3), (9, 9)] (W := w7.alloc (.cells #[.int .i64 1, .int .i64 3, .int .i64 9, .int .i64 9] 26)) (heap_alloc_new _ _)) (by simp)
  unfold SameIs at C8
  refine C8.mono ?_
  clear C8
  rintro e w8 ⟨rfl, hb8⟩
  have HBw8 := hid (HBw7.out.trans ((hba.trans (hb8.mono hba.size)).mono HBw7.out.size))
  clear hb8 hba
  go_wp2_with fail
  go_ret
  exact ⟨rfl, HBw8.out⟩
end Go.Proofs.YtiiegjdclpkeeaaDoor
