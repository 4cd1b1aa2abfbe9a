/- What this text holds: a span's text, a set's text. -/
import Derived.Test.YtiiegjdclpkeeaaGreatDoorM21
namespace Go.Proofs.YtiiegjdclpkeeaaGreatDoor
open Go.RowKit
set_option linter.unusedVariables false
set_option linter.unusedSimpArgs false

/-- A span lies in a block of its own. -/
def Box (w : World) (x y : Int) (w' : World) : Prop := Below w.heap.size w w' ∧ Env w' ∧ w'.heap[w.heap.size]? = some (.cells #[.int .i64 x, .int .i64 y] 44 (0, 0))
theorem Box.later {w w' w2 : World} {x y : Int} (h : Box w x y w') (hb : Below w'.heap.size w' w2) : Box w x y w2 :=
  ⟨h.1.trans (hb.mono h.1.size), h.2.1.later hb, (hb.block _ (lt_of_some h.2.2)).trans h.2.2⟩
theorem Box.drew {w w' : World} {x y : Int} (h : Box w x y w') : Box w x y w'.drew := h.later ⟨rfl, rfl, rfl, Nat.le_refl _, fun _ _ => rfl⟩
theorem Box.new {w : World} (x y : Int) (hE : Env w) : Box w x y (w.alloc (.cells #[.int .i64 x, .int .i64 y] 44)) :=
  ⟨(Below.refl _ _).alloc (Nat.le_refl _) _, hE.later ((Below.refl _ _).alloc (Nat.le_refl _) _), heap_alloc_new _ _⟩
theorem Box.ends {w w' : World} {x y : Int} (h : Box w x y w') : w'.cell? ⟨w.heap.size, 0, none⟩ = some (.int .i64 x) ∧ w'.cell? ⟨w.heap.size, 1, none⟩ = some (.int .i64 y) := by
  simp [World.cell?, h.2.2]
set_option maxRecDepth 100000 in
set_option maxHeartbeats 4000000 in
theorem spanText_any {w : World} (hE : Env w) (x y : Int) (hr : rSp (x, y) = true) : Calls Tryz.prog 45 #[.agg #[.int .i64 x, .int .i64 y]] w (TxtIs (spanB (x, y)) w) := by
  obtain ⟨⟨a0, a1⟩, b0, b1⟩ := (rSp_iff (x, y)).1 hr
  simp only at a0 a1 b0 b1
  have hp1 := Box.new x y hE
  have HP := hid hp1
  have C1 := fun (W : World) (h : Env W) => endText_any h x a0 a1
  have C2 := fun (W : World) (h : Env W) => endText_any h y b0 b1
  unfold TxtIs at C1 C2
  by_cases e : x = y
  · have HX : Hid (spanB (x, y) = endB x) := by unfold spanB; rw [Hid, if_pos e]
    have hb : (x == y) = true := by simpa using e
    clear e a0 a1 b0 b1 hr C2 hp1
    go_enter Tryz.func45, Tryz.ntmps45
    go_wp2_with fail
    refine (C1 _ HP.out.2.1).mono ?_
    rintro e w1 ⟨rfl, hb1⟩
    have HP1 := hid (HP.out.later hb1)
    go_wp2_with fail
    go_ret
    rw [HX.out]
    exact ⟨rfl, HP1.out.1⟩
  · have HX : Hid (str (spanB (x, y)) = str (endB x) ++ ⟨#[58]⟩ ++ str (endB y)) := by
      unfold spanB; rw [Hid, if_neg e]
      show str (endB x ++ 58 :: endB y) = str (endB x) ++ str [58] ++ str (endB y)
      rw [app_str, app_str]; simp
    have hb : (x == y) = false := by simpa using e
    have s1 : (str (endB x)).size ≤ 10 := by rw [str_size]; exact end_len a1
    have s2 : (str (endB y)).size ≤ 10 := by rw [str_size]; exact end_len b1
    clear a0 a1 b0 b1 hr
    unfold TxtIs
    rw [HX.out]
    clear HX
    generalize str (endB x) = tx at *
    generalize str (endB y) = ty at *
    have q1 : ¬ 9223372036854775807 < tx.size + 1 := by omega
    have q2 : ¬ 9223372036854775807 < tx.size + 1 + ty.size := by omega
    have q3 : ¬ 9223372036854775807 < tx.size + (⟨#[58]⟩ : ByteArray).size := by show ¬ 9223372036854775807 < tx.size + 1; omega
    have q4 : ¬ 9223372036854775807 < (tx ++ ⟨#[58]⟩).size + ty.size := by rw [ByteArray.size_append]; show ¬ 9223372036854775807 < tx.size + 1 + ty.size; omega
    have q5 : ¬ 9223372036854775807 < tx.size + (⟨#[58]⟩ : ByteArray).size + ty.size := by show ¬ 9223372036854775807 < tx.size + 1 + ty.size; omega
    have q6 : ¬ 9223372036854775807 < tx.size + (1 + ty.size) := by omega
    go_enter Tryz.func45, Tryz.ntmps45
    go_wp2_with fail
    have hp1 := hp1.drew
    obtain ⟨k0, k1⟩ := hp1.ends
    go_region_held3 (fun w' => w'.cell? ⟨w.heap.size, 0, none⟩ = some (.int .i64 x) ∧ w'.cell? ⟨w.heap.size, 1, none⟩ = some (.int .i64 y)) (first | exact ⟨k0, k1⟩ | exact hp1.ends | go_keep) (first | (go_at_call 58; first | (refine (C1 _ hp1.2.1).mono ?_; rintro e w1 ⟨rfl, hb1⟩; have hp1 := hp1.later hb1; clear hb1) | (refine (C2 _ hp1.2.1).mono ?_; rintro e w1 ⟨rfl, hb1⟩; have hp1 := hp1.later hb1; clear hb1)))
    all_goals
      go_wp2_with fail
      go_ret
      exact ⟨rfl, hp1.1⟩
end Go.Proofs.YtiiegjdclpkeeaaGreatDoor
