/- What this text holds: the document's Months. -/
import Derived.Test.YtnjdgbbdjkhpoaaDoorR6
namespace Go.Proofs.YtnjdgbbdjkhpoaaDoor
open Go.RowKit
set_option linter.unusedVariables false
set_option linter.unusedSimpArgs false

set_option maxRecDepth 100000 in
set_option maxHeartbeats 1000000 in
theorem months_any (m : Int) (hm1 : 1 ≤ m) (hm2 : m ≤ 12) (w : World) : Calls Tryd.prog 49 #[.int .i64 m] w fun e w' => e = .returned (.string (str (monthN m))) ∧ Below w.heap.size w w' := by
  rcases month_cases hm1 hm2 with rfl | rfl | rfl | rfl | rfl | rfl | rfl | rfl | rfl | rfl | rfl | rfl
  all_goals
    go_enter Tryd.func49, Tryd.ntmps49
    go_wp2_with fail
    go_ret
    exact ⟨rfl, (Below.refl _ _).alloc (Nat.le_refl _) _⟩

end Go.Proofs.YtnjdgbbdjkhpoaaDoor
