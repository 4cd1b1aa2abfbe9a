/- What this text holds: where the document cuts a message. -/
import Derived.Test.YtemgpghjolpneaaGreatDoorR1
namespace Go.Proofs.YtemgpghjolpneaaGreatDoor
open Go.RowKit
set_option linter.unusedVariables false
set_option linter.unusedSimpArgs false

theorem emp_bare {l : Bs} (h : l ≠ []) : (bare l = [] ↔ emp l = true) := by
  constructor
  · intro hb
    by_cases h10 : l.getLast? = some 10
    · have hl := List.dropLast_concat_getLast h
      rw [List.getLast?_eq_some_getLast h] at h10
      rw [Option.some.inj h10] at hl
      by_cases h13 : l.dropLast.getLast? = some 13
      · have hn2 : l.dropLast ≠ [] := by intro e; rw [e] at h13; simp at h13
        have hl2 := List.dropLast_concat_getLast hn2
        rw [List.getLast?_eq_some_getLast hn2] at h13
        rw [Option.some.inj h13] at hl2
        have hb2 : l.dropLast.dropLast = [] := by
          unfold bare at hb
          rw [if_pos (by rw [List.getLast?_eq_some_getLast h, h10]), if_pos (by rw [List.getLast?_eq_some_getLast hn2, h13])] at hb
          exact hb
        rw [hb2] at hl2
        rw [← hl2] at hl
        rw [← hl]; rfl
      · have hb2 : l.dropLast = [] := by
          unfold bare at hb
          rw [if_pos (by rw [List.getLast?_eq_some_getLast h, h10]), if_neg h13] at hb
          exact hb
        rw [hb2] at hl
        rw [← hl]; rfl
    · unfold bare at hb
      rw [if_neg h10] at hb
      exact absurd hb h
  · intro he
    have : l = [10] ∨ l = [13, 10] := by simpa [emp] using he
    rcases this with rfl | rfl <;> rfl
theorem emp_last10 {l : Bs} (he : emp l = true) : ∃ (h : 0 < l.length), l[l.length - 1]'(by omega) = 10 := by
  have : l = [10] ∨ l = [13, 10] := by simpa [emp] using he
  rcases this with rfl | rfl
  · exact ⟨by simp, rfl⟩
  · exact ⟨by simp, rfl⟩
theorem line_at {s : Bs} {p k : Nat} (h : (lines s).drop k = lines (s.drop p)) (hk : k < (lines s).length) : s.drop p ≠ [] ∧ (lines s)[k] = (s.drop p).take (ln (s.drop p)) ∧ (lines s).drop (k + 1) = lines (s.drop (p + ln (s.drop p))) := by
  have hne : s.drop p ≠ [] := by
    intro e
    rw [e, lines_nil] at h
    have := congrArg List.length h
    simp at this
    omega
  rw [lines_step _ hne, List.drop_eq_getElem_cons hk] at h
  have h2 := List.cons.inj h
  exact ⟨hne, h2.1, by rw [h2.2, List.drop_drop]⟩
def RCutIs (s : Bs) (w : World) (e : Ending) (w' : World) : Prop := e = .returned (.tuple #[.string (str (s.take (hdr s))), .string (str (s.drop (hdr s)))]) ∧ Below w.heap.size w w'
end Go.Proofs.YtemgpghjolpneaaGreatDoor
