/- What this text holds: a copy of a list of spans. -/
import Derived.Test.YtiiegjdclpkeeaaGreatDoorM1
import Derived.Deep.Upon
namespace Go.Proofs.YtiiegjdclpkeeaaGreatDoor
open Go.RowKit
set_option linter.unusedVariables false
set_option linter.unusedSimpArgs false

theorem go_zero_sp (w : World) : GO eSp (w.alloc (.cells #[] 44)) w.heap.size (.slice (some ⟨w.heap.size, 0, none⟩) 0 0) [] :=
  ⟨rfl, .inr ⟨w.heap.size, 0, #[], rfl, Nat.le_refl _, heap_alloc_new _ _, Nat.le_refl _, Nat.zero_le _, rfl, rfl⟩⟩
theorem append_zero (w : World) (n : Nat) (a : Option Addr) (c : Nat) : (Builtin.append_ #[23, 23] 23 #[.slice (some ⟨n, 0, none⟩) 0 0, .slice a 0 c]).run Tryz.prog w = .ok (.slice (some ⟨n, 0, none⟩) 0 0) w := by
  obtain ⟨i, hi, hz0, hz1, hz2⟩ := info_parts eSp.inf
  have ht : Tryz.prog.underlying 23 = some (.slice 44) := eSp.ut
  have hi' : Tryz.prog.info? 44 = some i := hi
  cases a with
  | none => simp [Builtin.append_, run_underlying ht, sizeOf, typeInfo, hi', Builtin.lenOf, Builtin.firstCells, storeCells]
  | some p => simp [Builtin.append_, run_underlying ht, sizeOf, typeInfo, hi', Builtin.lenOf, Builtin.firstCells, storeCells, loadCells, loadCellsFrom]
theorem copy_any {w : World} {a : Option Addr} {len cap : Nat} {l : List Sp} (h : GL eSp w (.slice a len cap) l) (hl : l.length ≤ 1000000) :
    ∃ v' w', (Builtin.append_ #[23, 23] 23 #[.slice (some ⟨w.heap.size, 0, none⟩) 0 0, .slice a len cap]).run Tryz.prog (w.alloc (.cells #[] 44)) = .ok v' w' ∧ GO eSp w' w.heap.size v' l ∧ Below w.heap.size w w' := by
  have hba : Below w.heap.size w (w.alloc (.cells #[] 44)) := (Below.refl _ _).alloc (Nat.le_refl _) _
  by_cases hn : l = []
  · subst hn
    obtain ⟨a', c', e, _⟩ := h
    simp only [Value.slice.injEq, List.length_nil] at e
    obtain ⟨rfl, rfl, rfl⟩ := e
    exact ⟨_, _, append_zero _ _ _ _, go_zero_sp w, hba⟩
  · obtain ⟨v', w', h1, h2, h3, _⟩ := go_more eSp (go_zero_sp w) (by simp) (h.later hba) (by simp) hl hn
    exact ⟨v', w', h1, by simpa using h2, hba.trans h3⟩
end Go.Proofs.YtiiegjdclpkeeaaGreatDoor
