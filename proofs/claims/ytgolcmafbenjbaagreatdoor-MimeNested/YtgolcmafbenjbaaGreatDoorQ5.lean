/- What this text holds: numbers that a law makes, all of them 1. -/
import Derived.Test.YtgolcmafbenjbaaGreatDoorQ3
import Derived.Laws.MakeOwn
namespace Go.Proofs.YtgolcmafbenjbaaGreatDoor
open Go.RowKit
set_option linter.unusedVariables false
set_option linter.unusedSimpArgs false

theorem info3i : (Tryz.prog.info? 3).map (fun i => (i.zero, i.size, i.bytes)) = some (some (.int .i64 0), 1, 8) := by kernel_rfl
theorem made_ints (k : Nat) (hk : k ≤ 1000000) (w : World) : (Instr.makeSlice 39 (.int .i64 k) (.int .i64 k)).run Tryz.prog w = .ok (.slice (some ⟨w.heap.size, 0, none⟩) k k) (w.alloc (.cells (List.replicate k (.int .i64 0)).toArray 3)) := by
  obtain ⟨i, hi, hz0, hz1, hz2⟩ := info_parts info3i
  have h := run_make (P := Tryz.prog) w 39 3 i _ Tryz.underlying39 hi hz0 .i64 .i64 k k (by omega) (by omega) (by rw [hz2]; omega) (by omega)
  rw [h, hz1, show (k : Int).toNat = k by omega]
  have e : madeCells (Value.int .i64 0).cells (k * 1) = (List.replicate k (.int .i64 0)).toArray := by
    apply Array.toList_inj.1
    have h1' := madeCells_same 1 k (.int .i64 0) (by omega)
    have h2 : (Value.int .i64 0).cells = Array.replicate 1 (.int .i64 0) := rfl
    rw [h2, Nat.mul_one, h1']
  rw [e]
/-- The first ones are 1, the others 0. -/
def onesA (n j : Nat) : Array Value := (List.replicate j (Value.int .i64 1) ++ List.replicate (n - j) (Value.int .i64 0)).toArray
theorem ones_zero (n : Nat) : (List.replicate n (Value.int .i64 0)).toArray = onesA n 0 := by simp [onesA]
theorem ones_set (n j : Nat) (h : j < n) : (onesA n j).setIfInBounds j (.int .i64 1) = onesA n (j + 1) := by
  unfold onesA
  rw [List.setIfInBounds_toArray]
  congr 1
  have e : (List.replicate (n - j) (.int .i64 0) : List Value) = .int .i64 0 :: List.replicate (n - (j + 1)) (.int .i64 0) := by rw [show n - j = (n - (j + 1)) + 1 by omega]; rfl
  rw [e, List.set_append_right _ _ (by simp), List.length_replicate, Nat.sub_self, List.set_cons_zero, List.replicate_succ']
  simp
theorem ones_at (n j : Nat) (h : j < n) : (onesA n j)[j]? = some (.int .i64 0) := by
  unfold onesA
  rw [List.getElem?_toArray, List.getElem?_append_right (by simp), List.length_replicate, Nat.sub_self, List.getElem?_replicate, if_pos (by omega)]
/-- The row of the numbers. -/
def OnesAt (w : World) (g n j : Nat) : Prop := w.heap[g]? = some (.cells (onesA n j) 3 (0, 0))
theorem OnesAt.set {w : World} {g n j : Nat} (h : OnesAt w g n j) (hj : j < n) : OnesAt (w.setCell ⟨g, j, none⟩ (.int .i64 1)) g n (j + 1) := by
  unfold OnesAt
  rw [heap_setCell_same _ _ _ _ _ _ h, ones_set n j hj]
theorem OnesAt.cell {w : World} {g n j : Nat} (h : OnesAt w g n j) (hj : j < n) : w.cell? ⟨g, j, none⟩ = some (.int .i64 0) ∧ w.frozen? ⟨g, j, none⟩ = false := by
  simp only [OnesAt] at h
  refine ⟨?_, ?_⟩
  · simp only [World.cell?, h]
    exact ones_at n j hj
  · simp [World.frozen?, h]
theorem OnesAt.il {w : World} {g n : Nat} (h : OnesAt w g n n) : IL w (.slice (some ⟨g, 0, none⟩) n n) (List.replicate n 1) := by
  refine ⟨_, n, by rw [List.length_replicate], by rw [List.length_replicate]; exact Nat.le_refl _, .inr ⟨g, 0, rfl, lt_of_some h, fun j x hj => ?_⟩⟩
  have hl : j < n := by
    have := (List.getElem?_eq_some_iff.1 hj).1
    simpa using this
  have hx : x = 1 := by
    rw [List.getElem?_replicate, if_pos hl] at hj
    exact (Option.some.inj hj).symm
  subst hx
  simp only [OnesAt] at h
  simp only [World.cell?, h, Nat.zero_add]
  simp [onesA, List.getElem?_replicate, hl]
end Go.Proofs.YtgolcmafbenjbaaGreatDoor
