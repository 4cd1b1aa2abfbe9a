/- What this text holds: the chapter's example, in plain words. -/
import Derived.Test.YtaniljfjmbifnaaGreatDoorK9
namespace Go.Proofs.YtaniljfjmbifnaaGreatDoor.H
open Go.RowKit
set_option linter.unusedVariables false
set_option linter.unusedSimpArgs false

def exT : Bs := [83, 117, 98, 106, 101, 99, 116, 58, 32, 61, 63, 117, 116, 102, 45, 56, 63, 113, 63, 72, 101, 108, 108, 111, 63, 61, 13, 10, 13, 10]
def exF : List Bs := [[92, 115, 101, 101, 110], [98], [97], [92, 83, 69, 69, 78], [92, 120]]
def exG : List Bs := [[92, 83, 101, 101, 110], [97], [98]]
theorem ex_kept : exF.filterMap keptP = [[92, 83, 101, 101, 110], [98], [97], [92, 83, 101, 101, 110]] := by decide +kernel
theorem ex_vals : (valsL exT subj).length = 1 ∧ asksB (valsL exT subj) [104, 101] = true := by decide +kernel
theorem ex_bound : ∀ v ∈ valsL exT subj, (W.joined [v]).length ≤ 1000000 ∧ (wordW v).length ≤ 10000000 := by decide +kernel
/-- What lies in order, and is the same but for its order, is what the sort makes. -/
theorem sort_is {l m : List Bs} (hp : l.Perm m) (hm : m.Pairwise (fun x y => decide (x ≤ y) = true)) : sortP l = m := by
  refine List.Perm.eq_of_pairwise (le := fun x y => decide (x ≤ y) = true) ?_ (List.pairwise_mergeSort ?_ ?_ _) hm ((List.mergeSort_perm _ _).trans hp)
  · intro a b _ _ h1 h2
    exact List.le_antisymm (of_decide_eq_true h1) (of_decide_eq_true h2)
  · intro a b c h1 h2
    exact decide_eq_true (List.le_trans (of_decide_eq_true h1) (of_decide_eq_true h2))
  · intro a b
    rcases List.le_total a b with h | h
    · simp [h]
    · simp [h]
theorem ex_sort : sortP [[92, 83, 101, 101, 110], [98], [97], [92, 83, 101, 101, 110]] = [[92, 83, 101, 101, 110], [92, 83, 101, 101, 110], [97], [98]] := sort_is (by decide +kernel) (by decide +kernel)
theorem ex_flags : flagsP exF = exG := by
  unfold flagsP allP
  rw [ex_kept, ex_sort]
  decide +kernel
end Go.Proofs.YtaniljfjmbifnaaGreatDoor.H
