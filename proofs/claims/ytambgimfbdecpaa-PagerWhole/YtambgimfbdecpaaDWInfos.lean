/- What this text holds: operations on one write, by their runs. -/
import Derived.Test.YtambgimfbdecpaaDRead
namespace Go.Proofs.Ytambgimfbdecpaa
open Go.RowKit
set_option linter.unusedVariables false

/-- The cells of one write. -/
def wcell (at_ : Int) (b : List Int) : List Value := .int .i64 at_ :: bc b
theorem wcell_length (at_ : Int) (b : List Int) : (wcell at_ b).length = b.length + 1 := by simp [wcell, bc_length]
theorem wcs_snoc (l : List (Int × List Int)) (at_ : Int) (b : List Int) : wcs (l ++ [(at_, b)]) = wcs l ++ wcell at_ b := by simp [wcs, wcell]
theorem wcell_oneCell (at_ : Int) (b : List Int) : ∀ v ∈ wcell at_ b, v.oneCell' = true := by
  intro v hv
  simp only [wcell, List.mem_cons] at hv
  rcases hv with rfl | hv
  · rfl
  · exact bc_oneCell _ _ hv

/-- An operation by its run. -/
theorem wpList_run {P : Program} {ops : Array Oper} {rest : List Oper} {o : Oper} {a : Act} {w w' : World} {Q : Exit → Act → World → Prop} {v : Value} (hgd : o.guard = none) (hrun : (execOp a.eval o).run P w = .ok (.value v) w')
    (h : wpList P ops Q rest (a.put o.dst v) w') : wpList P ops Q (o :: rest) a w :=
  wpList_plain hgd fun K hK => by unfold Oper.wp; rw [hrun]; exact hK _ _ h
theorem exec_v {P : Program} {s : Sem Value} {w w' : World} {v : Value} (h : s.run P w = .ok v w') : (do pure (Next.value (← s)) : Sem Next).run P w = .ok (.value v) w' := by
  simp [h]

theorem alloc75 (w : World) : (Instr.alloc 98 true (.tuple #[])).run Try.prog w = .ok (.pointer (some ⟨w.heap.size, 0, none⟩)) (w.alloc (.cells zwc 98)) := by
  obtain ⟨i, hi, hz0, hz1, hz2⟩ := info_parts Try.info98
  simp [Instr.alloc, zeroValue, typeInfo, hi, hz0, newVar, newRow, zWrite, Value.cells]
theorem size75 : (Try.prog.info? 98).map (·.size) = some 513 := by kernel_rfl
theorem build75 (at_ : Int) (w : World) : (Instr.build 98 #[(0, .int .i64 at_)]).run Try.prog w = .ok (.agg (wcell at_ (rep 512 0)).toArray) w := by kernel_rfl


theorem wpList_build75 {ops : Array Oper} {rest : List Oper} {a : Act} {w : World} {Q : Exit → Act → World → Prop} {d : Option Tmp} {x : Operand} {ty : TypeId} {pos : String} {af : Array Edge} (i : Int) (hx : a.eval x = .int .i64 i)
    (h : wpList Try.prog ops Q rest (a.put d (.agg (wcell i (rep 512 0)).toArray)) w) : wpList Try.prog ops Q (⟨d, .build 98 #[(0, x)], ty, pos, af, none⟩ :: rest) a w :=
  wpList_run rfl (exec_v (by simp only [List.map_toArray, List.map_cons, List.map_nil, hx]; exact build75 i w)) h
theorem wpList_alloc75 {ops : Array Oper} {rest : List Oper} {a : Act} {w : World} {Q : Exit → Act → World → Prop} {d : Option Tmp} {ty : TypeId} {pos : String} {af : Array Edge}
    (h : wpList Try.prog ops Q rest (a.put d (.pointer (some ⟨w.heap.size, 0, none⟩))) (w.alloc (.cells zwc 98))) : wpList Try.prog ops Q (⟨d, .alloc 98, ty, pos, af, none⟩ :: rest) a w :=
  wpList_run rfl (exec_v (alloc75 w)) h
theorem wpList_store75 {ops : Array Oper} {rest : List Oper} {a : Act} {w : World} {Q : Exit → Act → World → Prop} {x y : Operand} {ty : TypeId} {pos : String} {af : Array Edge} (i : Int)
    (hx : a.eval x = .pointer (some ⟨w.heap.size, 0, none⟩)) (hy : a.eval y = .agg (wcell i (rep 512 0)).toArray)
    (h : wpList Try.prog ops Q rest a (w.alloc (.cells (wcell i (rep 512 0)).toArray 98))) : wpList Try.prog ops Q (⟨none, .store 98 x y, ty, pos, af, none⟩ :: rest) a (w.alloc (.cells zwc 98)) := by
  refine wpList_store_row rfl 98 x y rfl w.heap.size _ hx hy 98 zwc (heap_alloc_new _ _) (by rw [size75]; simp [wcell_length, rep_length]) (by simp [zwc, wcell_length, rep_length]) (all_oneCell_toArray (wcell_oneCell _ _)) ?_
  rw [World.setRow_alloc_new]
  exact h
end Go.Proofs.Ytambgimfbdecpaa
