/- What this text holds: the first bytes of one slice and the rest of another one, appended to a new slice. -/
import Derived.Test.YtjbkmgeomnmddaaTorn
namespace Go.Proofs.Ytjbkmgeomnmddaa
open Go.RowKit
set_option linter.unusedVariables false

/-- y[k:]: its address is the slice's own, if no room is left. -/
def restAddr (g k c : Nat) : Addr := if c = k then ⟨g, 0, none⟩ else ⟨g, k, none⟩

theorem slice_h22 (g k c : Nat) (w : World) (hk : k ≤ c) : (Instr.sliceAt 22 (.slice (some ⟨g, 0, none⟩) 512 c) none (some (.int .i64 k)) none).run Try.prog w = .ok (.slice (some ⟨g, 0, none⟩) k c) w := by
  obtain ⟨i, hi, hz0, hz1, hz2⟩ := info_parts Try.info5
  have he : Try.prog.elem 22 = 5 := by kernel_rfl
  have hu : Try.prog.underlying 22 = some (.slice (Try.prog.elem 22)) := by rw [he]; exact Try.underlying22
  rw [run_sliceAt_slice w 22 _ _ _ _ hu, run_slice_h w 22 _ _ _ hu .i64 k (by omega) (by omega), he]
  simp [sizeOf, typeInfo, hi, hz1, sliced, Addr.add]
theorem slice_l22 (g k c : Nat) (w : World) (hk : k ≤ 512) : (Instr.sliceAt 22 (.slice (some ⟨g, 0, none⟩) 512 c) (some (.int .i64 k)) none none).run Try.prog w = .ok (.slice (some (restAddr g k c)) (512 - k) (c - k)) w := by
  obtain ⟨i, hi, hz0, hz1, hz2⟩ := info_parts Try.info5
  have he : Try.prog.elem 22 = 5 := by kernel_rfl
  have hu : Try.prog.underlying 22 = some (.slice (Try.prog.elem 22)) := by rw [he]; exact Try.underlying22
  rw [run_sliceAt_slice w 22 _ _ _ _ hu, run_slice_l w 22 _ _ _ hu .i64 k (by omega) (by omega), he]
  unfold restAddr
  by_cases h : c = k
  · simp [sizeOf, typeInfo, hi, hz1, sliced, h]
  · simp [sizeOf, typeInfo, hi, hz1, sliced, h, Addr.add]
    omega

theorem torn_build {w : World} {gx cx gy cy k : Nat} {X Y : List Int} (hx : BAt w (some ⟨gx, 0, none⟩) X) (hy : BAt w (some ⟨gy, 0, none⟩) Y) (hX : X.length = 512) (hY : Y.length = 512)
    (bX : Byt X) (bY : Byt Y) (hk : k ≤ 512) (hc : 512 ≤ cy) :
    ∃ v1 w1 v2 w2, (Builtin.append_ #[22, 22] 22 #[.slice (some ⟨w.heap.size, 0, none⟩) 0 0, .slice (some ⟨gx, 0, none⟩) k cx]).run Try.prog (w.alloc (.cells #[] 5)) = .ok v1 w1 ∧
      (Builtin.append_ #[22, 22] 22 #[v1, .slice (some (restAddr gy k cy)) (512 - k) (cy - k)]).run Try.prog w1 = .ok v2 w2 ∧ SOut w2 v2 (X.take k ++ Y.drop k) ∧ Below w.heap.size w w2 := by
  obtain ⟨i, hi, hz0, hz1, hz2⟩ := info_parts Try.info5
  have hown0 : (w.alloc (.cells #[] 5)).ownsRow w.heap.size 5 1 (.slice (some ⟨w.heap.size, 0, none⟩) 0 0) 0 [] := World.ownsRow_made w #[] 0 (Nat.le_refl _) (by unfold maxLen; omega) (by simp)
  have hbel : Below w.heap.size w (w.alloc (.cells #[] 5)) := (Below.refl _ _).alloc (Nat.le_refl _) _
  obtain ⟨v1, w1, hr1, ho1, hg1, _⟩ := run_append_own (P := Try.prog) (w.alloc (.cells #[] 5)) w.heap.size 22 22 5 i (.int .u8 0) 1 1 Try.underlying22 hi hz0 hz1 hz2 rfl (by omega) _ 0 [] hown0 ⟨gx, 0, none⟩ k cx (bc (X.take k))
    (by rw [bc_length, List.length_take]; omega) (fun j u hu => by
      have hcc := hx.cells j u (by
        rw [bc, List.getElem?_map, List.getElem?_take] at hu
        rw [bc, List.getElem?_map]
        split at hu
        · exact hu
        · cases hu)
      rw [World.cell?_alloc_some _ _ _ (by simp [hcc]), hcc]) (bc_oneCell _) (by unfold maxLen; omega) (by omega) (by simp)
  rw [Nat.zero_add, List.nil_append] at ho1
  have hb1 : Below w.heap.size w w1 := hbel.grown hg1 (by simp) (fun k hk => by simp only [Value.ownBlock, Option.some.injEq] at hk; omega)
  have hy1 := hy.below hb1
  obtain ⟨v2, w2, hr2, ho2, hg2, _⟩ := run_append_own (P := Try.prog) w1 w.heap.size 22 22 5 i (.int .u8 0) 1 1 Try.underlying22 hi hz0 hz1 hz2 rfl (by omega) v1 k _ ho1 (restAddr gy k cy) (512 - k) (cy - k) (bc (Y.drop k))
    (by rw [bc_length, List.length_drop]; omega) (fun j u hu => by
      have hj : j < (bc (Y.drop k)).length := (List.getElem?_eq_some_iff.1 hu).1
      rw [bc_length, List.length_drop] at hj
      unfold restAddr
      rw [if_neg (by omega)]
      have hcc := hy1.cells (k + j) u (by
        rw [bc, List.getElem?_map, List.getElem?_drop] at hu
        rw [bc, List.getElem?_map]
        exact hu)
      rw [Addr.add_mid] at hcc ⊢
      rw [Nat.zero_add] at hcc
      exact hcc) (bc_oneCell _) (by unfold maxLen; omega) (by omega) hb1.size
  refine ⟨v1, w1, v2, w2, hr1, hr2, ?_, hb1.trans ?_⟩
  · rw [← bc_append] at ho2
    refine owns_sOut ho2 ?_
    intro x hx'
    rw [List.mem_append] at hx'
    rcases hx' with h | h
    · exact bX x (List.mem_of_mem_take h)
    · exact bY x (List.mem_of_mem_drop h)
  · exact (Below.refl _ _).grown hg2 hb1.size (fun k hk => (ho1.lt k hk).1)

theorem exec_slice_h {a : Act} {x y : Operand} {u s v : Value} {w : World} {d : Option Tmp} {ty : Nat} {pos : String} {af : Array Edge} {g : Option (Nat × Bool)} (hx : a.eval x = u) (hy : a.eval y = s)
    (h : (Instr.sliceAt 22 u none (some s) none).run Try.prog w = .ok v w) : (execOp a.eval ⟨d, .slice 22 x none (some y) none, ty, pos, af, g⟩).run Try.prog w = .ok (.value v) w := by
  simp only [execOp, Option.map_some, Option.map_none, hx, hy]
  exact exec_v h
theorem exec_slice_l {a : Act} {x y : Operand} {u s v : Value} {w : World} {d : Option Tmp} {ty : Nat} {pos : String} {af : Array Edge} {g : Option (Nat × Bool)} (hx : a.eval x = u) (hy : a.eval y = s)
    (h : (Instr.sliceAt 22 u (some s) none none).run Try.prog w = .ok v w) : (execOp a.eval ⟨d, .slice 22 x (some y) none none, ty, pos, af, g⟩).run Try.prog w = .ok (.value v) w := by
  simp only [execOp, Option.map_some, Option.map_none, hx, hy]
  exact exec_v h
theorem exec_append {a : Act} {x y : Operand} {u s : Value} {w w' : World} {v : Value} {d : Option Tmp} {t ty : Nat} {pos : String} {af : Array Edge} {g : Option (Nat × Bool)} (hx : a.eval x = u) (hy : a.eval y = s)
    (h : (Builtin.append_ #[t, t] ty #[u, s]).run Try.prog w = .ok v w') : (execOp a.eval ⟨d, .call { callee := .builtin .append, args := #[x, y], argTypes := #[t, t] }, ty, pos, af, g⟩).run Try.prog w = .ok (.value v) w' := by
  simp only [execOp, resolve, invoke, builtin, Sem.run_bind, Sem.run_pure, Result.andThen_ok, List.map_toArray, List.map_cons, List.map_nil, hx, hy, h]
theorem empty22 (w : World) : (Instr.buildSlice 22 0 #[]).run Try.prog w = .ok (.slice (some ⟨w.heap.size, 0, none⟩) 0 0) (w.alloc (.cells #[] 5)) := by
  obtain ⟨inf, hi, hz0, hz1, hz2⟩ := info_parts Try.info5
  simp [Instr.buildSlice, run_underlying Try.underlying22, sizeOf, typeInfo, hi, newRow, Instr.fill]
  simp [Array.range]
theorem exec_empty {a : Act} {w : World} {d : Option Tmp} {ty : Nat} {pos : String} {af : Array Edge} {g : Option (Nat × Bool)} :
    (execOp a.eval ⟨d, .buildSlice 22 0 #[], ty, pos, af, g⟩).run Try.prog w = .ok (.value (.slice (some ⟨w.heap.size, 0, none⟩) 0 0)) (w.alloc (.cells #[] 5)) := by
  simp only [execOp, List.map_toArray, List.map_nil]
  exact exec_v (empty22 w)
theorem rootE_cases (gen : Int) (n : Nat) : 0 ≤ rootE gen n ∧ rootE gen n ≤ 4 := by
  unfold rootE
  split
  · split <;> omega
  · omega
end Go.Proofs.Ytjbkmgeomnmddaa
