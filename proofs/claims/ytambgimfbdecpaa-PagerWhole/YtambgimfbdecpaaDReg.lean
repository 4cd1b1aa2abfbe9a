/- What this text holds: small moves for a region that leaves its order open, taken by hand. -/
import Derived.Test.YtambgimfbdecpaaDWInfos
namespace Go.Proofs.Ytambgimfbdecpaa
open Go.RowKit
set_option linter.unusedVariables false

section
variable {P : Program} {ops : Array Oper} {Q : Exit → Act → World → Prop} {md : Region.Mode} {S : World → Prop}

/-- An operation that comes up, by its run. -/
theorem wpOp_run {i : Nat} {o : Oper} {K : Act → World → Prop} {a : Act} {w w' : World} {v : Value} (ho : ops[i]? = some o) (hg : o.guard = none) (hrun : (execOp a.eval o).run P w = .ok (.value v) w')
    (h : K (a.put o.dst v) w') : wpOp P ops Q i K a w := by
  refine wpOp_step ho fun K' hK => ?_
  rw [if_pos (by simp [Region.wanted, hg])]
  unfold Oper.wp
  rw [hrun]
  exact hK _ _ h
theorem wpOp_skip {i : Nat} {o : Oper} {K : Act → World → Prop} {a : Act} {w w' : World} (ho : ops[i]? = some o) (hg : o.guard = none) (hrun : (execOp a.eval o).run P w = .ok .skip w')
    (h : K (a.put o.dst undef) w') : wpOp P ops Q i K a w := by
  refine wpOp_step ho fun K' hK => ?_
  rw [if_pos (by simp [Region.wanted, hg])]
  unfold Oper.wp
  rw [hrun]
  exact hK _ _ h

theorem anyH_take (i : Nat) (o : Oper) (v : Value) {fuel : Nat} {listed : Array Bool} {a : Act} {w : World} (hi : ops[i]? = some o) (hg : o.guard = none)
    (hs : Region.noSelect ops = true) (hf : Region.free md ops listed i = true) (hr : (Region.ready md ops listed).contains i = true)
    (hQ : ∀ c a w, Q (.panic c) (a.put o.dst v) w → Q (.panic c) a w) (hrun : ∀ w, S w → (execOp a.eval o).run P w = .ok (.value v) w) (hS : S w)
    (h : wpAnyH P md ops Q S fuel (listed.setIfInBounds i true) (a.put o.dst v) w) : wpAnyH P md ops Q S (fuel + 1) listed a w :=
  wpAnyH_take hi hs hf hr hQ (.inl ⟨by simp [Region.wanted, hg], hrun⟩) hS h

theorem anyH_one (i : Nat) (o : Oper) (v : Value) (w' : World) {fuel : Nat} {listed : Array Bool} {a : Act} {w : World} (hr : Region.ready md ops listed = [i]) (hi : ops[i]? = some o) (hg : o.guard = none)
    (hrun : (execOp a.eval o).run P w = .ok (.value v) w') (hS : S w')
    (h : wpAnyH P md ops Q S fuel (listed.setIfInBounds i true) (a.put o.dst v) w') : wpAnyH P md ops Q S (fuel + 1) listed a w := by
  refine wpAnyH_all hr (by simp) fun j hj => ?_
  obtain rfl := List.mem_singleton.1 hj
  exact wpOp_run hi hg hrun ⟨hS, h⟩
theorem anyH_oneSkip (i : Nat) (o : Oper) (w' : World) {fuel : Nat} {listed : Array Bool} {a : Act} {w : World} (hr : Region.ready md ops listed = [i]) (hi : ops[i]? = some o) (hg : o.guard = none)
    (hrun : (execOp a.eval o).run P w = .ok .skip w') (hS : S w')
    (h : wpAnyH P md ops Q S fuel (listed.setIfInBounds i true) (a.put o.dst undef) w') : wpAnyH P md ops Q S (fuel + 1) listed a w := by
  refine wpAnyH_all hr (by simp) fun j hj => ?_
  obtain rfl := List.mem_singleton.1 hj
  exact wpOp_skip hi hg hrun ⟨hS, h⟩
theorem anyH_two (i j : Nat) {fuel : Nat} {listed : Array Bool} {a : Act} {w : World} (hr : Region.ready md ops listed = [i, j])
    (h1 : wpOp P ops Q i (fun a' w' => S w' ∧ wpAnyH P md ops Q S fuel (listed.setIfInBounds i true) a' w') a w)
    (h2 : wpOp P ops Q j (fun a' w' => S w' ∧ wpAnyH P md ops Q S fuel (listed.setIfInBounds j true) a' w') a w) : wpAnyH P md ops Q S (fuel + 1) listed a w := by
  refine wpAnyH_all hr (by simp) fun k hk => ?_
  simp only [List.mem_cons, List.not_mem_nil, or_false] at hk
  rcases hk with rfl | rfl
  · exact h1
  · exact h2
end

theorem Kept.cell {S : List Nat} {w w' : World} (k : Kept S w w') {p : Addr} {v : Value} (h : w.cell? p = some v) (hp : p.block ∉ S) : w'.cell? p = some v :=
  (World.cell?_of_block (k.block p.block (World.block_lt_of_cell? w p h) hp)).trans h

/-- A write's bytes are laid over those of a new one. -/
theorem copy75 (w : World) (i : Int) (a : Addr) (cap : Nat) (bytes : List Int) (hbl : bytes.length = 512) (hsrc : ∀ j v, (bc bytes)[j]? = some v → w.cell? (a.add j) = some v) :
    (Builtin.copy_ #[46, 46] 3 #[.slice (some ⟨w.heap.size, 1, none⟩) 512 512, .slice (some a) 512 cap]).run Try.prog (w.alloc (.cells (wcell i (rep 512 0)).toArray 98)) =
      .ok (goInt 512) (w.alloc (.cells (wcell i bytes).toArray 98)) := by
  have hr := run_copy_row (P := Try.prog) (w.alloc (.cells (wcell i (rep 512 0)).toArray 98)) 46 46 3 5 w.heap.size 1 512 512 a 512 cap (wcell i (rep 512 0)).toArray 98 (bc bytes) Try.underlying46 (by kernel_rfl) (heap_alloc_new _ _)
    (by rw [bc_length, hbl]; rfl) (fun j v hv => by have := hsrc j v hv; rw [World.cell?_alloc_some _ _ _ (by simp [this]), this]) (by simp [bc_length, hbl, wcell_length, rep_length]) (bc_oneCell _)
  have hdr : List.drop 512 (bc (rep 512 0)) = [] := List.drop_of_length_le (by rw [bc_length, rep_length]; exact Nat.le_refl _)
  rw [hr, bc_length, hbl, World.setRow_alloc_new]
  simp [wcell, hdr]

/-- A write is loaded whole. -/
theorem load75 {w : World} {g : Nat} {i : Int} {bytes : List Int} (hbl : bytes.length = 512) (h : w.heap[g]? = some (.cells (wcell i bytes).toArray 98 (0, 0))) :
    (Instr.loadAt 98 (.pointer (some ⟨g, 0, none⟩))).run Try.prog w = .ok (.agg (wcell i bytes).toArray) w := by
  simp only [Instr.loadAt, Instr.sureAddr, Sem.run_bind, Sem.run_pure, Result.andThen_ok]
  exact run_loadVar_row w g 98 98 _ (0, 0) _ h Try.underlying98 rfl (by rw [size75]; simp [wcell_length, hbl])

theorem foldl_set (l : List Value) : ∀ (k : Nat) (cs : Array Value) (m : Nat), ((l.zipIdx k).foldl (fun (cs : Array Value) (x : Value × Nat) => cs.setIfInBounds x.2 x.1) cs)[m]? =
    if k ≤ m ∧ m < k + l.length ∧ m < cs.size then l[m - k]? else cs[m]? := by
  induction l with
  | nil => intro k cs m; simp; omega
  | cons v l ih =>
    intro k cs m
    rw [List.zipIdx_cons, List.foldl_cons, ih]
    simp only [Array.size_setIfInBounds, List.length_cons, Array.getElem?_setIfInBounds]
    by_cases hm : m < cs.size
    · by_cases h1 : k = m
      · subst h1
        rw [if_neg (by omega), if_pos rfl, if_pos hm, if_pos ⟨by omega, by omega, hm⟩]
        simp
      · by_cases h2 : k + 1 ≤ m ∧ m < k + 1 + l.length
        · rw [if_pos ⟨h2.1, h2.2, hm⟩, if_pos ⟨by omega, by omega, hm⟩, show m - k = (m - (k + 1)) + 1 by omega, List.getElem?_cons_succ]
        · have e1 : ¬ (k + 1 ≤ m ∧ m < k + 1 + l.length ∧ m < cs.size) := fun h => h2 ⟨h.1, h.2.1⟩
          have e2 : ¬ (k ≤ m ∧ m < k + (l.length + 1) ∧ m < cs.size) := fun h => h2 (by omega)
          rw [if_neg e1, if_neg h1, if_neg e2]
    · have e1 : ¬ (k + 1 ≤ m ∧ m < k + 1 + l.length ∧ m < cs.size) := fun h => hm h.2.2
      have e2 : ¬ (k ≤ m ∧ m < k + (l.length + 1) ∧ m < cs.size) := fun h => hm h.2.2
      rw [if_neg e1, if_neg e2]
      by_cases h1 : k = m
      · subst h1; rw [if_pos rfl, if_neg hm, Array.getElem?_eq_none (by omega)]
      · rw [if_neg h1]

theorem fill_whole (X zero : Array Value) (size : Nat) (hx : X.size = size) (hz : zero.size = size) : Instr.fill (fun i => some (i * size, size)) zero [(0, .agg X)] = some X := by
  subst hx
  simp only [Instr.fill, Value.cells, Nat.zero_mul, Nat.zero_add]
  rw [if_neg (by simp [hz])]
  congr 1
  apply Array.ext_getElem?
  intro m
  have h := foldl_set X.toList 0 zero m
  rw [← Array.foldl_toList, Array.toList_zipIdx]
  simp only [Nat.zero_add, Nat.sub_zero, Nat.zero_le, true_and, Array.length_toList, hz, Array.getElem?_toList] at h
  rw [h]
  split
  · rfl
  · rename_i hn
    rw [Array.getElem?_eq_none (by omega), Array.getElem?_eq_none (by omega)]

/-- One write, as a slice of its own. -/
theorem slice75 {w : World} {i : Int} {bytes : List Int} (hbl : bytes.length = 512) :
    (Instr.buildSlice 81 1 #[(0, .agg (wcell i bytes).toArray)]).run Try.prog w = .ok (.slice (some ⟨w.heap.size, 0, none⟩) 1 1) (w.alloc (.cells (wcell i bytes).toArray 98)) := by
  obtain ⟨inf, hi, hz0, hz1, hz2⟩ := info_parts Try.info98
  have hf := fill_whole (wcell i bytes).toArray ((Array.range (1 * 513)).map (zwc[· % zwc.size]!)) 513 (by simp [wcell_length, hbl]) (by simp)
  simp [Instr.buildSlice, run_underlying Try.underlying81, sizeOf, typeInfo, zeroValue, hi, hz0, hz1, zWrite, Value.cells, newRow, hf]
end Go.Proofs.Ytambgimfbdecpaa
