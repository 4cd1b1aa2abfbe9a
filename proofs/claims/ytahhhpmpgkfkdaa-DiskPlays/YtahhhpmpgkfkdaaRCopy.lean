/- What this text holds: Copy of the document's own disk. -/
import Derived.Test.YtahhhpmpgkfkdaaRNew
namespace Go.Proofs.Ytahhhpmpgkfkdaa
open Go.RowKit
set_option linter.unusedVariables false

theorem fieldk70 (r k : Nat) (w : World) (hk : k < 5) : (Instr.fieldAt 70 (.pointer (some ⟨r, 0, none⟩)) k).run Try.prog w = .ok (.pointer (some ⟨r, k, none⟩)) w := by
  rcases (by omega : k = 0 ∨ k = 1 ∨ k = 2 ∨ k = 3 ∨ k = 4) with rfl | rfl | rfl | rfl | rfl <;> kernel_rfl
theorem loadk67 {b k : Nat} {v : Value} {w : World} (h : w.cell? ⟨b, k, none⟩ = some v) : (Instr.loadAt 67 (.pointer (some ⟨b, k, none⟩))).run Try.prog w = .ok v w := by
  simp [Instr.loadAt, Instr.sureAddr, loadVar, isAgg, run_underlying Try.underlying67, h]
theorem loadk68 {b k : Nat} {v : Value} {w : World} (h : w.cell? ⟨b, k, none⟩ = some v) : (Instr.loadAt 68 (.pointer (some ⟨b, k, none⟩))).run Try.prog w = .ok v w := by
  simp [Instr.loadAt, Instr.sureAddr, loadVar, isAgg, run_underlying Try.underlying68, h]
theorem loadk3 {b k : Nat} {v : Value} {w : World} (h : w.cell? ⟨b, k, none⟩ = some v) : (Instr.loadAt 3 (.pointer (some ⟨b, k, none⟩))).run Try.prog w = .ok v w := by
  simp [Instr.loadAt, Instr.sureAddr, loadVar, isAgg, run_underlying Try.underlying3, h]
theorem loadk4 {b k : Nat} {v : Value} {w : World} (h : w.cell? ⟨b, k, none⟩ = some v) : (Instr.loadAt 4 (.pointer (some ⟨b, k, none⟩))).run Try.prog w = .ok v w := by
  simp [Instr.loadAt, Instr.sureAddr, loadVar, isAgg, run_underlying Try.underlying4, h]
theorem mk67 (w : World) : (Instr.buildSlice 67 0 #[]).run Try.prog w = .ok (.slice (some ⟨w.heap.size, 0, none⟩) 0 0) (w.alloc (.cells #[] 9)) := by kernel_rfl
theorem mk68 (w : World) : (Instr.buildSlice 68 0 #[]).run Try.prog w = .ok (.slice (some ⟨w.heap.size, 0, none⟩) 0 0) (w.alloc (.cells #[] 77)) := by kernel_rfl
theorem mk68' (w : World) : (Instr.buildSlice 68 0 #[]).run Try.prog (w.drew.alloc (.cells #[] 9)) = .ok (.slice (some ⟨w.heap.size + 1, 0, none⟩) 0 0) ((w.drew.alloc (.cells #[] 9)).alloc (.cells #[] 77)) := by
  rw [mk68]; simp
theorem mk67' (w : World) : (Instr.buildSlice 67 0 #[]).run Try.prog (w.drew.alloc (.cells #[] 77)) = .ok (.slice (some ⟨w.heap.size + 1, 0, none⟩) 0 0) ((w.drew.alloc (.cells #[] 77)).alloc (.cells #[] 9)) := by
  rw [mk67]; simp
theorem build70 (a b : Option Addr) (n c n' c' : Nat) (s f : Int) (g : Bool) (w : World) : (Instr.build 70 #[(0, .slice a n c), (1, .slice b n' c'), (2, .int .i64 s), (3, .int .i64 f), (4, .bool g)]).run Try.prog w =
    .ok (.agg #[.slice a n c, .slice b n' c', .int .i64 s, .int .i64 f, .bool g]) w := by kernel_rfl
theorem box70 (x0 x1 x2 x3 x4 : Value) (w : World) : (Instr.box 70 (.agg #[x0, x1, x2, x3, x4])).run Try.prog w = .ok (.pointer (some ⟨w.heap.size, 0, none⟩)) (w.alloc (.cells #[x0, x1, x2, x3, x4] 70)) := by kernel_rfl

theorem exec_slice0 {a : Act} {w w' : World} {v : Value} {d : Option Tmp} {t ty : Nat} {pos : String} {af : Array Edge} {g : Option (Nat × Bool)}
    (h : (Instr.buildSlice t 0 #[]).run Try.prog w = .ok v w') : (execOp a.eval ⟨d, .buildSlice t 0 #[], ty, pos, af, g⟩).run Try.prog w = .ok (.value v) w' := by
  simp only [execOp, List.map_toArray, List.map_nil]
  exact exec_v h
theorem exec_build5 {a : Act} {x0 x1 x2 x3 x4 : Operand} {v0 v1 v2 v3 v4 : Value} {w : World} {v : Value} {d : Option Tmp} {t ty : Nat} {pos : String} {af : Array Edge} {g : Option (Nat × Bool)}
    (h0 : a.eval x0 = v0) (h1 : a.eval x1 = v1) (h2 : a.eval x2 = v2) (h3 : a.eval x3 = v3) (h4 : a.eval x4 = v4)
    (h : (Instr.build t #[(0, v0), (1, v1), (2, v2), (3, v3), (4, v4)]).run Try.prog w = .ok v w) : (execOp a.eval ⟨d, .build t #[(0, x0), (1, x1), (2, x2), (3, x3), (4, x4)], ty, pos, af, g⟩).run Try.prog w = .ok (.value v) w := by
  simp only [execOp, List.map_toArray, List.map_cons, List.map_nil, h0, h1, h2, h3, h4]
  exact exec_v h

/-- What is appended to an empty slice is the slice once more, somewhere else. -/
theorem append_copy {t e : Nat} {i : TypeInfo} {z : Value} {size bytes : Nat} (ht : Try.prog.underlying t = some (.slice e)) (hi : Try.prog.info? e = some i) (hz : i.zero = some z) (hsize : i.size = size) (hby : i.bytes = bytes)
    (hzs : z.cells.size = size) (hsz : 0 < size) (hnil : ∀ (w : World) (g : Nat), (Builtin.append_ #[t, t] t #[.slice (some ⟨g, 0, none⟩) 0 0, .slice none 0 0]).run Try.prog w = .ok (.slice (some ⟨g, 0, none⟩) 0 0) w)
    {w : World} {g0 C B n : Nat} {v : Value} {xs : List Value} (hg0 : w.heap[g0]? = some (.cells #[] e (0, 0))) (hC : C ≤ g0) (hs : w.ownsRow B e size v n xs) (h1 : ∀ u ∈ xs, u.oneCell' = true) (hn : n ≤ maxLen) (hb : n * bytes ≤ 140737488355328) :
    ∃ g c w', (Builtin.append_ #[t, t] t #[.slice (some ⟨g0, 0, none⟩) 0 0, v]).run Try.prog w = .ok (.slice (some ⟨g, 0, none⟩) n c) w' ∧ w'.ownsRow C e size (.slice (some ⟨g, 0, none⟩) n c) n xs ∧ w.grownBy w' (some g0) ∧ g < w'.heap.size ∧ (g = g0 ∨ g = w.heap.size) := by
  have hl0 : g0 < w.heap.size := (Array.getElem?_eq_some_iff.1 hg0).1
  have hown : w.ownsRow C e size (.slice (some ⟨g0, 0, none⟩) 0 0) 0 [] := ⟨by simp, .inr ⟨g0, 0, #[], rfl, hC, hg0, Nat.le_refl _, by unfold maxLen; omega, by simp, by simp⟩⟩
  rcases hs.2 with ⟨rfl, rfl⟩ | ⟨gs, cap, cur, rfl, _, hcur, _, _, _, htk⟩
  · have hx : xs = [] := List.eq_nil_of_length_eq_zero (by simpa using hs.1)
    subst hx
    exact ⟨g0, 0, w, hnil w g0, hown, ⟨rfl, rfl, rfl, Nat.le_refl _, fun _ _ _ => rfl⟩, hl0, .inl rfl⟩
  · obtain ⟨v', w', hrun, h2, h3, h4, h5⟩ := run_append_own_at (P := Try.prog) w C t t e i z size bytes ht hi hz hsize hby hzs hsz _ 0 [] hown ⟨gs, 0, none⟩ n cap xs hs.1 (cells_of_owned hs) h1 (by omega) (by rw [Nat.zero_add]; exact hb) (by omega)
    rw [Nat.zero_add, List.nil_append] at h2
    have hne : v' ≠ .slice none 0 0 := fun e => by have := (h4.1 e).1; cases this
    rcases h2.2 with ⟨e, _⟩ | ⟨g, c, cur', rfl, _, hcur', _⟩
    · exact absurd e hne
    · refine ⟨g, c, w', hrun, h2, h3, (Array.getElem?_eq_some_iff.1 hcur').1, ?_⟩
      simpa [Value.ownBlock] using h5

theorem apL {w X : World} {B r gl lc : Nat} {wv : Value} {D : DS} (h : RDiskAt w B r gl lc wv D) (hX : Below w.heap.size w X) (g0 : Nat) (hg : w.heap.size ≤ g0) (hg0 : X.heap[g0]? = some (.cells #[] 9 (0, 0))) :
    ∃ g c Z, (Builtin.append_ #[67, 67] 67 #[.slice (some ⟨g0, 0, none⟩) 0 0, .slice (some ⟨gl, 0, none⟩) D.n lc]).run Try.prog X = .ok (.slice (some ⟨g, 0, none⟩) D.n c) Z ∧
      Z.ownsRow w.heap.size 9 1 (.slice (some ⟨g, 0, none⟩) D.n c) D.n (strs D.n D.secs) ∧ Below w.heap.size w Z ∧ X.grownBy Z (some g0) ∧ g < Z.heap.size ∧ (g = g0 ∨ g = X.heap.size) := by
  obtain ⟨inf, hin, hz0, hz1, hz2⟩ := info_parts Try.info9
  have hn := h.good.n2
  have hd := h.keep (Kept.ofBelow hX []) (by simp)
  obtain ⟨g, c, Z, h1, h2, h3, h4, h5⟩ := append_copy Try.underlying67 hin hz0 hz1 hz2 rfl (by omega) (fun w g => by kernel_rfl) hg0 hg hd.L (strs_one _ _) (by unfold maxLen; omega) (by omega)
  have hl0 : g0 < X.heap.size := (Array.getElem?_eq_some_iff.1 hg0).1
  exact ⟨g, c, Z, h1, h2, hX.grown h3 hX.size (fun k hk => by simp only [Option.some.injEq] at hk; omega), h3, h4, h5⟩
theorem apW {w X : World} {B r gl lc : Nat} {wv : Value} {D : DS} (h : RDiskAt w B r gl lc wv D) (hX : Below w.heap.size w X) (g0 : Nat) (hg : w.heap.size ≤ g0) (hg0 : X.heap[g0]? = some (.cells #[] 77 (0, 0))) :
    ∃ g c Z, (Builtin.append_ #[68, 68] 68 #[.slice (some ⟨g0, 0, none⟩) 0 0, wv]).run Try.prog X = .ok (.slice (some ⟨g, 0, none⟩) D.waits.length c) Z ∧
      Z.ownsRow w.heap.size 77 2 (.slice (some ⟨g, 0, none⟩) D.waits.length c) D.waits.length (rws D.waits) ∧ Below w.heap.size w Z ∧ X.grownBy Z (some g0) ∧ g < Z.heap.size ∧ (g = g0 ∨ g = X.heap.size) := by
  obtain ⟨inf, hin, hz0, hz1, hz2⟩ := info_parts Try.info77
  have hn := h.good.wl
  have hd := h.keep (Kept.ofBelow hX []) (by simp)
  obtain ⟨g, c, Z, h1, h2, h3, h4, h5⟩ := append_copy Try.underlying68 hin hz0 hz1 hz2 rfl (by omega) (fun w g => by kernel_rfl) hg0 hg hd.W (rws_one _) (by unfold maxLen; omega) (by omega)
  exact ⟨g, c, Z, h1, h2, hX.grown h3 hX.size (fun k hk => by simp only [Option.some.injEq] at hk; omega), h3, h4, h5⟩
theorem rowOver {X Y : World} {C g0 g n c e size : Nat} {xs : List Value} (h : X.ownsRow C e size (.slice (some ⟨g, 0, none⟩) n c) n xs) (hg : X.grownBy Y (some g0)) (hne : g ≠ g0) : Y.ownsRow C e size (.slice (some ⟨g, 0, none⟩) n c) n xs :=
  ownsRow_block h fun k hk => by
    simp only [Value.ownBlock, Option.some.injEq] at hk
    subst hk
    exact hg.block _ (h.lt _ rfl).2 (by simpa using hne)

/-- What a call ends in that makes a disk of the document's own; nothing that was there has turned. -/
def RMade (w : World) (E : DS) (e : Ending) (w' : World) : Prop :=
  ∃ r' own, e = .returned (.pointer (some ⟨r', 0, none⟩)) ∧ RDisk w' w.heap.size r' own E ∧ Below w.heap.size w w'

theorem rcopy_fin {w Y : World} {B r gl lc g g' c c' : Nat} {wv : Value} {D : DS} (h : RDiskAt w B r gl lc wv D) (hY : Below w.heap.size w Y)
    (hL : Y.ownsRow w.heap.size 9 1 (.slice (some ⟨g, 0, none⟩) D.n c) D.n (strs D.n D.secs)) (hW : Y.ownsRow w.heap.size 77 2 (.slice (some ⟨g', 0, none⟩) D.waits.length c') D.waits.length (rws D.waits)) (hne : g' ≠ g) :
    RMade w D (.returned (.pointer (some ⟨Y.heap.size, 0, none⟩))) (Y.alloc (.cells #[.slice (some ⟨g, 0, none⟩) D.n c, .slice (some ⟨g', 0, none⟩) D.waits.length c', .int .i64 D.steps, .int .i64 D.fuse, .bool D.gone] 70)) := by
  have h1 := hL.lt g rfl
  have h2 := hW.lt g' rfl
  refine ⟨_, _, rfl, ⟨g, c, .slice (some ⟨g', 0, none⟩) D.waits.length c', ?_, rfl⟩, hY.alloc hY.size _⟩
  exact { blk := heap_alloc_new _ _, L := hL.alloc _, W := hW.alloc _, ne1 := by omega, ne2 := by simp only [Value.ownBlock, ne_eq, Option.some.injEq]; omega, ne3 := by simpa [Value.ownBlock] using hne, hB := hY.size, good := h.good }

set_option maxRecDepth 100000 in
set_option maxHeartbeats 4000000 in
theorem rcopy_any {w : World} {B r gl lc : Nat} {wv : Value} {D : DS} (h : RDiskAt w B r gl lc wv D) :
    Calls Try.prog 19 #[.pointer (some ⟨r, 0, none⟩)] w (RMade w D) := by
  obtain ⟨a, wc, rfl⟩ := h.wvSlice
  have hcs : ∀ X, Below w.heap.size w X → X.cell? ⟨r, 0, none⟩ = some (.slice (some ⟨gl, 0, none⟩) D.n lc) ∧ X.cell? ⟨r, 1, none⟩ = some (.slice a D.waits.length wc) ∧ X.cell? ⟨r, 2, none⟩ = some (.int .i64 D.steps) ∧
    X.cell? ⟨r, 3, none⟩ = some (.int .i64 D.fuse) ∧ X.cell? ⟨r, 4, none⟩ = some (.bool D.gone) := fun X hX => (h.keep (Kept.ofBelow hX []) (by simp)).cells
  have HH := hid h
  clear h
  go_enter Try.func19, Try.ntmps19
  go_wp2_with fail
  have hb0 : Below w.heap.size w w.drew := (Below.refl _ _).drew
  have hA9 : Below w.heap.size w (w.drew.alloc (.cells #[] 9)) := hb0.alloc (Nat.le_refl _) _
  have hA7 : Below w.heap.size w (w.drew.alloc (.cells #[] 77)) := hb0.alloc (Nat.le_refl _) _
  have hA97 : Below w.heap.size w ((w.drew.alloc (.cells #[] 9)).alloc (.cells #[] 77)) := hA9.alloc hA9.size _
  have hA79 : Below w.heap.size w ((w.drew.alloc (.cells #[] 77)).alloc (.cells #[] 9)) := hA7.alloc hA7.size _
  have hs97 : ((w.drew.alloc (.cells #[] 9)).alloc (.cells #[] 77)).heap.size = w.heap.size + 2 := by simp
  have hs79 : ((w.drew.alloc (.cells #[] 77)).alloc (.cells #[] 9)).heap.size = w.heap.size + 2 := by simp
  have hb97a : ((w.drew.alloc (.cells #[] 9)).alloc (.cells #[] 77)).heap[w.heap.size]? = some (.cells #[] 9 (0, 0)) := heap_alloc2_old w.drew _ _
  have hb97b : ((w.drew.alloc (.cells #[] 9)).alloc (.cells #[] 77)).heap[w.heap.size + 1]? = some (.cells #[] 77 (0, 0)) := heap_alloc2_new w.drew _ _
  have hb79a : ((w.drew.alloc (.cells #[] 77)).alloc (.cells #[] 9)).heap[w.heap.size]? = some (.cells #[] 77 (0, 0)) := heap_alloc2_old w.drew _ _
  have hb79b : ((w.drew.alloc (.cells #[] 77)).alloc (.cells #[] 9)).heap[w.heap.size + 1]? = some (.cells #[] 9 (0, 0)) := heap_alloc2_new w.drew _ _
  refine wp_region_held_drew (S := fun X => Below w.heap.size w X) (by kernel_rfl) hb0 ?_
  intro hS
  refine anyH_take 1 ⟨some 4, .move (.tmp 0), _, _, _, none⟩ (.pointer (some ⟨r, 0, none⟩)) rfl rfl (by kernel_rfl) (by kernel_rfl) (by kernel_rfl) (fun _ _ _ h => h) (fun _ _ => rfl) hS ?_
  simp only [Act.put, List.setIfInBounds_toArray, List.set_cons_zero, List.set_cons_succ]
  refine anyH_take 2 ⟨some 5, .nilCheck (.tmp 4), _, _, _, none⟩ (.pointer (some ⟨r, 0, none⟩)) rfl rfl (by kernel_rfl) (by kernel_rfl) (by kernel_rfl) (fun _ _ _ h => h) (fun _ _ => rfl) hS ?_
  simp only [Act.put, List.setIfInBounds_toArray, List.set_cons_zero, List.set_cons_succ]
  refine anyH_take 3 ⟨some 6, .fieldAddr 70 (.tmp 5) 0, _, _, _, none⟩ (.pointer (some ⟨r, 0, none⟩)) rfl rfl (by kernel_rfl) (by kernel_rfl) (by kernel_rfl) (fun _ _ _ h => h) (fun w _ => exec_v (fieldk70 r 0 w (by omega))) hS ?_
  simp only [Act.put, List.setIfInBounds_toArray, List.set_cons_zero, List.set_cons_succ]
  refine anyH_take 4 ⟨some 7, .load 67 (.tmp 6), _, _, _, none⟩ (.slice (some ⟨gl, 0, none⟩) D.n lc) rfl rfl (by kernel_rfl) (by kernel_rfl) (by kernel_rfl) (fun _ _ _ h => h) (fun X hX => exec_v (loadk67 (hcs X hX).1)) hS ?_
  simp only [Act.put, List.setIfInBounds_toArray, List.set_cons_zero, List.set_cons_succ]
  refine anyH_take 7 ⟨some 10, .move (.tmp 0), _, _, _, none⟩ (.pointer (some ⟨r, 0, none⟩)) rfl rfl (by kernel_rfl) (by kernel_rfl) (by kernel_rfl) (fun _ _ _ h => h) (fun _ _ => rfl) hS ?_
  simp only [Act.put, List.setIfInBounds_toArray, List.set_cons_zero, List.set_cons_succ]
  refine anyH_take 8 ⟨some 11, .nilCheck (.tmp 10), _, _, _, none⟩ (.pointer (some ⟨r, 0, none⟩)) rfl rfl (by kernel_rfl) (by kernel_rfl) (by kernel_rfl) (fun _ _ _ h => h) (fun _ _ => rfl) hS ?_
  simp only [Act.put, List.setIfInBounds_toArray, List.set_cons_zero, List.set_cons_succ]
  refine anyH_take 9 ⟨some 12, .fieldAddr 70 (.tmp 11) 1, _, _, _, none⟩ (.pointer (some ⟨r, 1, none⟩)) rfl rfl (by kernel_rfl) (by kernel_rfl) (by kernel_rfl) (fun _ _ _ h => h) (fun w _ => exec_v (fieldk70 r 1 w (by omega))) hS ?_
  simp only [Act.put, List.setIfInBounds_toArray, List.set_cons_zero, List.set_cons_succ]
  refine anyH_take 10 ⟨some 13, .load 68 (.tmp 12), _, _, _, none⟩ (.slice a D.waits.length wc) rfl rfl (by kernel_rfl) (by kernel_rfl) (by kernel_rfl) (fun _ _ _ h => h) (fun X hX => exec_v (loadk68 (hcs X hX).2.1)) hS ?_
  simp only [Act.put, List.setIfInBounds_toArray, List.set_cons_zero, List.set_cons_succ]
  refine anyH_take 12 ⟨some 15, .move (.tmp 0), _, _, _, none⟩ (.pointer (some ⟨r, 0, none⟩)) rfl rfl (by kernel_rfl) (by kernel_rfl) (by kernel_rfl) (fun _ _ _ h => h) (fun _ _ => rfl) hS ?_
  simp only [Act.put, List.setIfInBounds_toArray, List.set_cons_zero, List.set_cons_succ]
  refine anyH_take 13 ⟨some 16, .nilCheck (.tmp 15), _, _, _, none⟩ (.pointer (some ⟨r, 0, none⟩)) rfl rfl (by kernel_rfl) (by kernel_rfl) (by kernel_rfl) (fun _ _ _ h => h) (fun _ _ => rfl) hS ?_
  simp only [Act.put, List.setIfInBounds_toArray, List.set_cons_zero, List.set_cons_succ]
  refine anyH_take 14 ⟨some 17, .fieldAddr 70 (.tmp 16) 2, _, _, _, none⟩ (.pointer (some ⟨r, 2, none⟩)) rfl rfl (by kernel_rfl) (by kernel_rfl) (by kernel_rfl) (fun _ _ _ h => h) (fun w _ => exec_v (fieldk70 r 2 w (by omega))) hS ?_
  simp only [Act.put, List.setIfInBounds_toArray, List.set_cons_zero, List.set_cons_succ]
  refine anyH_take 15 ⟨some 18, .load 3 (.tmp 17), _, _, _, none⟩ (.int .i64 D.steps) rfl rfl (by kernel_rfl) (by kernel_rfl) (by kernel_rfl) (fun _ _ _ h => h) (fun X hX => exec_v (loadk3 (hcs X hX).2.2.1)) hS ?_
  simp only [Act.put, List.setIfInBounds_toArray, List.set_cons_zero, List.set_cons_succ]
  refine anyH_take 16 ⟨some 19, .move (.tmp 0), _, _, _, none⟩ (.pointer (some ⟨r, 0, none⟩)) rfl rfl (by kernel_rfl) (by kernel_rfl) (by kernel_rfl) (fun _ _ _ h => h) (fun _ _ => rfl) hS ?_
  simp only [Act.put, List.setIfInBounds_toArray, List.set_cons_zero, List.set_cons_succ]
  refine anyH_take 17 ⟨some 20, .nilCheck (.tmp 19), _, _, _, none⟩ (.pointer (some ⟨r, 0, none⟩)) rfl rfl (by kernel_rfl) (by kernel_rfl) (by kernel_rfl) (fun _ _ _ h => h) (fun _ _ => rfl) hS ?_
  simp only [Act.put, List.setIfInBounds_toArray, List.set_cons_zero, List.set_cons_succ]
  refine anyH_take 18 ⟨some 21, .fieldAddr 70 (.tmp 20) 3, _, _, _, none⟩ (.pointer (some ⟨r, 3, none⟩)) rfl rfl (by kernel_rfl) (by kernel_rfl) (by kernel_rfl) (fun _ _ _ h => h) (fun w _ => exec_v (fieldk70 r 3 w (by omega))) hS ?_
  simp only [Act.put, List.setIfInBounds_toArray, List.set_cons_zero, List.set_cons_succ]
  refine anyH_take 19 ⟨some 22, .load 3 (.tmp 21), _, _, _, none⟩ (.int .i64 D.fuse) rfl rfl (by kernel_rfl) (by kernel_rfl) (by kernel_rfl) (fun _ _ _ h => h) (fun X hX => exec_v (loadk3 (hcs X hX).2.2.2.1)) hS ?_
  simp only [Act.put, List.setIfInBounds_toArray, List.set_cons_zero, List.set_cons_succ]
  refine anyH_take 20 ⟨some 23, .move (.tmp 0), _, _, _, none⟩ (.pointer (some ⟨r, 0, none⟩)) rfl rfl (by kernel_rfl) (by kernel_rfl) (by kernel_rfl) (fun _ _ _ h => h) (fun _ _ => rfl) hS ?_
  simp only [Act.put, List.setIfInBounds_toArray, List.set_cons_zero, List.set_cons_succ]
  refine anyH_take 21 ⟨some 24, .nilCheck (.tmp 23), _, _, _, none⟩ (.pointer (some ⟨r, 0, none⟩)) rfl rfl (by kernel_rfl) (by kernel_rfl) (by kernel_rfl) (fun _ _ _ h => h) (fun _ _ => rfl) hS ?_
  simp only [Act.put, List.setIfInBounds_toArray, List.set_cons_zero, List.set_cons_succ]
  refine anyH_take 22 ⟨some 25, .fieldAddr 70 (.tmp 24) 4, _, _, _, none⟩ (.pointer (some ⟨r, 4, none⟩)) rfl rfl (by kernel_rfl) (by kernel_rfl) (by kernel_rfl) (fun _ _ _ h => h) (fun w _ => exec_v (fieldk70 r 4 w (by omega))) hS ?_
  simp only [Act.put, List.setIfInBounds_toArray, List.set_cons_zero, List.set_cons_succ]
  refine anyH_take 23 ⟨some 26, .load 4 (.tmp 25), _, _, _, none⟩ (.bool D.gone) rfl rfl (by kernel_rfl) (by kernel_rfl) (by kernel_rfl) (fun _ _ _ h => h) (fun X hX => exec_v (loadk4 (hcs X hX).2.2.2.2)) hS ?_
  simp only [Act.put, List.setIfInBounds_toArray, List.set_cons_zero, List.set_cons_succ]
  have hs0 : w.drew.heap.size = w.heap.size := rfl
  refine anyH_two 0 6 (by kernel_rfl) ?_ ?_
  · refine wpOp_run (o := ⟨some 3, .buildSlice 67 0 #[], _, _, _, none⟩) (v := .slice (some ⟨w.heap.size, 0, none⟩) 0 0) (w' := w.drew.alloc (.cells #[] 9)) rfl rfl (exec_slice0 (mk67 w.drew)) ⟨hA9, ?_⟩
    simp only [Act.put, List.setIfInBounds_toArray, List.set_cons_zero, List.set_cons_succ]
    refine anyH_two 5 6 (by kernel_rfl) ?_ ?_
    · obtain ⟨g, c, Z, hrunL, hoL, hZ, hgL, hgl, hgi⟩ := apL HH.out hA9 w.heap.size (Nat.le_refl _) (heap_alloc_new _ _)
      refine wpOp_run (o := ⟨some 8, .call { callee := .builtin .append, args := #[.tmp 3, .tmp 7], argTypes := #[67, 67] }, _, _, _, none⟩) rfl rfl (exec_append (u := .slice (some ⟨w.heap.size, 0, none⟩) 0 0) (s := (.slice (some ⟨gl, 0, none⟩) D.n lc)) rfl rfl hrunL) ⟨hZ, ?_⟩
      simp only [Act.put, List.setIfInBounds_toArray, List.set_cons_zero, List.set_cons_succ]
      have hZ7 : Below w.heap.size w (Z.alloc (.cells #[] 77)) := hZ.alloc hZ.size _
      refine anyH_one 6 ⟨some 9, .buildSlice 68 0 #[], _, _, _, none⟩ (.slice (some ⟨Z.heap.size, 0, none⟩) 0 0) (Z.alloc (.cells #[] 77)) (by kernel_rfl) rfl rfl (exec_slice0 (mk68 Z)) hZ7 ?_
      simp only [Act.put, List.setIfInBounds_toArray, List.set_cons_zero, List.set_cons_succ]
      obtain ⟨g', c', Y, hrunW, hoW, hY, hgW, hgw, hgj⟩ := apW HH.out hZ7 Z.heap.size hZ.size (heap_alloc_new _ _)
      refine anyH_one 11 ⟨some 14, .call { callee := .builtin .append, args := #[.tmp 9, .tmp 13], argTypes := #[68, 68] }, _, _, _, none⟩ _ Y (by kernel_rfl) rfl rfl (exec_append (u := .slice (some ⟨Z.heap.size, 0, none⟩) 0 0) (s := (.slice a D.waits.length wc)) rfl rfl hrunW) hY ?_
      simp only [Act.put, List.setIfInBounds_toArray, List.set_cons_zero, List.set_cons_succ]
      have HF := hid (rcopy_fin HH.out hY (rowOver (hoL.alloc _) hgW (by omega)) hoW (by simp only [World.size_alloc] at hgj; omega))
      refine anyH_one 24 ⟨some 27, .build 70 #[(0, .tmp 8), (1, .tmp 14), (2, .tmp 18), (3, .tmp 22), (4, .tmp 26)], _, _, _, none⟩ (.agg #[.slice (some ⟨g, 0, none⟩) D.n c, .slice (some ⟨g', 0, none⟩) D.waits.length c', .int .i64 D.steps, .int .i64 D.fuse, .bool D.gone]) Y (by kernel_rfl) rfl rfl (exec_build5 rfl rfl rfl rfl rfl (build70 _ _ _ _ _ _ _ _ _ _)) hY ?_
      simp only [Act.put, List.setIfInBounds_toArray, List.set_cons_zero, List.set_cons_succ]
      refine anyH_one 25 ⟨some 28, .box 70 (.tmp 27), _, _, _, none⟩ (.pointer (some ⟨Y.heap.size, 0, none⟩)) _ (by kernel_rfl) rfl rfl (exec_v (box70 _ _ _ _ _ _)) (hY.alloc hY.size _) ?_
      simp only [Act.put, List.setIfInBounds_toArray, List.set_cons_zero, List.set_cons_succ]
      refine anyH_one 26 ⟨some 2, .assign (.tmp 28), _, _, _, none⟩ (.pointer (some ⟨Y.heap.size, 0, none⟩)) _ (by kernel_rfl) rfl rfl rfl (hY.alloc hY.size _) ?_
      simp only [Act.put, List.setIfInBounds_toArray, List.set_cons_zero, List.set_cons_succ]
      refine wpAnyH_done (by kernel_rfl) ?_ _
      go_wp2
      go_ret
      exact HF.out
    · refine wpOp_run (o := ⟨some 9, .buildSlice 68 0 #[], _, _, _, none⟩) (v := .slice (some ⟨w.heap.size + 1, 0, none⟩) 0 0) (w' := (w.drew.alloc (.cells #[] 9)).alloc (.cells #[] 77)) rfl rfl (exec_slice0 (mk68' w)) ⟨hA97, ?_⟩
      simp only [Act.put, List.setIfInBounds_toArray, List.set_cons_zero, List.set_cons_succ]
      obtain ⟨g, c, Z, hrunL, hoL, hZ, hgL, hgl, hgi⟩ := apL HH.out hA97 w.heap.size (Nat.le_refl _) hb97a
      refine anyH_one 5 ⟨some 8, .call { callee := .builtin .append, args := #[.tmp 3, .tmp 7], argTypes := #[67, 67] }, _, _, _, none⟩ _ Z (by kernel_rfl) rfl rfl (exec_append (u := .slice (some ⟨w.heap.size, 0, none⟩) 0 0) (s := (.slice (some ⟨gl, 0, none⟩) D.n lc)) rfl rfl hrunL) hZ ?_
      simp only [Act.put, List.setIfInBounds_toArray, List.set_cons_zero, List.set_cons_succ]
      obtain ⟨g', c', Y, hrunW, hoW, hY, hgW, hgw, hgj⟩ := apW HH.out hZ (w.heap.size + 1) (by omega) ((hgL.block _ (by rw [hs97]; omega) (by simp)).trans hb97b)
      refine anyH_one 11 ⟨some 14, .call { callee := .builtin .append, args := #[.tmp 9, .tmp 13], argTypes := #[68, 68] }, _, _, _, none⟩ _ Y (by kernel_rfl) rfl rfl (exec_append (u := .slice (some ⟨w.heap.size + 1, 0, none⟩) 0 0) (s := (.slice a D.waits.length wc)) rfl rfl hrunW) hY ?_
      simp only [Act.put, List.setIfInBounds_toArray, List.set_cons_zero, List.set_cons_succ]
      have HF := hid (rcopy_fin HH.out hY (rowOver hoL hgW (by rw [hs97] at hgi; omega)) hoW (by have := hgL.size; rw [hs97] at hgi this; omega))
      refine anyH_one 24 ⟨some 27, .build 70 #[(0, .tmp 8), (1, .tmp 14), (2, .tmp 18), (3, .tmp 22), (4, .tmp 26)], _, _, _, none⟩ (.agg #[.slice (some ⟨g, 0, none⟩) D.n c, .slice (some ⟨g', 0, none⟩) D.waits.length c', .int .i64 D.steps, .int .i64 D.fuse, .bool D.gone]) Y (by kernel_rfl) rfl rfl (exec_build5 rfl rfl rfl rfl rfl (build70 _ _ _ _ _ _ _ _ _ _)) hY ?_
      simp only [Act.put, List.setIfInBounds_toArray, List.set_cons_zero, List.set_cons_succ]
      refine anyH_one 25 ⟨some 28, .box 70 (.tmp 27), _, _, _, none⟩ (.pointer (some ⟨Y.heap.size, 0, none⟩)) _ (by kernel_rfl) rfl rfl (exec_v (box70 _ _ _ _ _ _)) (hY.alloc hY.size _) ?_
      simp only [Act.put, List.setIfInBounds_toArray, List.set_cons_zero, List.set_cons_succ]
      refine anyH_one 26 ⟨some 2, .assign (.tmp 28), _, _, _, none⟩ (.pointer (some ⟨Y.heap.size, 0, none⟩)) _ (by kernel_rfl) rfl rfl rfl (hY.alloc hY.size _) ?_
      simp only [Act.put, List.setIfInBounds_toArray, List.set_cons_zero, List.set_cons_succ]
      refine wpAnyH_done (by kernel_rfl) ?_ _
      go_wp2
      go_ret
      exact HF.out
  · refine wpOp_run (o := ⟨some 9, .buildSlice 68 0 #[], _, _, _, none⟩) (v := .slice (some ⟨w.heap.size, 0, none⟩) 0 0) (w' := w.drew.alloc (.cells #[] 77)) rfl rfl (exec_slice0 (mk68 w.drew)) ⟨hA7, ?_⟩
    simp only [Act.put, List.setIfInBounds_toArray, List.set_cons_zero, List.set_cons_succ]
    refine anyH_one 0 ⟨some 3, .buildSlice 67 0 #[], _, _, _, none⟩ (.slice (some ⟨w.heap.size + 1, 0, none⟩) 0 0) ((w.drew.alloc (.cells #[] 77)).alloc (.cells #[] 9)) (by kernel_rfl) rfl rfl (exec_slice0 (mk67' w)) hA79 ?_
    simp only [Act.put, List.setIfInBounds_toArray, List.set_cons_zero, List.set_cons_succ]
    obtain ⟨g, c, Z, hrunL, hoL, hZ, hgL, hgl, hgi⟩ := apL HH.out hA79 (w.heap.size + 1) (by omega) hb79b
    refine anyH_one 5 ⟨some 8, .call { callee := .builtin .append, args := #[.tmp 3, .tmp 7], argTypes := #[67, 67] }, _, _, _, none⟩ _ Z (by kernel_rfl) rfl rfl (exec_append (u := .slice (some ⟨w.heap.size + 1, 0, none⟩) 0 0) (s := (.slice (some ⟨gl, 0, none⟩) D.n lc)) rfl rfl hrunL) hZ ?_
    simp only [Act.put, List.setIfInBounds_toArray, List.set_cons_zero, List.set_cons_succ]
    obtain ⟨g', c', Y, hrunW, hoW, hY, hgW, hgw, hgj⟩ := apW HH.out hZ w.heap.size (Nat.le_refl _) ((hgL.block _ (by rw [hs79]; omega) (by simp)).trans hb79a)
    refine anyH_one 11 ⟨some 14, .call { callee := .builtin .append, args := #[.tmp 9, .tmp 13], argTypes := #[68, 68] }, _, _, _, none⟩ _ Y (by kernel_rfl) rfl rfl (exec_append (u := .slice (some ⟨w.heap.size, 0, none⟩) 0 0) (s := (.slice a D.waits.length wc)) rfl rfl hrunW) hY ?_
    simp only [Act.put, List.setIfInBounds_toArray, List.set_cons_zero, List.set_cons_succ]
    have HF := hid (rcopy_fin HH.out hY (rowOver hoL hgW (by rw [hs79] at hgi; omega)) hoW (by have := hgL.size; rw [hs79] at hgi this; omega))
    refine anyH_one 24 ⟨some 27, .build 70 #[(0, .tmp 8), (1, .tmp 14), (2, .tmp 18), (3, .tmp 22), (4, .tmp 26)], _, _, _, none⟩ (.agg #[.slice (some ⟨g, 0, none⟩) D.n c, .slice (some ⟨g', 0, none⟩) D.waits.length c', .int .i64 D.steps, .int .i64 D.fuse, .bool D.gone]) Y (by kernel_rfl) rfl rfl (exec_build5 rfl rfl rfl rfl rfl (build70 _ _ _ _ _ _ _ _ _ _)) hY ?_
    simp only [Act.put, List.setIfInBounds_toArray, List.set_cons_zero, List.set_cons_succ]
    refine anyH_one 25 ⟨some 28, .box 70 (.tmp 27), _, _, _, none⟩ (.pointer (some ⟨Y.heap.size, 0, none⟩)) _ (by kernel_rfl) rfl rfl (exec_v (box70 _ _ _ _ _ _)) (hY.alloc hY.size _) ?_
    simp only [Act.put, List.setIfInBounds_toArray, List.set_cons_zero, List.set_cons_succ]
    refine anyH_one 26 ⟨some 2, .assign (.tmp 28), _, _, _, none⟩ (.pointer (some ⟨Y.heap.size, 0, none⟩)) _ (by kernel_rfl) rfl rfl rfl (hY.alloc hY.size _) ?_
    simp only [Act.put, List.setIfInBounds_toArray, List.set_cons_zero, List.set_cons_succ]
    refine wpAnyH_done (by kernel_rfl) ?_ _
    go_wp2
    go_ret
    exact HF.out
end Go.Proofs.Ytahhhpmpgkfkdaa
