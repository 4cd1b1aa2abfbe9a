/- What this text holds: the document's Mail: the date that is built of five pieces (a region that draws its order). Written by genm10.py. -/
import Derived.Test.YtnjdgbbdjkhpoaaDoorM7
namespace Go.Proofs.YtnjdgbbdjkhpoaaDoor
open Go.RowKit
set_option linter.unusedVariables false
set_option linter.unusedSimpArgs false

theorem exec_store29m {a : Act} {x y : Operand} {w : World} {A : Nat} {t r : Dt} {ty : Nat} {pos : String} {af : Array Edge} {g : Option (Nat × Bool)} (hx : a.eval x = .pointer (some ⟨A, 0, none⟩)) (hy : a.eval y = .agg #[.int .i64 r.y, .int .i64 r.mo, .int .i64 r.d, .int .i64 r.h, .int .i64 r.mi, .int .i64 r.s, .int .i64 r.z]) (hA : w.heap[A]? = some (.cells (dtL t).toArray 29 (0, 0))) :
    (execOp a.eval ⟨none, .store 29 x y, ty, pos, af, g⟩).run Tryd.prog w = .ok .skip (putD w A r) := by
  obtain ⟨a0, a1, a2, a3, a4, a5, a6⟩ := cA_load hA
  have fA : ∀ k, w.frozen? ⟨A, k, none⟩ = false := fun k => by simp [World.frozen?, hA]
  unfold putD
  simp only [execOp, hx, hy]
  simp [go_sem, a0, a1, a2, a3, a4, a5, a6, fA]
theorem toLm (l : Bs) : (str l).toList = l := by rw [Go.Lib.toList_data, str_data]
theorem exec_alloc29 {a : Act} (w : World) {d : Option Tmp} {ty : Nat} {pos : String} {af : Array Edge} {gd : Option (Nat × Bool)} : (execOp a.eval ⟨d, .alloc 29, ty, pos, af, gd⟩).run Tryd.prog w = .ok (.value (.pointer (some ⟨w.heap.size, 0, none⟩))) (w.alloc (.cells (dtL Dt.zero).toArray 29)) := by kernel_rfl
set_option maxRecDepth 100000 in
set_option maxHeartbeats 4000000 in
theorem reg10_0 {w : World} {g c : Nat} {k0 k1 k2 : Bs} {ch cm cs zz : Int} {s0 s1 s2 s3 s9 s10 s11 s12 s13 s14 s15 s16 s17 s18 s19 s20 s21 s22 s23 s24 s25 s26 s27 s28 s29 s30 s31 s32 s33 s34 s35 s36 s37 s38 s39 s40 s41 s42 s43 s44 s45 s46 s47 s48 s49 s50 s51 s52 s53 s54 s55 s56 s57 s58 s59 s60 s61 s62 s63 s64 s65 s66 s67 s68 s69 s70 s71 s72 s73 s74 s75 s76 s77 s78 s79 s80 s81 s82 s83 s84 s85 s86 s87 s88 s89 s90 s91 s92 s93 s94 : Value} (b0 : k0.length ≤ 1000000) (b1 : k1.length ≤ 1000000) (b2 : k2.length ≤ 1000000)
    (q0 : w.cell? ⟨g, 0, none⟩ = some (.string (str k0))) (q1 : w.cell? ⟨g, 1, none⟩ = some (.string (str k1))) (q2 : w.cell? ⟨g, 2, none⟩ = some (.string (str k2))) :
    (Code.region 10 #[{ dst := some 69, op := Op.move (Operand.tmp 4), type := 64, pos := "ref.go:243", after := #[], guard := none }, { dst := some 70, op := Op.indexAddr 64 (Operand.tmp 69) (Operand.const (Value.int IntKind.i64 2)), type := 0, pos := "ref.go:243", after := #[{ on := 0, ground := Ground.data }], guard := none }, { dst := some 71, op := Op.load 9 (Operand.tmp 70), type := 9, pos := "ref.go:243", after := #[{ on := 1, ground := Ground.data }], guard := none }, { dst := some 72, op := Op.call { callee := Callee.value (Operand.func 44), args := #[Operand.tmp 71], argTypes := #[9] }, type := 3, pos := "ref.go:243", after := #[{ on := 2, ground := Ground.data }], guard := none }, { dst := some 73, op := Op.move (Operand.tmp 4), type := 64, pos := "ref.go:243", after := #[], guard := none }, { dst := some 74, op := Op.indexAddr 64 (Operand.tmp 73) (Operand.const (Value.int IntKind.i64 1)), type := 0, pos := "ref.go:243", after := #[{ on := 4, ground := Ground.data }], guard := none }, { dst := some 75, op := Op.load 9 (Operand.tmp 74), type := 9, pos := "ref.go:243", after := #[{ on := 5, ground := Ground.data }], guard := none }, { dst := some 76, op := Op.call { callee := Callee.value (Operand.func 45), args := #[Operand.tmp 75], argTypes := #[9] }, type := 3, pos := "ref.go:243", after := #[{ on := 6, ground := Ground.data }, { on := 3, ground := Ground.chain }], guard := none }, { dst := some 77, op := Op.move (Operand.tmp 4), type := 64, pos := "ref.go:243", after := #[], guard := none }, { dst := some 78, op := Op.indexAddr 64 (Operand.tmp 77) (Operand.const (Value.int IntKind.i64 0)), type := 0, pos := "ref.go:243", after := #[{ on := 8, ground := Ground.data }], guard := none }, { dst := some 79, op := Op.load 9 (Operand.tmp 78), type := 9, pos := "ref.go:243", after := #[{ on := 9, ground := Ground.data }], guard := none }, { dst := some 80, op := Op.call { callee := Callee.value (Operand.func 44), args := #[Operand.tmp 79], argTypes := #[9] }, type := 3, pos := "ref.go:243", after := #[{ on := 10, ground := Ground.data }, { on := 7, ground := Ground.chain }], guard := none }, { dst := some 81, op := Op.move (Operand.tmp 5), type := 3, pos := "ref.go:243", after := #[], guard := none }, { dst := some 82, op := Op.move (Operand.tmp 6), type := 3, pos := "ref.go:243", after := #[], guard := none }, { dst := some 83, op := Op.move (Operand.tmp 7), type := 3, pos := "ref.go:243", after := #[], guard := none }, { dst := some 84, op := Op.move (Operand.tmp 8), type := 3, pos := "ref.go:243", after := #[], guard := none }, { dst := some 85, op := Op.build 29 #[(0, Operand.tmp 72), (1, Operand.tmp 76), (2, Operand.tmp 80), (3, Operand.tmp 81), (4, Operand.tmp 82), (5, Operand.tmp 83), (6, Operand.tmp 84)], type := 29, pos := "ref.go:243", after := #[{ on := 3, ground := Ground.data }, { on := 7, ground := Ground.data }, { on := 11, ground := Ground.data }, { on := 12, ground := Ground.data }, { on := 13, ground := Ground.data }, { on := 14, ground := Ground.data }, { on := 15, ground := Ground.data }], guard := none }, { dst := some 10, op := Op.alloc 29, type := 0, pos := "ref.go:243", after := #[], guard := none }, { dst := none, op := Op.store 29 (Operand.tmp 10) (Operand.tmp 85), type := 0, pos := "ref.go:243", after := #[{ on := 17, ground := Ground.data }, { on := 16, ground := Ground.data }, { on := 11, ground := Ground.chain }, { on := 0, ground := Ground.phase }, { on := 1, ground := Ground.phase }, { on := 2, ground := Ground.phase }, { on := 3, ground := Ground.phase }, { on := 4, ground := Ground.phase }, { on := 5, ground := Ground.phase }, { on := 6, ground := Ground.phase }, { on := 7, ground := Ground.phase }, { on := 8, ground := Ground.phase }, { on := 9, ground := Ground.phase }, { on := 10, ground := Ground.phase }, { on := 11, ground := Ground.phase }, { on := 12, ground := Ground.phase }, { on := 13, ground := Ground.phase }, { on := 14, ground := Ground.phase }, { on := 15, ground := Ground.phase }, { on := 16, ground := Ground.phase }, { on := 17, ground := Ground.phase }], guard := none }] true).wp Tryd.prog (fun e a' W => e = .normal ∧ ∃ g', a' = ⟨#[s0, s1, s2, s3, .slice (some ⟨g, 0, none⟩) 5 c, .int .i64 ch, .int .i64 cm, .int .i64 cs, .int .i64 zz, s9, .pointer (some ⟨g', 0, none⟩), s11, s12, s13, s14, s15, s16, s17, s18, s19, s20, s21, s22, s23, s24, s25, s26, s27, s28, s29, s30, s31, s32, s33, s34, s35, s36, s37, s38, s39, s40, s41, s42, s43, s44, s45, s46, s47, s48, s49, s50, s51, s52, s53, s54, s55, s56, s57, s58, s59, s60, s61, s62, s63, s64, s65, s66, s67, s68, .slice (some ⟨g, 0, none⟩) 5 c, .pointer (some ⟨g, 2, none⟩), .string (str k2), .int .i64 (numR k2), .slice (some ⟨g, 0, none⟩) 5 c, .pointer (some ⟨g, 1, none⟩), .string (str k1), .int .i64 (monthR k1), .slice (some ⟨g, 0, none⟩) 5 c, .pointer (some ⟨g, 0, none⟩), .string (str k0), .int .i64 (numR k0), .int .i64 ch, .int .i64 cm, .int .i64 cs, .int .i64 zz, .agg #[.int .i64 (numR k2), .int .i64 (monthR k1), .int .i64 (numR k0), .int .i64 ch, .int .i64 cm, .int .i64 cs, .int .i64 zz], s86, s87, s88, s89, s90, s91, s92, s93, s94], []⟩ ∧ W.heap[g']? = some (.cells (dtL ⟨numR k2, monthR k1, numR k0, ch, cm, cs, zz⟩).toArray 29 (0, 0)) ∧ Below w.heap.size w W) ⟨#[s0, s1, s2, s3, .slice (some ⟨g, 0, none⟩) 5 c, .int .i64 ch, .int .i64 cm, .int .i64 cs, .int .i64 zz, s9, s10, s11, s12, s13, s14, s15, s16, s17, s18, s19, s20, s21, s22, s23, s24, s25, s26, s27, s28, s29, s30, s31, s32, s33, s34, s35, s36, s37, s38, s39, s40, s41, s42, s43, s44, s45, s46, s47, s48, s49, s50, s51, s52, s53, s54, s55, s56, s57, s58, s59, s60, s61, s62, s63, s64, s65, s66, s67, s68, s69, s70, s71, s72, s73, s74, s75, s76, s77, s78, s79, s80, s81, s82, s83, s84, s85, s86, s87, s88, s89, s90, s91, s92, s93, s94], []⟩ w := by
  have hl0 := World.block_lt_of_cell? w ⟨g, 0, none⟩ q0
  refine wp_region_held_drew (S := fun Y => Below w.heap.size w Y) (by kernel_rfl) ((Below.refl _ _).drew) ?_
  intro hS
  refine anyH_take 0 ⟨some 69, .move (.tmp 4), _, _, _, none⟩ (.slice (some ⟨g, 0, none⟩) 5 c) rfl rfl (by kernel_rfl) (by kernel_rfl) (by kernel_rfl) (fun _ _ _ h => nomatch h.1) (fun _ _ => rfl) hS ?_
  simp only [Act.put, List.setIfInBounds_toArray, List.set_cons_zero, List.set_cons_succ]
  refine anyH_take 1 ⟨some 70, .indexAddr 64 (.tmp 69) (.const (.int .i64 2)), _, _, _, none⟩ (.pointer (some ⟨g, 2, none⟩)) rfl rfl (by kernel_rfl) (by kernel_rfl) (by kernel_rfl) (fun _ _ _ h => nomatch h.1) (fun _ _ => exec_v (by kernel_rfl)) hS ?_
  simp only [Act.put, List.setIfInBounds_toArray, List.set_cons_zero, List.set_cons_succ]
  refine anyH_take 2 ⟨some 71, .load 9 (.tmp 70), _, _, _, none⟩ (.string (str k2)) rfl rfl (by kernel_rfl) (by kernel_rfl) (by kernel_rfl) (fun _ _ _ h => nomatch h.1) (fun Y hY => exec_v (load9 ((World.cell?_of_block (hY.block g hl0)).trans q2))) hS ?_
  simp only [Act.put, List.setIfInBounds_toArray, List.set_cons_zero, List.set_cons_succ]
  refine anyH_take 4 ⟨some 73, .move (.tmp 4), _, _, _, none⟩ (.slice (some ⟨g, 0, none⟩) 5 c) rfl rfl (by kernel_rfl) (by kernel_rfl) (by kernel_rfl) (fun _ _ _ h => nomatch h.1) (fun _ _ => rfl) hS ?_
  simp only [Act.put, List.setIfInBounds_toArray, List.set_cons_zero, List.set_cons_succ]
  refine anyH_take 5 ⟨some 74, .indexAddr 64 (.tmp 73) (.const (.int .i64 1)), _, _, _, none⟩ (.pointer (some ⟨g, 1, none⟩)) rfl rfl (by kernel_rfl) (by kernel_rfl) (by kernel_rfl) (fun _ _ _ h => nomatch h.1) (fun _ _ => exec_v (by kernel_rfl)) hS ?_
  simp only [Act.put, List.setIfInBounds_toArray, List.set_cons_zero, List.set_cons_succ]
  refine anyH_take 6 ⟨some 75, .load 9 (.tmp 74), _, _, _, none⟩ (.string (str k1)) rfl rfl (by kernel_rfl) (by kernel_rfl) (by kernel_rfl) (fun _ _ _ h => nomatch h.1) (fun Y hY => exec_v (load9 ((World.cell?_of_block (hY.block g hl0)).trans q1))) hS ?_
  simp only [Act.put, List.setIfInBounds_toArray, List.set_cons_zero, List.set_cons_succ]
  refine anyH_take 8 ⟨some 77, .move (.tmp 4), _, _, _, none⟩ (.slice (some ⟨g, 0, none⟩) 5 c) rfl rfl (by kernel_rfl) (by kernel_rfl) (by kernel_rfl) (fun _ _ _ h => nomatch h.1) (fun _ _ => rfl) hS ?_
  simp only [Act.put, List.setIfInBounds_toArray, List.set_cons_zero, List.set_cons_succ]
  refine anyH_take 9 ⟨some 78, .indexAddr 64 (.tmp 77) (.const (.int .i64 0)), _, _, _, none⟩ (.pointer (some ⟨g, 0, none⟩)) rfl rfl (by kernel_rfl) (by kernel_rfl) (by kernel_rfl) (fun _ _ _ h => nomatch h.1) (fun _ _ => exec_v (by kernel_rfl)) hS ?_
  simp only [Act.put, List.setIfInBounds_toArray, List.set_cons_zero, List.set_cons_succ]
  refine anyH_take 10 ⟨some 79, .load 9 (.tmp 78), _, _, _, none⟩ (.string (str k0)) rfl rfl (by kernel_rfl) (by kernel_rfl) (by kernel_rfl) (fun _ _ _ h => nomatch h.1) (fun Y hY => exec_v (load9 ((World.cell?_of_block (hY.block g hl0)).trans q0))) hS ?_
  simp only [Act.put, List.setIfInBounds_toArray, List.set_cons_zero, List.set_cons_succ]
  refine anyH_take 12 ⟨some 81, .move (.tmp 5), _, _, _, none⟩ (.int .i64 ch) rfl rfl (by kernel_rfl) (by kernel_rfl) (by kernel_rfl) (fun _ _ _ h => nomatch h.1) (fun _ _ => rfl) hS ?_
  simp only [Act.put, List.setIfInBounds_toArray, List.set_cons_zero, List.set_cons_succ]
  refine anyH_take 13 ⟨some 82, .move (.tmp 6), _, _, _, none⟩ (.int .i64 cm) rfl rfl (by kernel_rfl) (by kernel_rfl) (by kernel_rfl) (fun _ _ _ h => nomatch h.1) (fun _ _ => rfl) hS ?_
  simp only [Act.put, List.setIfInBounds_toArray, List.set_cons_zero, List.set_cons_succ]
  refine anyH_take 14 ⟨some 83, .move (.tmp 7), _, _, _, none⟩ (.int .i64 cs) rfl rfl (by kernel_rfl) (by kernel_rfl) (by kernel_rfl) (fun _ _ _ h => nomatch h.1) (fun _ _ => rfl) hS ?_
  simp only [Act.put, List.setIfInBounds_toArray, List.set_cons_zero, List.set_cons_succ]
  refine anyH_take 15 ⟨some 84, .move (.tmp 8), _, _, _, none⟩ (.int .i64 zz) rfl rfl (by kernel_rfl) (by kernel_rfl) (by kernel_rfl) (fun _ _ _ h => nomatch h.1) (fun _ _ => rfl) hS ?_
  simp only [Act.put, List.setIfInBounds_toArray, List.set_cons_zero, List.set_cons_succ]
  refine anyH_two 3 17 (by kernel_rfl) ?_ ?_
  · refine wpOp_callW (o := ⟨some 72, .call { callee := .value (.func 44), args := #[.tmp 71], argTypes := #[9] }, _, _, _, none⟩) (f := 44) (args := #[.string (str k2)]) rfl rfl (by kernel_rfl) ?_
    refine (rnumber_any k2 b2 _).mono ?_
    rintro e Y1 ⟨rfl, hY1⟩
    rw [hY1]
    refine ⟨_, rfl, hS, ?_⟩
    simp only [Act.put, List.setIfInBounds_toArray, List.set_cons_zero, List.set_cons_succ]
    refine anyH_two 7 17 (by kernel_rfl) ?_ ?_
    · refine wpOp_callW (o := ⟨some 76, .call { callee := .value (.func 45), args := #[.tmp 75], argTypes := #[9] }, _, _, _, none⟩) (f := 45) (args := #[.string (str k1)]) rfl rfl (by kernel_rfl) ?_
      refine (rmonth_any k1 b1 _).mono ?_
      rintro e Y2 ⟨rfl, hY2⟩
      have hT2 : Below w.heap.size w Y2 := hS.trans (hY2.mono hS.size)
      refine ⟨_, rfl, hT2, ?_⟩
      simp only [Act.put, List.setIfInBounds_toArray, List.set_cons_zero, List.set_cons_succ]
      refine anyH_two 11 17 (by kernel_rfl) ?_ ?_
      · refine wpOp_callW (o := ⟨some 80, .call { callee := .value (.func 44), args := #[.tmp 79], argTypes := #[9] }, _, _, _, none⟩) (f := 44) (args := #[.string (str k0)]) rfl rfl (by kernel_rfl) ?_
        refine (rnumber_any k0 b0 _).mono ?_
        rintro e Y3 ⟨rfl, hY3⟩
        rw [hY3]
        refine ⟨_, rfl, hT2, ?_⟩
        simp only [Act.put, List.setIfInBounds_toArray, List.set_cons_zero, List.set_cons_succ]
        refine anyH_take 16 ⟨some 85, .build 29 #[(0, .tmp 72), (1, .tmp 76), (2, .tmp 80), (3, .tmp 81), (4, .tmp 82), (5, .tmp 83), (6, .tmp 84)], _, _, _, none⟩ (.agg #[.int .i64 (numR k2), .int .i64 (monthR k1), .int .i64 (numR k0), .int .i64 ch, .int .i64 cm, .int .i64 cs, .int .i64 zz]) rfl rfl (by kernel_rfl) (by kernel_rfl) (by kernel_rfl) (fun _ _ _ h => nomatch h.1) (fun _ _ => exec_v (by kernel_rfl)) hT2 ?_
        simp only [Act.put, List.setIfInBounds_toArray, List.set_cons_zero, List.set_cons_succ]
        have hG4 : (Y2.alloc (.cells (dtL Dt.zero).toArray 29)).heap[Y2.heap.size]? = some (.cells (dtL Dt.zero).toArray 29 (0, 0)) := heap_alloc_new _ _
        have hS4 : Below w.heap.size w (Y2.alloc (.cells (dtL Dt.zero).toArray 29)) := hT2.alloc hT2.size _
        have hge4 : w.heap.size ≤ Y2.heap.size := hT2.size
        refine anyH_one 17 ⟨some 10, .alloc 29, _, _, _, none⟩ (.pointer (some ⟨Y2.heap.size, 0, none⟩)) (Y2.alloc (.cells (dtL Dt.zero).toArray 29)) (by kernel_rfl) rfl rfl (exec_alloc29 _) hS4 ?_
        simp only [Act.put, List.setIfInBounds_toArray, List.set_cons_zero, List.set_cons_succ]
        have e5 := putD_is (Y2.alloc (.cells (dtL Dt.zero).toArray 29)) (Y2.heap.size) Dt.zero ⟨numR k2, monthR k1, numR k0, ch, cm, cs, zz⟩ hG4
        have hf5 : Below w.heap.size w (putD (Y2.alloc (.cells (dtL Dt.zero).toArray 29)) (Y2.heap.size) ⟨numR k2, monthR k1, numR k0, ch, cm, cs, zz⟩) := below_kept hS4 e5.2.2 (by simp only [List.mem_singleton, forall_eq]; exact hge4) hS4.size
        refine anyH_oneSkip 18 ⟨none, .store 29 (.tmp 10) (.tmp 85), _, _, _, none⟩ (putD (Y2.alloc (.cells (dtL Dt.zero).toArray 29)) (Y2.heap.size) ⟨numR k2, monthR k1, numR k0, ch, cm, cs, zz⟩) (by kernel_rfl) rfl rfl (exec_store29m (r := ⟨numR k2, monthR k1, numR k0, ch, cm, cs, zz⟩) rfl rfl hG4) hf5 ?_
        refine wpAnyH_done (by kernel_rfl) ?_ _
        exact ⟨rfl, Y2.heap.size, rfl, e5.1, hf5⟩
      · have hG6 : (Y2.alloc (.cells (dtL Dt.zero).toArray 29)).heap[Y2.heap.size]? = some (.cells (dtL Dt.zero).toArray 29 (0, 0)) := heap_alloc_new _ _
        have hS6 : Below w.heap.size w (Y2.alloc (.cells (dtL Dt.zero).toArray 29)) := hT2.alloc hT2.size _
        have hge6 : w.heap.size ≤ Y2.heap.size := hT2.size
        refine wpOp_run (o := ⟨some 10, .alloc 29, _, _, _, none⟩) (v := .pointer (some ⟨Y2.heap.size, 0, none⟩)) (w' := Y2.alloc (.cells (dtL Dt.zero).toArray 29)) rfl rfl (exec_alloc29 _) ⟨hS6, ?_⟩
        simp only [Act.put, List.setIfInBounds_toArray, List.set_cons_zero, List.set_cons_succ]
        refine anyH_callW 11 ⟨some 80, .call { callee := .value (.func 44), args := #[.tmp 79], argTypes := #[9] }, _, _, _, none⟩ 44 #[.string (str k0)] (by kernel_rfl) rfl rfl (by kernel_rfl) ?_
        refine (rnumber_any k0 b0 _).mono ?_
        rintro e Y7 ⟨rfl, hY7⟩
        rw [hY7]
        refine ⟨_, rfl, hS6, ?_⟩
        simp only [Act.put, List.setIfInBounds_toArray, List.set_cons_zero, List.set_cons_succ]
        refine anyH_take 16 ⟨some 85, .build 29 #[(0, .tmp 72), (1, .tmp 76), (2, .tmp 80), (3, .tmp 81), (4, .tmp 82), (5, .tmp 83), (6, .tmp 84)], _, _, _, none⟩ (.agg #[.int .i64 (numR k2), .int .i64 (monthR k1), .int .i64 (numR k0), .int .i64 ch, .int .i64 cm, .int .i64 cs, .int .i64 zz]) rfl rfl (by kernel_rfl) (by kernel_rfl) (by kernel_rfl) (fun _ _ _ h => nomatch h.1) (fun _ _ => exec_v (by kernel_rfl)) hS6 ?_
        simp only [Act.put, List.setIfInBounds_toArray, List.set_cons_zero, List.set_cons_succ]
        have e8 := putD_is (Y2.alloc (.cells (dtL Dt.zero).toArray 29)) (Y2.heap.size) Dt.zero ⟨numR k2, monthR k1, numR k0, ch, cm, cs, zz⟩ hG6
        have hf8 : Below w.heap.size w (putD (Y2.alloc (.cells (dtL Dt.zero).toArray 29)) (Y2.heap.size) ⟨numR k2, monthR k1, numR k0, ch, cm, cs, zz⟩) := below_kept hS6 e8.2.2 (by simp only [List.mem_singleton, forall_eq]; exact hge6) hS6.size
        refine anyH_oneSkip 18 ⟨none, .store 29 (.tmp 10) (.tmp 85), _, _, _, none⟩ (putD (Y2.alloc (.cells (dtL Dt.zero).toArray 29)) (Y2.heap.size) ⟨numR k2, monthR k1, numR k0, ch, cm, cs, zz⟩) (by kernel_rfl) rfl rfl (exec_store29m (r := ⟨numR k2, monthR k1, numR k0, ch, cm, cs, zz⟩) rfl rfl hG6) hf8 ?_
        refine wpAnyH_done (by kernel_rfl) ?_ _
        exact ⟨rfl, Y2.heap.size, rfl, e8.1, hf8⟩
    · have hG9 : (w.drew.alloc (.cells (dtL Dt.zero).toArray 29)).heap[w.drew.heap.size]? = some (.cells (dtL Dt.zero).toArray 29 (0, 0)) := heap_alloc_new _ _
      have hS9 : Below w.heap.size w (w.drew.alloc (.cells (dtL Dt.zero).toArray 29)) := hS.alloc hS.size _
      have hge9 : w.heap.size ≤ w.drew.heap.size := hS.size
      refine wpOp_run (o := ⟨some 10, .alloc 29, _, _, _, none⟩) (v := .pointer (some ⟨w.drew.heap.size, 0, none⟩)) (w' := w.drew.alloc (.cells (dtL Dt.zero).toArray 29)) rfl rfl (exec_alloc29 _) ⟨hS9, ?_⟩
      simp only [Act.put, List.setIfInBounds_toArray, List.set_cons_zero, List.set_cons_succ]
      refine anyH_callW 7 ⟨some 76, .call { callee := .value (.func 45), args := #[.tmp 75], argTypes := #[9] }, _, _, _, none⟩ 45 #[.string (str k1)] (by kernel_rfl) rfl rfl (by kernel_rfl) ?_
      refine (rmonth_any k1 b1 _).mono ?_
      rintro e Y10 ⟨rfl, hY10⟩
      have hT10 : Below w.heap.size w Y10 := hS9.trans (hY10.mono hS9.size)
      have hH10 := (hY10.block _ (lt_of_some hG9)).trans hG9
      refine ⟨_, rfl, hT10, ?_⟩
      simp only [Act.put, List.setIfInBounds_toArray, List.set_cons_zero, List.set_cons_succ]
      refine anyH_callW 11 ⟨some 80, .call { callee := .value (.func 44), args := #[.tmp 79], argTypes := #[9] }, _, _, _, none⟩ 44 #[.string (str k0)] (by kernel_rfl) rfl rfl (by kernel_rfl) ?_
      refine (rnumber_any k0 b0 _).mono ?_
      rintro e Y11 ⟨rfl, hY11⟩
      rw [hY11]
      refine ⟨_, rfl, hT10, ?_⟩
      simp only [Act.put, List.setIfInBounds_toArray, List.set_cons_zero, List.set_cons_succ]
      refine anyH_take 16 ⟨some 85, .build 29 #[(0, .tmp 72), (1, .tmp 76), (2, .tmp 80), (3, .tmp 81), (4, .tmp 82), (5, .tmp 83), (6, .tmp 84)], _, _, _, none⟩ (.agg #[.int .i64 (numR k2), .int .i64 (monthR k1), .int .i64 (numR k0), .int .i64 ch, .int .i64 cm, .int .i64 cs, .int .i64 zz]) rfl rfl (by kernel_rfl) (by kernel_rfl) (by kernel_rfl) (fun _ _ _ h => nomatch h.1) (fun _ _ => exec_v (by kernel_rfl)) hT10 ?_
      simp only [Act.put, List.setIfInBounds_toArray, List.set_cons_zero, List.set_cons_succ]
      have e12 := putD_is Y10 (w.drew.heap.size) Dt.zero ⟨numR k2, monthR k1, numR k0, ch, cm, cs, zz⟩ hH10
      have hf12 : Below w.heap.size w (putD Y10 (w.drew.heap.size) ⟨numR k2, monthR k1, numR k0, ch, cm, cs, zz⟩) := below_kept hT10 e12.2.2 (by simp only [List.mem_singleton, forall_eq]; exact hge9) hT10.size
      refine anyH_oneSkip 18 ⟨none, .store 29 (.tmp 10) (.tmp 85), _, _, _, none⟩ (putD Y10 (w.drew.heap.size) ⟨numR k2, monthR k1, numR k0, ch, cm, cs, zz⟩) (by kernel_rfl) rfl rfl (exec_store29m (r := ⟨numR k2, monthR k1, numR k0, ch, cm, cs, zz⟩) rfl rfl hH10) hf12 ?_
      refine wpAnyH_done (by kernel_rfl) ?_ _
      exact ⟨rfl, w.drew.heap.size, rfl, e12.1, hf12⟩
  · have hG13 : (w.drew.alloc (.cells (dtL Dt.zero).toArray 29)).heap[w.drew.heap.size]? = some (.cells (dtL Dt.zero).toArray 29 (0, 0)) := heap_alloc_new _ _
    have hS13 : Below w.heap.size w (w.drew.alloc (.cells (dtL Dt.zero).toArray 29)) := hS.alloc hS.size _
    have hge13 : w.heap.size ≤ w.drew.heap.size := hS.size
    refine wpOp_run (o := ⟨some 10, .alloc 29, _, _, _, none⟩) (v := .pointer (some ⟨w.drew.heap.size, 0, none⟩)) (w' := w.drew.alloc (.cells (dtL Dt.zero).toArray 29)) rfl rfl (exec_alloc29 _) ⟨hS13, ?_⟩
    simp only [Act.put, List.setIfInBounds_toArray, List.set_cons_zero, List.set_cons_succ]
    refine anyH_callW 3 ⟨some 72, .call { callee := .value (.func 44), args := #[.tmp 71], argTypes := #[9] }, _, _, _, none⟩ 44 #[.string (str k2)] (by kernel_rfl) rfl rfl (by kernel_rfl) ?_
    refine (rnumber_any k2 b2 _).mono ?_
    rintro e Y14 ⟨rfl, hY14⟩
    rw [hY14]
    refine ⟨_, rfl, hS13, ?_⟩
    simp only [Act.put, List.setIfInBounds_toArray, List.set_cons_zero, List.set_cons_succ]
    refine anyH_callW 7 ⟨some 76, .call { callee := .value (.func 45), args := #[.tmp 75], argTypes := #[9] }, _, _, _, none⟩ 45 #[.string (str k1)] (by kernel_rfl) rfl rfl (by kernel_rfl) ?_
    refine (rmonth_any k1 b1 _).mono ?_
    rintro e Y15 ⟨rfl, hY15⟩
    have hT15 : Below w.heap.size w Y15 := hS13.trans (hY15.mono hS13.size)
    have hH15 := (hY15.block _ (lt_of_some hG13)).trans hG13
    refine ⟨_, rfl, hT15, ?_⟩
    simp only [Act.put, List.setIfInBounds_toArray, List.set_cons_zero, List.set_cons_succ]
    refine anyH_callW 11 ⟨some 80, .call { callee := .value (.func 44), args := #[.tmp 79], argTypes := #[9] }, _, _, _, none⟩ 44 #[.string (str k0)] (by kernel_rfl) rfl rfl (by kernel_rfl) ?_
    refine (rnumber_any k0 b0 _).mono ?_
    rintro e Y16 ⟨rfl, hY16⟩
    rw [hY16]
    refine ⟨_, rfl, hT15, ?_⟩
    simp only [Act.put, List.setIfInBounds_toArray, List.set_cons_zero, List.set_cons_succ]
    refine anyH_take 16 ⟨some 85, .build 29 #[(0, .tmp 72), (1, .tmp 76), (2, .tmp 80), (3, .tmp 81), (4, .tmp 82), (5, .tmp 83), (6, .tmp 84)], _, _, _, none⟩ (.agg #[.int .i64 (numR k2), .int .i64 (monthR k1), .int .i64 (numR k0), .int .i64 ch, .int .i64 cm, .int .i64 cs, .int .i64 zz]) rfl rfl (by kernel_rfl) (by kernel_rfl) (by kernel_rfl) (fun _ _ _ h => nomatch h.1) (fun _ _ => exec_v (by kernel_rfl)) hT15 ?_
    simp only [Act.put, List.setIfInBounds_toArray, List.set_cons_zero, List.set_cons_succ]
    have e17 := putD_is Y15 (w.drew.heap.size) Dt.zero ⟨numR k2, monthR k1, numR k0, ch, cm, cs, zz⟩ hH15
    have hf17 : Below w.heap.size w (putD Y15 (w.drew.heap.size) ⟨numR k2, monthR k1, numR k0, ch, cm, cs, zz⟩) := below_kept hT15 e17.2.2 (by simp only [List.mem_singleton, forall_eq]; exact hge13) hT15.size
    refine anyH_oneSkip 18 ⟨none, .store 29 (.tmp 10) (.tmp 85), _, _, _, none⟩ (putD Y15 (w.drew.heap.size) ⟨numR k2, monthR k1, numR k0, ch, cm, cs, zz⟩) (by kernel_rfl) rfl rfl (exec_store29m (r := ⟨numR k2, monthR k1, numR k0, ch, cm, cs, zz⟩) rfl rfl hH15) hf17 ?_
    refine wpAnyH_done (by kernel_rfl) ?_ _
    exact ⟨rfl, w.drew.heap.size, rfl, e17.1, hf17⟩
set_option maxRecDepth 100000 in
set_option maxHeartbeats 4000000 in
theorem reg10_1 {w : World} {g c : Nat} {k0 k1 k2 : Bs} {ch cm cs zz : Int} {s0 s1 s2 s3 s9 s10 s11 s12 s13 s14 s15 s16 s17 s18 s19 s20 s21 s22 s23 s24 s25 s26 s27 s28 s29 s30 s31 s32 s33 s34 s35 s36 s37 s38 s39 s40 s41 s42 s43 s44 s45 s46 s47 s48 s49 s50 s51 s52 s53 s54 s55 s56 s57 s58 s59 s60 s61 s62 s63 s64 s65 s66 s67 s68 s69 s70 s71 s72 s73 s74 s75 s76 s77 s78 s79 s80 s81 s82 s83 s84 s85 s86 s87 s88 s89 s90 s91 s92 s93 s94 : Value} (b0 : k0.length ≤ 1000000) (b1 : k1.length ≤ 1000000) (b2 : k2.length ≤ 1000000)
    (q0 : w.cell? ⟨g, 1, none⟩ = some (.string (str k0))) (q1 : w.cell? ⟨g, 2, none⟩ = some (.string (str k1))) (q2 : w.cell? ⟨g, 3, none⟩ = some (.string (str k2))) :
    (Code.region 10 #[{ dst := some 69, op := Op.move (Operand.tmp 4), type := 64, pos := "ref.go:243", after := #[], guard := none }, { dst := some 70, op := Op.indexAddr 64 (Operand.tmp 69) (Operand.const (Value.int IntKind.i64 2)), type := 0, pos := "ref.go:243", after := #[{ on := 0, ground := Ground.data }], guard := none }, { dst := some 71, op := Op.load 9 (Operand.tmp 70), type := 9, pos := "ref.go:243", after := #[{ on := 1, ground := Ground.data }], guard := none }, { dst := some 72, op := Op.call { callee := Callee.value (Operand.func 44), args := #[Operand.tmp 71], argTypes := #[9] }, type := 3, pos := "ref.go:243", after := #[{ on := 2, ground := Ground.data }], guard := none }, { dst := some 73, op := Op.move (Operand.tmp 4), type := 64, pos := "ref.go:243", after := #[], guard := none }, { dst := some 74, op := Op.indexAddr 64 (Operand.tmp 73) (Operand.const (Value.int IntKind.i64 1)), type := 0, pos := "ref.go:243", after := #[{ on := 4, ground := Ground.data }], guard := none }, { dst := some 75, op := Op.load 9 (Operand.tmp 74), type := 9, pos := "ref.go:243", after := #[{ on := 5, ground := Ground.data }], guard := none }, { dst := some 76, op := Op.call { callee := Callee.value (Operand.func 45), args := #[Operand.tmp 75], argTypes := #[9] }, type := 3, pos := "ref.go:243", after := #[{ on := 6, ground := Ground.data }, { on := 3, ground := Ground.chain }], guard := none }, { dst := some 77, op := Op.move (Operand.tmp 4), type := 64, pos := "ref.go:243", after := #[], guard := none }, { dst := some 78, op := Op.indexAddr 64 (Operand.tmp 77) (Operand.const (Value.int IntKind.i64 0)), type := 0, pos := "ref.go:243", after := #[{ on := 8, ground := Ground.data }], guard := none }, { dst := some 79, op := Op.load 9 (Operand.tmp 78), type := 9, pos := "ref.go:243", after := #[{ on := 9, ground := Ground.data }], guard := none }, { dst := some 80, op := Op.call { callee := Callee.value (Operand.func 44), args := #[Operand.tmp 79], argTypes := #[9] }, type := 3, pos := "ref.go:243", after := #[{ on := 10, ground := Ground.data }, { on := 7, ground := Ground.chain }], guard := none }, { dst := some 81, op := Op.move (Operand.tmp 5), type := 3, pos := "ref.go:243", after := #[], guard := none }, { dst := some 82, op := Op.move (Operand.tmp 6), type := 3, pos := "ref.go:243", after := #[], guard := none }, { dst := some 83, op := Op.move (Operand.tmp 7), type := 3, pos := "ref.go:243", after := #[], guard := none }, { dst := some 84, op := Op.move (Operand.tmp 8), type := 3, pos := "ref.go:243", after := #[], guard := none }, { dst := some 85, op := Op.build 29 #[(0, Operand.tmp 72), (1, Operand.tmp 76), (2, Operand.tmp 80), (3, Operand.tmp 81), (4, Operand.tmp 82), (5, Operand.tmp 83), (6, Operand.tmp 84)], type := 29, pos := "ref.go:243", after := #[{ on := 3, ground := Ground.data }, { on := 7, ground := Ground.data }, { on := 11, ground := Ground.data }, { on := 12, ground := Ground.data }, { on := 13, ground := Ground.data }, { on := 14, ground := Ground.data }, { on := 15, ground := Ground.data }], guard := none }, { dst := some 10, op := Op.alloc 29, type := 0, pos := "ref.go:243", after := #[], guard := none }, { dst := none, op := Op.store 29 (Operand.tmp 10) (Operand.tmp 85), type := 0, pos := "ref.go:243", after := #[{ on := 17, ground := Ground.data }, { on := 16, ground := Ground.data }, { on := 11, ground := Ground.chain }, { on := 0, ground := Ground.phase }, { on := 1, ground := Ground.phase }, { on := 2, ground := Ground.phase }, { on := 3, ground := Ground.phase }, { on := 4, ground := Ground.phase }, { on := 5, ground := Ground.phase }, { on := 6, ground := Ground.phase }, { on := 7, ground := Ground.phase }, { on := 8, ground := Ground.phase }, { on := 9, ground := Ground.phase }, { on := 10, ground := Ground.phase }, { on := 11, ground := Ground.phase }, { on := 12, ground := Ground.phase }, { on := 13, ground := Ground.phase }, { on := 14, ground := Ground.phase }, { on := 15, ground := Ground.phase }, { on := 16, ground := Ground.phase }, { on := 17, ground := Ground.phase }], guard := none }] true).wp Tryd.prog (fun e a' W => e = .normal ∧ ∃ g', a' = ⟨#[s0, s1, s2, s3, .slice (some ⟨g, 1, none⟩) 5 c, .int .i64 ch, .int .i64 cm, .int .i64 cs, .int .i64 zz, s9, .pointer (some ⟨g', 0, none⟩), s11, s12, s13, s14, s15, s16, s17, s18, s19, s20, s21, s22, s23, s24, s25, s26, s27, s28, s29, s30, s31, s32, s33, s34, s35, s36, s37, s38, s39, s40, s41, s42, s43, s44, s45, s46, s47, s48, s49, s50, s51, s52, s53, s54, s55, s56, s57, s58, s59, s60, s61, s62, s63, s64, s65, s66, s67, s68, .slice (some ⟨g, 1, none⟩) 5 c, .pointer (some ⟨g, 3, none⟩), .string (str k2), .int .i64 (numR k2), .slice (some ⟨g, 1, none⟩) 5 c, .pointer (some ⟨g, 2, none⟩), .string (str k1), .int .i64 (monthR k1), .slice (some ⟨g, 1, none⟩) 5 c, .pointer (some ⟨g, 1, none⟩), .string (str k0), .int .i64 (numR k0), .int .i64 ch, .int .i64 cm, .int .i64 cs, .int .i64 zz, .agg #[.int .i64 (numR k2), .int .i64 (monthR k1), .int .i64 (numR k0), .int .i64 ch, .int .i64 cm, .int .i64 cs, .int .i64 zz], s86, s87, s88, s89, s90, s91, s92, s93, s94], []⟩ ∧ W.heap[g']? = some (.cells (dtL ⟨numR k2, monthR k1, numR k0, ch, cm, cs, zz⟩).toArray 29 (0, 0)) ∧ Below w.heap.size w W) ⟨#[s0, s1, s2, s3, .slice (some ⟨g, 1, none⟩) 5 c, .int .i64 ch, .int .i64 cm, .int .i64 cs, .int .i64 zz, s9, s10, s11, s12, s13, s14, s15, s16, s17, s18, s19, s20, s21, s22, s23, s24, s25, s26, s27, s28, s29, s30, s31, s32, s33, s34, s35, s36, s37, s38, s39, s40, s41, s42, s43, s44, s45, s46, s47, s48, s49, s50, s51, s52, s53, s54, s55, s56, s57, s58, s59, s60, s61, s62, s63, s64, s65, s66, s67, s68, s69, s70, s71, s72, s73, s74, s75, s76, s77, s78, s79, s80, s81, s82, s83, s84, s85, s86, s87, s88, s89, s90, s91, s92, s93, s94], []⟩ w := by
  have hl0 := World.block_lt_of_cell? w ⟨g, 1, none⟩ q0
  refine wp_region_held_drew (S := fun Y => Below w.heap.size w Y) (by kernel_rfl) ((Below.refl _ _).drew) ?_
  intro hS
  refine anyH_take 0 ⟨some 69, .move (.tmp 4), _, _, _, none⟩ (.slice (some ⟨g, 1, none⟩) 5 c) rfl rfl (by kernel_rfl) (by kernel_rfl) (by kernel_rfl) (fun _ _ _ h => nomatch h.1) (fun _ _ => rfl) hS ?_
  simp only [Act.put, List.setIfInBounds_toArray, List.set_cons_zero, List.set_cons_succ]
  refine anyH_take 1 ⟨some 70, .indexAddr 64 (.tmp 69) (.const (.int .i64 2)), _, _, _, none⟩ (.pointer (some ⟨g, 3, none⟩)) rfl rfl (by kernel_rfl) (by kernel_rfl) (by kernel_rfl) (fun _ _ _ h => nomatch h.1) (fun _ _ => exec_v (by kernel_rfl)) hS ?_
  simp only [Act.put, List.setIfInBounds_toArray, List.set_cons_zero, List.set_cons_succ]
  refine anyH_take 2 ⟨some 71, .load 9 (.tmp 70), _, _, _, none⟩ (.string (str k2)) rfl rfl (by kernel_rfl) (by kernel_rfl) (by kernel_rfl) (fun _ _ _ h => nomatch h.1) (fun Y hY => exec_v (load9 ((World.cell?_of_block (hY.block g hl0)).trans q2))) hS ?_
  simp only [Act.put, List.setIfInBounds_toArray, List.set_cons_zero, List.set_cons_succ]
  refine anyH_take 4 ⟨some 73, .move (.tmp 4), _, _, _, none⟩ (.slice (some ⟨g, 1, none⟩) 5 c) rfl rfl (by kernel_rfl) (by kernel_rfl) (by kernel_rfl) (fun _ _ _ h => nomatch h.1) (fun _ _ => rfl) hS ?_
  simp only [Act.put, List.setIfInBounds_toArray, List.set_cons_zero, List.set_cons_succ]
  refine anyH_take 5 ⟨some 74, .indexAddr 64 (.tmp 73) (.const (.int .i64 1)), _, _, _, none⟩ (.pointer (some ⟨g, 2, none⟩)) rfl rfl (by kernel_rfl) (by kernel_rfl) (by kernel_rfl) (fun _ _ _ h => nomatch h.1) (fun _ _ => exec_v (by kernel_rfl)) hS ?_
  simp only [Act.put, List.setIfInBounds_toArray, List.set_cons_zero, List.set_cons_succ]
  refine anyH_take 6 ⟨some 75, .load 9 (.tmp 74), _, _, _, none⟩ (.string (str k1)) rfl rfl (by kernel_rfl) (by kernel_rfl) (by kernel_rfl) (fun _ _ _ h => nomatch h.1) (fun Y hY => exec_v (load9 ((World.cell?_of_block (hY.block g hl0)).trans q1))) hS ?_
  simp only [Act.put, List.setIfInBounds_toArray, List.set_cons_zero, List.set_cons_succ]
  refine anyH_take 8 ⟨some 77, .move (.tmp 4), _, _, _, none⟩ (.slice (some ⟨g, 1, none⟩) 5 c) rfl rfl (by kernel_rfl) (by kernel_rfl) (by kernel_rfl) (fun _ _ _ h => nomatch h.1) (fun _ _ => rfl) hS ?_
  simp only [Act.put, List.setIfInBounds_toArray, List.set_cons_zero, List.set_cons_succ]
  refine anyH_take 9 ⟨some 78, .indexAddr 64 (.tmp 77) (.const (.int .i64 0)), _, _, _, none⟩ (.pointer (some ⟨g, 1, none⟩)) rfl rfl (by kernel_rfl) (by kernel_rfl) (by kernel_rfl) (fun _ _ _ h => nomatch h.1) (fun _ _ => exec_v (by kernel_rfl)) hS ?_
  simp only [Act.put, List.setIfInBounds_toArray, List.set_cons_zero, List.set_cons_succ]
  refine anyH_take 10 ⟨some 79, .load 9 (.tmp 78), _, _, _, none⟩ (.string (str k0)) rfl rfl (by kernel_rfl) (by kernel_rfl) (by kernel_rfl) (fun _ _ _ h => nomatch h.1) (fun Y hY => exec_v (load9 ((World.cell?_of_block (hY.block g hl0)).trans q0))) hS ?_
  simp only [Act.put, List.setIfInBounds_toArray, List.set_cons_zero, List.set_cons_succ]
  refine anyH_take 12 ⟨some 81, .move (.tmp 5), _, _, _, none⟩ (.int .i64 ch) rfl rfl (by kernel_rfl) (by kernel_rfl) (by kernel_rfl) (fun _ _ _ h => nomatch h.1) (fun _ _ => rfl) hS ?_
  simp only [Act.put, List.setIfInBounds_toArray, List.set_cons_zero, List.set_cons_succ]
  refine anyH_take 13 ⟨some 82, .move (.tmp 6), _, _, _, none⟩ (.int .i64 cm) rfl rfl (by kernel_rfl) (by kernel_rfl) (by kernel_rfl) (fun _ _ _ h => nomatch h.1) (fun _ _ => rfl) hS ?_
  simp only [Act.put, List.setIfInBounds_toArray, List.set_cons_zero, List.set_cons_succ]
  refine anyH_take 14 ⟨some 83, .move (.tmp 7), _, _, _, none⟩ (.int .i64 cs) rfl rfl (by kernel_rfl) (by kernel_rfl) (by kernel_rfl) (fun _ _ _ h => nomatch h.1) (fun _ _ => rfl) hS ?_
  simp only [Act.put, List.setIfInBounds_toArray, List.set_cons_zero, List.set_cons_succ]
  refine anyH_take 15 ⟨some 84, .move (.tmp 8), _, _, _, none⟩ (.int .i64 zz) rfl rfl (by kernel_rfl) (by kernel_rfl) (by kernel_rfl) (fun _ _ _ h => nomatch h.1) (fun _ _ => rfl) hS ?_
  simp only [Act.put, List.setIfInBounds_toArray, List.set_cons_zero, List.set_cons_succ]
  refine anyH_two 3 17 (by kernel_rfl) ?_ ?_
  · refine wpOp_callW (o := ⟨some 72, .call { callee := .value (.func 44), args := #[.tmp 71], argTypes := #[9] }, _, _, _, none⟩) (f := 44) (args := #[.string (str k2)]) rfl rfl (by kernel_rfl) ?_
    refine (rnumber_any k2 b2 _).mono ?_
    rintro e Y1 ⟨rfl, hY1⟩
    rw [hY1]
    refine ⟨_, rfl, hS, ?_⟩
    simp only [Act.put, List.setIfInBounds_toArray, List.set_cons_zero, List.set_cons_succ]
    refine anyH_two 7 17 (by kernel_rfl) ?_ ?_
    · refine wpOp_callW (o := ⟨some 76, .call { callee := .value (.func 45), args := #[.tmp 75], argTypes := #[9] }, _, _, _, none⟩) (f := 45) (args := #[.string (str k1)]) rfl rfl (by kernel_rfl) ?_
      refine (rmonth_any k1 b1 _).mono ?_
      rintro e Y2 ⟨rfl, hY2⟩
      have hT2 : Below w.heap.size w Y2 := hS.trans (hY2.mono hS.size)
      refine ⟨_, rfl, hT2, ?_⟩
      simp only [Act.put, List.setIfInBounds_toArray, List.set_cons_zero, List.set_cons_succ]
      refine anyH_two 11 17 (by kernel_rfl) ?_ ?_
      · refine wpOp_callW (o := ⟨some 80, .call { callee := .value (.func 44), args := #[.tmp 79], argTypes := #[9] }, _, _, _, none⟩) (f := 44) (args := #[.string (str k0)]) rfl rfl (by kernel_rfl) ?_
        refine (rnumber_any k0 b0 _).mono ?_
        rintro e Y3 ⟨rfl, hY3⟩
        rw [hY3]
        refine ⟨_, rfl, hT2, ?_⟩
        simp only [Act.put, List.setIfInBounds_toArray, List.set_cons_zero, List.set_cons_succ]
        refine anyH_take 16 ⟨some 85, .build 29 #[(0, .tmp 72), (1, .tmp 76), (2, .tmp 80), (3, .tmp 81), (4, .tmp 82), (5, .tmp 83), (6, .tmp 84)], _, _, _, none⟩ (.agg #[.int .i64 (numR k2), .int .i64 (monthR k1), .int .i64 (numR k0), .int .i64 ch, .int .i64 cm, .int .i64 cs, .int .i64 zz]) rfl rfl (by kernel_rfl) (by kernel_rfl) (by kernel_rfl) (fun _ _ _ h => nomatch h.1) (fun _ _ => exec_v (by kernel_rfl)) hT2 ?_
        simp only [Act.put, List.setIfInBounds_toArray, List.set_cons_zero, List.set_cons_succ]
        have hG4 : (Y2.alloc (.cells (dtL Dt.zero).toArray 29)).heap[Y2.heap.size]? = some (.cells (dtL Dt.zero).toArray 29 (0, 0)) := heap_alloc_new _ _
        have hS4 : Below w.heap.size w (Y2.alloc (.cells (dtL Dt.zero).toArray 29)) := hT2.alloc hT2.size _
        have hge4 : w.heap.size ≤ Y2.heap.size := hT2.size
        refine anyH_one 17 ⟨some 10, .alloc 29, _, _, _, none⟩ (.pointer (some ⟨Y2.heap.size, 0, none⟩)) (Y2.alloc (.cells (dtL Dt.zero).toArray 29)) (by kernel_rfl) rfl rfl (exec_alloc29 _) hS4 ?_
        simp only [Act.put, List.setIfInBounds_toArray, List.set_cons_zero, List.set_cons_succ]
        have e5 := putD_is (Y2.alloc (.cells (dtL Dt.zero).toArray 29)) (Y2.heap.size) Dt.zero ⟨numR k2, monthR k1, numR k0, ch, cm, cs, zz⟩ hG4
        have hf5 : Below w.heap.size w (putD (Y2.alloc (.cells (dtL Dt.zero).toArray 29)) (Y2.heap.size) ⟨numR k2, monthR k1, numR k0, ch, cm, cs, zz⟩) := below_kept hS4 e5.2.2 (by simp only [List.mem_singleton, forall_eq]; exact hge4) hS4.size
        refine anyH_oneSkip 18 ⟨none, .store 29 (.tmp 10) (.tmp 85), _, _, _, none⟩ (putD (Y2.alloc (.cells (dtL Dt.zero).toArray 29)) (Y2.heap.size) ⟨numR k2, monthR k1, numR k0, ch, cm, cs, zz⟩) (by kernel_rfl) rfl rfl (exec_store29m (r := ⟨numR k2, monthR k1, numR k0, ch, cm, cs, zz⟩) rfl rfl hG4) hf5 ?_
        refine wpAnyH_done (by kernel_rfl) ?_ _
        exact ⟨rfl, Y2.heap.size, rfl, e5.1, hf5⟩
      · have hG6 : (Y2.alloc (.cells (dtL Dt.zero).toArray 29)).heap[Y2.heap.size]? = some (.cells (dtL Dt.zero).toArray 29 (0, 0)) := heap_alloc_new _ _
        have hS6 : Below w.heap.size w (Y2.alloc (.cells (dtL Dt.zero).toArray 29)) := hT2.alloc hT2.size _
        have hge6 : w.heap.size ≤ Y2.heap.size := hT2.size
        refine wpOp_run (o := ⟨some 10, .alloc 29, _, _, _, none⟩) (v := .pointer (some ⟨Y2.heap.size, 0, none⟩)) (w' := Y2.alloc (.cells (dtL Dt.zero).toArray 29)) rfl rfl (exec_alloc29 _) ⟨hS6, ?_⟩
        simp only [Act.put, List.setIfInBounds_toArray, List.set_cons_zero, List.set_cons_succ]
        refine anyH_callW 11 ⟨some 80, .call { callee := .value (.func 44), args := #[.tmp 79], argTypes := #[9] }, _, _, _, none⟩ 44 #[.string (str k0)] (by kernel_rfl) rfl rfl (by kernel_rfl) ?_
        refine (rnumber_any k0 b0 _).mono ?_
        rintro e Y7 ⟨rfl, hY7⟩
        rw [hY7]
        refine ⟨_, rfl, hS6, ?_⟩
        simp only [Act.put, List.setIfInBounds_toArray, List.set_cons_zero, List.set_cons_succ]
        refine anyH_take 16 ⟨some 85, .build 29 #[(0, .tmp 72), (1, .tmp 76), (2, .tmp 80), (3, .tmp 81), (4, .tmp 82), (5, .tmp 83), (6, .tmp 84)], _, _, _, none⟩ (.agg #[.int .i64 (numR k2), .int .i64 (monthR k1), .int .i64 (numR k0), .int .i64 ch, .int .i64 cm, .int .i64 cs, .int .i64 zz]) rfl rfl (by kernel_rfl) (by kernel_rfl) (by kernel_rfl) (fun _ _ _ h => nomatch h.1) (fun _ _ => exec_v (by kernel_rfl)) hS6 ?_
        simp only [Act.put, List.setIfInBounds_toArray, List.set_cons_zero, List.set_cons_succ]
        have e8 := putD_is (Y2.alloc (.cells (dtL Dt.zero).toArray 29)) (Y2.heap.size) Dt.zero ⟨numR k2, monthR k1, numR k0, ch, cm, cs, zz⟩ hG6
        have hf8 : Below w.heap.size w (putD (Y2.alloc (.cells (dtL Dt.zero).toArray 29)) (Y2.heap.size) ⟨numR k2, monthR k1, numR k0, ch, cm, cs, zz⟩) := below_kept hS6 e8.2.2 (by simp only [List.mem_singleton, forall_eq]; exact hge6) hS6.size
        refine anyH_oneSkip 18 ⟨none, .store 29 (.tmp 10) (.tmp 85), _, _, _, none⟩ (putD (Y2.alloc (.cells (dtL Dt.zero).toArray 29)) (Y2.heap.size) ⟨numR k2, monthR k1, numR k0, ch, cm, cs, zz⟩) (by kernel_rfl) rfl rfl (exec_store29m (r := ⟨numR k2, monthR k1, numR k0, ch, cm, cs, zz⟩) rfl rfl hG6) hf8 ?_
        refine wpAnyH_done (by kernel_rfl) ?_ _
        exact ⟨rfl, Y2.heap.size, rfl, e8.1, hf8⟩
    · have hG9 : (w.drew.alloc (.cells (dtL Dt.zero).toArray 29)).heap[w.drew.heap.size]? = some (.cells (dtL Dt.zero).toArray 29 (0, 0)) := heap_alloc_new _ _
      have hS9 : Below w.heap.size w (w.drew.alloc (.cells (dtL Dt.zero).toArray 29)) := hS.alloc hS.size _
      have hge9 : w.heap.size ≤ w.drew.heap.size := hS.size
      refine wpOp_run (o := ⟨some 10, .alloc 29, _, _, _, none⟩) (v := .pointer (some ⟨w.drew.heap.size, 0, none⟩)) (w' := w.drew.alloc (.cells (dtL Dt.zero).toArray 29)) rfl rfl (exec_alloc29 _) ⟨hS9, ?_⟩
      simp only [Act.put, List.setIfInBounds_toArray, List.set_cons_zero, List.set_cons_succ]
      refine anyH_callW 7 ⟨some 76, .call { callee := .value (.func 45), args := #[.tmp 75], argTypes := #[9] }, _, _, _, none⟩ 45 #[.string (str k1)] (by kernel_rfl) rfl rfl (by kernel_rfl) ?_
      refine (rmonth_any k1 b1 _).mono ?_
      rintro e Y10 ⟨rfl, hY10⟩
      have hT10 : Below w.heap.size w Y10 := hS9.trans (hY10.mono hS9.size)
      have hH10 := (hY10.block _ (lt_of_some hG9)).trans hG9
      refine ⟨_, rfl, hT10, ?_⟩
      simp only [Act.put, List.setIfInBounds_toArray, List.set_cons_zero, List.set_cons_succ]
      refine anyH_callW 11 ⟨some 80, .call { callee := .value (.func 44), args := #[.tmp 79], argTypes := #[9] }, _, _, _, none⟩ 44 #[.string (str k0)] (by kernel_rfl) rfl rfl (by kernel_rfl) ?_
      refine (rnumber_any k0 b0 _).mono ?_
      rintro e Y11 ⟨rfl, hY11⟩
      rw [hY11]
      refine ⟨_, rfl, hT10, ?_⟩
      simp only [Act.put, List.setIfInBounds_toArray, List.set_cons_zero, List.set_cons_succ]
      refine anyH_take 16 ⟨some 85, .build 29 #[(0, .tmp 72), (1, .tmp 76), (2, .tmp 80), (3, .tmp 81), (4, .tmp 82), (5, .tmp 83), (6, .tmp 84)], _, _, _, none⟩ (.agg #[.int .i64 (numR k2), .int .i64 (monthR k1), .int .i64 (numR k0), .int .i64 ch, .int .i64 cm, .int .i64 cs, .int .i64 zz]) rfl rfl (by kernel_rfl) (by kernel_rfl) (by kernel_rfl) (fun _ _ _ h => nomatch h.1) (fun _ _ => exec_v (by kernel_rfl)) hT10 ?_
      simp only [Act.put, List.setIfInBounds_toArray, List.set_cons_zero, List.set_cons_succ]
      have e12 := putD_is Y10 (w.drew.heap.size) Dt.zero ⟨numR k2, monthR k1, numR k0, ch, cm, cs, zz⟩ hH10
      have hf12 : Below w.heap.size w (putD Y10 (w.drew.heap.size) ⟨numR k2, monthR k1, numR k0, ch, cm, cs, zz⟩) := below_kept hT10 e12.2.2 (by simp only [List.mem_singleton, forall_eq]; exact hge9) hT10.size
      refine anyH_oneSkip 18 ⟨none, .store 29 (.tmp 10) (.tmp 85), _, _, _, none⟩ (putD Y10 (w.drew.heap.size) ⟨numR k2, monthR k1, numR k0, ch, cm, cs, zz⟩) (by kernel_rfl) rfl rfl (exec_store29m (r := ⟨numR k2, monthR k1, numR k0, ch, cm, cs, zz⟩) rfl rfl hH10) hf12 ?_
      refine wpAnyH_done (by kernel_rfl) ?_ _
      exact ⟨rfl, w.drew.heap.size, rfl, e12.1, hf12⟩
  · have hG13 : (w.drew.alloc (.cells (dtL Dt.zero).toArray 29)).heap[w.drew.heap.size]? = some (.cells (dtL Dt.zero).toArray 29 (0, 0)) := heap_alloc_new _ _
    have hS13 : Below w.heap.size w (w.drew.alloc (.cells (dtL Dt.zero).toArray 29)) := hS.alloc hS.size _
    have hge13 : w.heap.size ≤ w.drew.heap.size := hS.size
    refine wpOp_run (o := ⟨some 10, .alloc 29, _, _, _, none⟩) (v := .pointer (some ⟨w.drew.heap.size, 0, none⟩)) (w' := w.drew.alloc (.cells (dtL Dt.zero).toArray 29)) rfl rfl (exec_alloc29 _) ⟨hS13, ?_⟩
    simp only [Act.put, List.setIfInBounds_toArray, List.set_cons_zero, List.set_cons_succ]
    refine anyH_callW 3 ⟨some 72, .call { callee := .value (.func 44), args := #[.tmp 71], argTypes := #[9] }, _, _, _, none⟩ 44 #[.string (str k2)] (by kernel_rfl) rfl rfl (by kernel_rfl) ?_
    refine (rnumber_any k2 b2 _).mono ?_
    rintro e Y14 ⟨rfl, hY14⟩
    rw [hY14]
    refine ⟨_, rfl, hS13, ?_⟩
    simp only [Act.put, List.setIfInBounds_toArray, List.set_cons_zero, List.set_cons_succ]
    refine anyH_callW 7 ⟨some 76, .call { callee := .value (.func 45), args := #[.tmp 75], argTypes := #[9] }, _, _, _, none⟩ 45 #[.string (str k1)] (by kernel_rfl) rfl rfl (by kernel_rfl) ?_
    refine (rmonth_any k1 b1 _).mono ?_
    rintro e Y15 ⟨rfl, hY15⟩
    have hT15 : Below w.heap.size w Y15 := hS13.trans (hY15.mono hS13.size)
    have hH15 := (hY15.block _ (lt_of_some hG13)).trans hG13
    refine ⟨_, rfl, hT15, ?_⟩
    simp only [Act.put, List.setIfInBounds_toArray, List.set_cons_zero, List.set_cons_succ]
    refine anyH_callW 11 ⟨some 80, .call { callee := .value (.func 44), args := #[.tmp 79], argTypes := #[9] }, _, _, _, none⟩ 44 #[.string (str k0)] (by kernel_rfl) rfl rfl (by kernel_rfl) ?_
    refine (rnumber_any k0 b0 _).mono ?_
    rintro e Y16 ⟨rfl, hY16⟩
    rw [hY16]
    refine ⟨_, rfl, hT15, ?_⟩
    simp only [Act.put, List.setIfInBounds_toArray, List.set_cons_zero, List.set_cons_succ]
    refine anyH_take 16 ⟨some 85, .build 29 #[(0, .tmp 72), (1, .tmp 76), (2, .tmp 80), (3, .tmp 81), (4, .tmp 82), (5, .tmp 83), (6, .tmp 84)], _, _, _, none⟩ (.agg #[.int .i64 (numR k2), .int .i64 (monthR k1), .int .i64 (numR k0), .int .i64 ch, .int .i64 cm, .int .i64 cs, .int .i64 zz]) rfl rfl (by kernel_rfl) (by kernel_rfl) (by kernel_rfl) (fun _ _ _ h => nomatch h.1) (fun _ _ => exec_v (by kernel_rfl)) hT15 ?_
    simp only [Act.put, List.setIfInBounds_toArray, List.set_cons_zero, List.set_cons_succ]
    have e17 := putD_is Y15 (w.drew.heap.size) Dt.zero ⟨numR k2, monthR k1, numR k0, ch, cm, cs, zz⟩ hH15
    have hf17 : Below w.heap.size w (putD Y15 (w.drew.heap.size) ⟨numR k2, monthR k1, numR k0, ch, cm, cs, zz⟩) := below_kept hT15 e17.2.2 (by simp only [List.mem_singleton, forall_eq]; exact hge13) hT15.size
    refine anyH_oneSkip 18 ⟨none, .store 29 (.tmp 10) (.tmp 85), _, _, _, none⟩ (putD Y15 (w.drew.heap.size) ⟨numR k2, monthR k1, numR k0, ch, cm, cs, zz⟩) (by kernel_rfl) rfl rfl (exec_store29m (r := ⟨numR k2, monthR k1, numR k0, ch, cm, cs, zz⟩) rfl rfl hH15) hf17 ?_
    refine wpAnyH_done (by kernel_rfl) ?_ _
    exact ⟨rfl, w.drew.heap.size, rfl, e17.1, hf17⟩
end Go.Proofs.YtnjdgbbdjkhpoaaDoor
