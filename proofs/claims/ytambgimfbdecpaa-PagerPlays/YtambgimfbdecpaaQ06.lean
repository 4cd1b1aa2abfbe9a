/- What this text holds: texts that are laid into a sector under way. -/
import Derived.Test.YtambgimfbdecpaaQ05
import Derived.Lib.BufferWrite
namespace Go.Proofs.Ytambgimfbdecpaa
open Go.RowKit
set_option linter.unusedVariables false

theorem byteCells_bOf (s : ByteArray) : Go.Lib.byteCells s.data.toList = bc (bOf s) := by
  unfold bc bOf Go.Lib.byteCells
  rw [List.map_map]
  rfl

theorem exec_copy {a : Act} {x y : Operand} {u s : Value} {w w' : World} {v : Value} {d : Option Tmp} {t t2 ty : Nat} {pos : String} {af : Array Edge} {g : Option (Nat × Bool)} (hx : a.eval x = u) (hy : a.eval y = s)
    (h : (Builtin.copy_ #[t, t2] ty #[u, s]).run Try.prog w = .ok v w') : (execOp a.eval ⟨d, .call { callee := .builtin .copy, args := #[x, y], argTypes := #[t, t2] }, ty, pos, af, g⟩).run Try.prog w = .ok (.value v) w' := by
  simp only [execOp, resolve, invoke, builtin, Sem.run_bind, Sem.run_pure, Result.andThen_ok, List.map_toArray, List.map_cons, List.map_nil, hx, hy, h]
theorem load3 {b o : Nat} {v : Value} {w : World} (h : w.cell? ⟨b, o, none⟩ = some v) : (Instr.loadAt 3 (.pointer (some ⟨b, o, none⟩))).run Try.prog w = .ok v w := by
  simp [Instr.loadAt, Instr.sureAddr, loadVar, isAgg, run_underlying Try.underlying3, h]
theorem size3 : (Try.prog.info? 3).map (·.size) = some 1 := by kernel_rfl
theorem exec_store3 {a : Act} {x y : Operand} {b o : Nat} {n : Int} {u : Value} {w : World} {d : Option Tmp} {ty : Nat} {pos : String} {af : Array Edge} {gd : Option (Nat × Bool)} (hx : a.eval x = .pointer (some ⟨b, o, none⟩)) (hy : a.eval y = .int .i64 n)
    (h : w.cell? ⟨b, o, none⟩ = some u) (hf : w.frozen? ⟨b, o, none⟩ = false) :
    (execOp a.eval ⟨d, .store 3 x y, ty, pos, af, gd⟩).run Try.prog w = .ok .skip (w.setCell ⟨b, o, none⟩ (.int .i64 n)) := by
  have hs := size3
  cases hq : Try.prog.info? 3 with
  | none => simp [hq] at hs
  | some i =>
    have h1 : i.size = 1 := by simpa [hq] using hs
    have e : (⟨b, o, none⟩ : Addr).add 0 = ⟨b, o, none⟩ := rfl
    simp [execOp, hx, hy, Instr.storeAt, Instr.sureAddr, storeVar, sizeOf, typeInfo, hq, h1, Value.cells, storeCells, e, store, Sem.run, h, hf]
theorem field50a (b : Nat) (w : World) : (Instr.fieldAt 140 (.pointer (some ⟨b, 0, none⟩)) 0).run Try.prog w = .ok (.pointer (some ⟨b, 0, none⟩)) w := by kernel_rfl
theorem field50b (b : Nat) (w : World) : (Instr.fieldAt 140 (.pointer (some ⟨b, 0, none⟩)) 1).run Try.prog w = .ok (.pointer (some ⟨b, 512, none⟩)) w := by kernel_rfl
theorem exec_add3 {a : Act} {x y : Operand} {m n : Int} {w : World} {d : Option Tmp} {ty : Nat} {pos : String} {af : Array Edge} {g : Option (Nat × Bool)} (hx : a.eval x = .int .i64 m) (hy : a.eval y = .int .i64 n) :
    (execOp a.eval ⟨d, .binOp .add 3 x y 3, ty, pos, af, g⟩).run Try.prog w = .ok (.value (.int .i64 (IntKind.i64.wrap (m + n)))) w := by
  simp [execOp, hx, hy, eqGuard, binOp]
  rfl

theorem sc_splice (l : List Int) (next : Nat) (m : List Int) (hl : l.length = 512) (h : next + m.length ≤ 512) :
    (sc l next).take next ++ bc m ++ (sc l next).drop (next + m.length) = sc (splice l next m) next := by
  unfold sc
  rw [bc_splice]
  unfold splice
  rw [List.take_append_of_le_length (by rw [bc_length]; omega), List.drop_append_of_le_length (by rw [bc_length]; omega), bc_length]
  simp
/-- Bytes of a string are laid over those of a sector under way. -/
theorem copy_text {w : World} {b : Nat} {l : List Int} {next : Nat} {s : ByteArray} (h : StripAt w b l next) (hf : next + s.size ≤ 512) :
    (Builtin.copy_ #[46, 9] 3 #[.slice (some ⟨b, next, none⟩) (512 - next) (512 - next), .string s]).run Try.prog w = .ok (goInt s.size) (w.setRow b (sc (splice l next (bOf s)) next).toArray) := by
  have hl := h.len
  have hr := Go.Lib.run_copy_row_string (P := Try.prog) w 46 9 3 5 b next (512 - next) (512 - next) s (sc l next).toArray 142 Try.underlying46 (by kernel_rfl) h.blk (by omega) (by simp [sc, bc_length, hl]; omega)
  rw [hr, byteCells_bOf]
  have e := sc_splice l next (bOf s) hl (by rw [bOf_length]; exact hf)
  rw [bOf_length] at e
  rw [← e]
theorem StripAt.setRow {w : World} {b : Nat} {l m : List Int} {next : Nat} (h : StripAt w b l next) (hm : m.length = 512) : StripAt (w.setRow b (sc m next).toArray) b m next :=
  ⟨setRow_heap _ _ _ _ _ _ h.blk, hm⟩
theorem Kept.setRow {w : World} {b : Nat} (cs : Array Value) : Kept [b] w (w.setRow b cs) :=
  ⟨rfl, rfl, rfl, by simp, fun k _ hk => setRow_other w b k _ (fun e => hk (by simp [e]))⟩

set_option maxRecDepth 100000 in
set_option maxHeartbeats 1000000 in
theorem put_text {w : World} {b : Nat} {l : List Int} {next : Nat} {s : ByteArray} (h : StripAt w b l next) (hf : next + s.size ≤ 512)
    (hsl : ∀ w, (Instr.sliceAt 96 (.pointer (some ⟨b, 0, none⟩)) (some (.int .i64 next)) none none).run Try.prog w = .ok (.slice (some ⟨b, next, none⟩) (512 - next) (512 - next)) w) :
    Calls Try.prog 87 #[.pointer (some ⟨b, 0, none⟩), .string s] w fun e w' => e = .returned (.tuple #[]) ∧ StripAt w' b (splice l next (bOf s)) (next + s.size) ∧ Kept [b] w w' := by
  have hcp := copy_text h.drew hf
  have hlen : (splice l next (bOf s)).length = 512 := by rw [length_splice _ _ _ (by rw [bOf_length, h.len]; exact hf)]; exact h.len
  have h2 := h.drew.setRow hlen
  have hk2 : Kept [b] w (w.drew.setRow b (sc (splice l next (bOf s)) next).toArray) := (Kept.drew [b] w).trans (Kept.setRow _) (fun _ _ h => h)
  have hc0 := h.drew.next_cell
  generalize w.drew.setRow b (sc (splice l next (bOf s)) next).toArray = W2 at hcp h2 hk2
  have hc2 := h2.next_cell
  have hf2 := h2.free 512
  have h3 := h2.setNext (next + s.size)
  have hk3 : Kept [b] w (W2.setCell ⟨b, 512, none⟩ (.int .i64 ((next + s.size : Nat) : Int))) := hk2.trans (Kept.setCell [b] _ _ _ (by simp)) (fun _ _ h => h)
  have hwr : IntKind.i64.wrap ((next : Int) + ((s.size : Nat) : Int)) = ((next + s.size : Nat) : Int) := by rw [wrap_i64 _ (by omega) (by omega)]; omega
  have H3 := hid h3
  have K3 := hid hk3
  clear h h2 hk2 hlen h3 hk3
  go_enter Try.func87, Try.ntmps87
  go_wp2_with fail
  refine wp_region_held_drew (S := fun _ => True) (by kernel_rfl) trivial ?_
  intro _
  refine anyH_take 0 ⟨some 4, .move (.tmp 0), _, _, _, none⟩ (.pointer (some ⟨b, 0, none⟩)) rfl rfl (by kernel_rfl) (by kernel_rfl) (by kernel_rfl) (fun _ _ _ h => h) (fun _ _ => rfl) trivial ?_
  simp only [Act.put, List.setIfInBounds_toArray, List.set_cons_zero, List.set_cons_succ]
  refine anyH_take 1 ⟨some 5, .nilCheck (.tmp 4), _, _, _, none⟩ (.pointer (some ⟨b, 0, none⟩)) rfl rfl (by kernel_rfl) (by kernel_rfl) (by kernel_rfl) (fun _ _ _ h => h) (fun _ _ => rfl) trivial ?_
  simp only [Act.put, List.setIfInBounds_toArray, List.set_cons_zero, List.set_cons_succ]
  refine anyH_take 2 ⟨some 6, .fieldAddr 140 (.tmp 5) 1, _, _, _, none⟩ (.pointer (some ⟨b, 512, none⟩)) rfl rfl (by kernel_rfl) (by kernel_rfl) (by kernel_rfl) (fun _ _ _ h => h) (fun w _ => exec_v (field50b b w)) trivial ?_
  simp only [Act.put, List.setIfInBounds_toArray, List.set_cons_zero, List.set_cons_succ]
  refine anyH_take 4 ⟨some 8, .move (.tmp 0), _, _, _, none⟩ (.pointer (some ⟨b, 0, none⟩)) rfl rfl (by kernel_rfl) (by kernel_rfl) (by kernel_rfl) (fun _ _ _ h => h) (fun _ _ => rfl) trivial ?_
  simp only [Act.put, List.setIfInBounds_toArray, List.set_cons_zero, List.set_cons_succ]
  refine anyH_take 5 ⟨some 9, .nilCheck (.tmp 8), _, _, _, none⟩ (.pointer (some ⟨b, 0, none⟩)) rfl rfl (by kernel_rfl) (by kernel_rfl) (by kernel_rfl) (fun _ _ _ h => h) (fun _ _ => rfl) trivial ?_
  simp only [Act.put, List.setIfInBounds_toArray, List.set_cons_zero, List.set_cons_succ]
  refine anyH_take 6 ⟨some 10, .fieldAddr 140 (.tmp 9) 0, _, _, _, none⟩ (.pointer (some ⟨b, 0, none⟩)) rfl rfl (by kernel_rfl) (by kernel_rfl) (by kernel_rfl) (fun _ _ _ h => h) (fun w _ => exec_v (field50a b w)) trivial ?_
  simp only [Act.put, List.setIfInBounds_toArray, List.set_cons_zero, List.set_cons_succ]
  refine anyH_take 7 ⟨some 11, .move (.tmp 0), _, _, _, none⟩ (.pointer (some ⟨b, 0, none⟩)) rfl rfl (by kernel_rfl) (by kernel_rfl) (by kernel_rfl) (fun _ _ _ h => h) (fun _ _ => rfl) trivial ?_
  simp only [Act.put, List.setIfInBounds_toArray, List.set_cons_zero, List.set_cons_succ]
  refine anyH_take 8 ⟨some 12, .nilCheck (.tmp 11), _, _, _, none⟩ (.pointer (some ⟨b, 0, none⟩)) rfl rfl (by kernel_rfl) (by kernel_rfl) (by kernel_rfl) (fun _ _ _ h => h) (fun _ _ => rfl) trivial ?_
  simp only [Act.put, List.setIfInBounds_toArray, List.set_cons_zero, List.set_cons_succ]
  refine anyH_take 9 ⟨some 13, .fieldAddr 140 (.tmp 12) 1, _, _, _, none⟩ (.pointer (some ⟨b, 512, none⟩)) rfl rfl (by kernel_rfl) (by kernel_rfl) (by kernel_rfl) (fun _ _ _ h => h) (fun w _ => exec_v (field50b b w)) trivial ?_
  simp only [Act.put, List.setIfInBounds_toArray, List.set_cons_zero, List.set_cons_succ]
  refine anyH_take 12 ⟨some 16, .move (.tmp 1), _, _, _, none⟩ (.string s) rfl rfl (by kernel_rfl) (by kernel_rfl) (by kernel_rfl) (fun _ _ _ h => h) (fun _ _ => rfl) trivial ?_
  simp only [Act.put, List.setIfInBounds_toArray, List.set_cons_zero, List.set_cons_succ]
  refine anyH_two 3 10 (by kernel_rfl) ?_ ?_
  · refine wpOp_run (o := ⟨some 7, .load 3 (.tmp 6), _, _, _, none⟩) rfl rfl (exec_v (load3 hc0)) ⟨trivial, ?_⟩
    simp only [Act.put, List.setIfInBounds_toArray, List.set_cons_zero, List.set_cons_succ]
    refine anyH_one 10 ⟨some 14, .load 3 (.tmp 13), _, _, _, none⟩ (.int .i64 next) w.drew (by kernel_rfl) rfl rfl (exec_v (load3 hc0)) trivial ?_
    simp only [Act.put, List.setIfInBounds_toArray, List.set_cons_zero, List.set_cons_succ]
    refine anyH_take 11 ⟨some 15, .slice 96 (.tmp 10) (some (.tmp 14)) none none, _, _, _, none⟩ (.slice (some ⟨b, next, none⟩) (512 - next) (512 - next)) rfl rfl (by kernel_rfl) (by kernel_rfl) (by kernel_rfl) (fun _ _ _ h => h) (fun w _ => exec_v (hsl w)) trivial ?_
    simp only [Act.put, List.setIfInBounds_toArray, List.set_cons_zero, List.set_cons_succ]
    refine anyH_one 13 ⟨some 17, .call { callee := .builtin .copy, args := #[.tmp 15, .tmp 16], argTypes := #[46, 9] }, _, _, _, none⟩ (goInt s.size) W2 (by kernel_rfl) rfl rfl (exec_copy (u := .slice (some ⟨b, next, none⟩) (512 - next) (512 - next)) (s := .string s) rfl rfl hcp) trivial ?_
    simp only [Act.put, List.setIfInBounds_toArray, List.set_cons_zero, List.set_cons_succ]
    refine anyH_one 14 ⟨some 18, .binOp .add 3 (.tmp 7) (.tmp 17) 3, _, _, _, none⟩ (.int .i64 (IntKind.i64.wrap ((next : Int) + ((s.size : Nat) : Int)))) W2 (by kernel_rfl) rfl rfl (exec_add3 rfl rfl) trivial ?_
    simp only [Act.put, List.setIfInBounds_toArray, List.set_cons_zero, List.set_cons_succ]
    refine anyH_one 15 ⟨some 19, .nilCheck (.tmp 4), _, _, _, none⟩ (.pointer (some ⟨b, 0, none⟩)) W2 (by kernel_rfl) rfl rfl rfl trivial ?_
    simp only [Act.put, List.setIfInBounds_toArray, List.set_cons_zero, List.set_cons_succ]
    refine anyH_one 16 ⟨some 20, .fieldAddr 140 (.tmp 19) 1, _, _, _, none⟩ (.pointer (some ⟨b, 512, none⟩)) W2 (by kernel_rfl) rfl rfl (exec_v (field50b b _)) trivial ?_
    simp only [Act.put, List.setIfInBounds_toArray, List.set_cons_zero, List.set_cons_succ]
    refine anyH_oneSkip 17 ⟨none, .store 3 (.tmp 20) (.tmp 18), _, _, _, none⟩ _ (by kernel_rfl) rfl rfl (exec_store3 rfl rfl hc2 hf2) trivial ?_
    refine wpAnyH_done (by kernel_rfl) ?_ _
    go_wp2
    go_end0
    exact ⟨rfl, H3.out, K3.out⟩
  · refine wpOp_run (o := ⟨some 14, .load 3 (.tmp 13), _, _, _, none⟩) rfl rfl (exec_v (load3 hc0)) ⟨trivial, ?_⟩
    simp only [Act.put, List.setIfInBounds_toArray, List.set_cons_zero, List.set_cons_succ]
    refine anyH_take 11 ⟨some 15, .slice 96 (.tmp 10) (some (.tmp 14)) none none, _, _, _, none⟩ (.slice (some ⟨b, next, none⟩) (512 - next) (512 - next)) rfl rfl (by kernel_rfl) (by kernel_rfl) (by kernel_rfl) (fun _ _ _ h => h) (fun w _ => exec_v (hsl w)) trivial ?_
    simp only [Act.put, List.setIfInBounds_toArray, List.set_cons_zero, List.set_cons_succ]
    refine anyH_two 3 13 (by kernel_rfl) ?_ ?_
    · refine wpOp_run (o := ⟨some 7, .load 3 (.tmp 6), _, _, _, none⟩) rfl rfl (exec_v (load3 hc0)) ⟨trivial, ?_⟩
      simp only [Act.put, List.setIfInBounds_toArray, List.set_cons_zero, List.set_cons_succ]
      refine anyH_one 13 ⟨some 17, .call { callee := .builtin .copy, args := #[.tmp 15, .tmp 16], argTypes := #[46, 9] }, _, _, _, none⟩ (goInt s.size) W2 (by kernel_rfl) rfl rfl (exec_copy (u := .slice (some ⟨b, next, none⟩) (512 - next) (512 - next)) (s := .string s) rfl rfl hcp) trivial ?_
      simp only [Act.put, List.setIfInBounds_toArray, List.set_cons_zero, List.set_cons_succ]
      refine anyH_one 14 ⟨some 18, .binOp .add 3 (.tmp 7) (.tmp 17) 3, _, _, _, none⟩ (.int .i64 (IntKind.i64.wrap ((next : Int) + ((s.size : Nat) : Int)))) W2 (by kernel_rfl) rfl rfl (exec_add3 rfl rfl) trivial ?_
      simp only [Act.put, List.setIfInBounds_toArray, List.set_cons_zero, List.set_cons_succ]
      refine anyH_one 15 ⟨some 19, .nilCheck (.tmp 4), _, _, _, none⟩ (.pointer (some ⟨b, 0, none⟩)) W2 (by kernel_rfl) rfl rfl rfl trivial ?_
      simp only [Act.put, List.setIfInBounds_toArray, List.set_cons_zero, List.set_cons_succ]
      refine anyH_one 16 ⟨some 20, .fieldAddr 140 (.tmp 19) 1, _, _, _, none⟩ (.pointer (some ⟨b, 512, none⟩)) W2 (by kernel_rfl) rfl rfl (exec_v (field50b b _)) trivial ?_
      simp only [Act.put, List.setIfInBounds_toArray, List.set_cons_zero, List.set_cons_succ]
      refine anyH_oneSkip 17 ⟨none, .store 3 (.tmp 20) (.tmp 18), _, _, _, none⟩ _ (by kernel_rfl) rfl rfl (exec_store3 rfl rfl hc2 hf2) trivial ?_
      refine wpAnyH_done (by kernel_rfl) ?_ _
      go_wp2
      go_end0
      exact ⟨rfl, H3.out, K3.out⟩
    · refine wpOp_run (o := ⟨some 17, .call { callee := .builtin .copy, args := #[.tmp 15, .tmp 16], argTypes := #[46, 9] }, _, _, _, none⟩) (v := goInt s.size) (w' := W2) rfl rfl (exec_copy (u := .slice (some ⟨b, next, none⟩) (512 - next) (512 - next)) (s := .string s) rfl rfl hcp) ⟨trivial, ?_⟩
      simp only [Act.put, List.setIfInBounds_toArray, List.set_cons_zero, List.set_cons_succ]
      refine anyH_one 3 ⟨some 7, .load 3 (.tmp 6), _, _, _, none⟩ (.int .i64 next) W2 (by kernel_rfl) rfl rfl (exec_v (load3 hc2)) trivial ?_
      simp only [Act.put, List.setIfInBounds_toArray, List.set_cons_zero, List.set_cons_succ]
      refine anyH_one 14 ⟨some 18, .binOp .add 3 (.tmp 7) (.tmp 17) 3, _, _, _, none⟩ (.int .i64 (IntKind.i64.wrap ((next : Int) + ((s.size : Nat) : Int)))) W2 (by kernel_rfl) rfl rfl (exec_add3 rfl rfl) trivial ?_
      simp only [Act.put, List.setIfInBounds_toArray, List.set_cons_zero, List.set_cons_succ]
      refine anyH_one 15 ⟨some 19, .nilCheck (.tmp 4), _, _, _, none⟩ (.pointer (some ⟨b, 0, none⟩)) W2 (by kernel_rfl) rfl rfl rfl trivial ?_
      simp only [Act.put, List.setIfInBounds_toArray, List.set_cons_zero, List.set_cons_succ]
      refine anyH_one 16 ⟨some 20, .fieldAddr 140 (.tmp 19) 1, _, _, _, none⟩ (.pointer (some ⟨b, 512, none⟩)) W2 (by kernel_rfl) rfl rfl (exec_v (field50b b _)) trivial ?_
      simp only [Act.put, List.setIfInBounds_toArray, List.set_cons_zero, List.set_cons_succ]
      refine anyH_oneSkip 17 ⟨none, .store 3 (.tmp 20) (.tmp 18), _, _, _, none⟩ _ (by kernel_rfl) rfl rfl (exec_store3 rfl rfl hc2 hf2) trivial ?_
      refine wpAnyH_done (by kernel_rfl) ?_ _
      go_wp2
      go_end0
      exact ⟨rfl, H3.out, K3.out⟩
set_option maxRecDepth 100000 in
set_option maxHeartbeats 1000000 in
theorem noughts_to {w : World} {b : Nat} {l : List Int} {next at_ : Nat} (h : StripAt w b l next) :
    Calls Try.prog 89 #[.pointer (some ⟨b, 0, none⟩), .int .i64 at_] w fun e w' => e = .returned (.tuple #[]) ∧ StripAt w' b l at_ ∧ Kept [b] w w' := by
  have hc := h.next_cell
  have hf := h.free 512
  have H := hid h
  clear h
  go_enter Try.func89, Try.ntmps89
  go_wp2
  go_end0
  exact ⟨rfl, H.out.setNext at_, Kept.setCell [b] _ _ _ (by simp)⟩

theorem clone_any {w : World} {p : Addr} {l : List Int} {n c : Nat} (h : BAt w (some p) l) (hn : l.length = n) (h1 : 1 ≤ n) (h2 : n ≤ 5000) :
    Calls Try.prog 101 #[.slice (some p) n c] w fun e w' => ∃ g c, e = .returned (.slice (some ⟨g, 0, none⟩) n c) ∧ w.heap.size ≤ g ∧
      w'.ownsRow w.heap.size 5 1 (.slice (some ⟨g, 0, none⟩) n c) n (bc l) ∧ Below w.heap.size w w' := by
  subst hn
  obtain ⟨i, hi, hz0, hz1, hz2⟩ := info_parts Try.info5
  have hnil := fun w : World => Lib.run_eql_slice_nil (P := Try.prog) w
  have hown0 : (w.alloc (.cells #[] 5)).ownsRow w.heap.size 5 1 (.slice (some ⟨w.heap.size, 0, none⟩) 0 0) 0 [] := World.ownsRow_made w #[] 0 (Nat.le_refl _) (by unfold maxLen; omega) (by simp)
  have hc1 : ∀ j v, (bc l)[j]? = some v → (w.alloc (.cells #[] 5)).cell? (p.add j) = some v := by
    intro j v hv
    simp only [bc, List.getElem?_map, Option.map_eq_some_iff] at hv
    obtain ⟨x, hx, rfl⟩ := hv
    obtain ⟨q, hq, hcc⟩ := h j x hx
    obtain rfl := Option.some.inj hq
    rw [World.cell?_alloc_some _ _ _ (by simp [hcc]), hcc]
  have HO := hid hown0
  have HC := hid hc1
  clear hown0 hc1 h
  go_enter Try.func101, Try.ntmps101
  go_wp2_with (at_builtin; refine wpList_append_own _ rfl (.tmp 5) (.tmp 6) 46 rfl w.heap.size 5 i (.int .u8 0) 1 1 Try.underlying46 hi hz0 hz1 hz2 rfl (by omega) (.slice (some ⟨w.heap.size, 0, none⟩) 0 0) 0 [] rfl HO.out p l.length c (bc l) rfl (by rw [bc_length]; omega) HC.out (bc_oneCell _) (by unfold maxLen; omega) (by omega) (by simp) ?_; intro v' w' ho hg hn)
  go_ret
  rw [Nat.zero_add, List.nil_append] at ho
  obtain ⟨g, c, rfl, hgB⟩ := ownsRow_some ho h1
  refine ⟨g, c, rfl, hgB, ho, ?_⟩
  exact ((Below.refl _ _).alloc (Nat.le_refl _) _).grown hg (by simp) (fun k hk => by simp only [Value.ownBlock, Option.some.injEq] at hk; omega)
end Go.Proofs.Ytambgimfbdecpaa
