/- What this text holds: a new disk of the document's own. · What this text holds: Copy of the document's own disk. -/
import Derived.Test.YtambgimfbdecpaaQ19
namespace Go.Proofs.Ytambgimfbdecpaa
open Go.RowKit
set_option linter.unusedVariables false

theorem conv_whole {w : World} {g m c : Nat} {l : List Int} {t : TypeId} (h : w.heap[g]? = some (.cells (bc l).toArray t (0, 0))) (hm : l.length = m) :
    (convert 46 9 (.slice (some ⟨g, 0, none⟩) m c)).run Try.prog w = .ok (.string (strOf l)) w :=
  conv_bytes (fun j x hx => ⟨_, rfl, by
    rw [Addr.add_mid, Nat.zero_add]
    simp only [World.cell?, h]
    have : (bc l)[j]? = some (.int .u8 x) := by rw [bc, List.getElem?_map, hx]; rfl
    simpa using this⟩) hm
theorem Try.info9 : (Try.prog.info? 9).map (fun i => (i.zero, i.size, i.bytes)) = some (some (.string ⟨#[]⟩), 1, 16) := by kernel_rfl
/-- A sector of noughts, as a string. -/
def z0 : ByteArray := strOf (rep 512 0)
theorem strs_zero (n : Nat) : strs n (rep (n * 512) 0) = List.replicate n (.string z0) := by
  apply List.ext_getElem?
  intro j
  by_cases hj : j < n
  · rw [strs_at n _ j hj, sec_rep n j 0 hj, List.getElem?_replicate, if_pos hj]; rfl
  · rw [List.getElem?_eq_none (by rw [strs_length]; omega), List.getElem?_eq_none (by simp; omega)]

theorem field70z (r : Nat) (w : World) : (Instr.fieldAt 86 (.pointer (some ⟨r, 0, none⟩)) 0).run Try.prog w = .ok (.pointer (some ⟨r, 0, none⟩)) w := by kernel_rfl
theorem load67 {b : Nat} {v : Value} {w : World} (h : w.cell? ⟨b, 0, none⟩ = some v) : (Instr.loadAt 56 (.pointer (some ⟨b, 0, none⟩))).run Try.prog w = .ok v w := by
  simp [Instr.loadAt, Instr.sureAddr, loadVar, isAgg, run_underlying Try.underlying56, h]
theorem size67 : (Try.prog.info? 56).map (·.size) = some 1 := by kernel_rfl
theorem exec_store67 {a : Act} {x y : Operand} {b g n c : Nat} {u : Value} {w : World} {d : Option Tmp} {ty : Nat} {pos : String} {af : Array Edge} {gd : Option (Nat × Bool)} (hx : a.eval x = .pointer (some ⟨b, 0, none⟩)) (hy : a.eval y = .slice (some ⟨g, 0, none⟩) n c)
    (h : w.cell? ⟨b, 0, none⟩ = some u) (hf : w.frozen? ⟨b, 0, none⟩ = false) :
    (execOp a.eval ⟨d, .store 56 x y, ty, pos, af, gd⟩).run Try.prog w = .ok .skip (w.setCell ⟨b, 0, none⟩ (.slice (some ⟨g, 0, none⟩) n c)) := by
  have hs := size67
  cases hq : Try.prog.info? 56 with
  | none => simp [hq] at hs
  | some i =>
    have h1 : i.size = 1 := by simpa [hq] using hs
    have e : (⟨b, 0, none⟩ : Addr).add 0 = ⟨b, 0, none⟩ := rfl
    simp [execOp, hx, hy, Instr.storeAt, Instr.sureAddr, storeVar, sizeOf, typeInfo, hq, h1, Value.cells, storeCells, e, store, Sem.run, h, hf]

def rnA (w : World) : World := w.drew.alloc (.cells (bc (rep 512 0)).toArray 5)
def rnB (w : World) : World := (rnA w).alloc (.cells #[.string z0] 9)
theorem rnA_heap (w : World) : (rnA w).heap[w.heap.size]? = some (.cells (bc (rep 512 0)).toArray 5 (0, 0)) := heap_alloc_new w.drew _
theorem rnA_size (w : World) : (rnA w).heap.size = w.heap.size + 1 := by simp [rnA]
theorem rnB_size (w : World) : (rnB w).heap.size = w.heap.size + 2 := by simp [rnB, rnA_size]
theorem rnA_kept (w : World) : Kept [] w (rnA w) := (Kept.drew [] w).trans (Kept.alloc [] _ _) (fun _ _ h => h)
theorem rnB_kept (w : World) : Kept [] w (rnB w) := (rnA_kept w).trans (Kept.alloc [] _ _) (fun _ _ h => h)
theorem slice67k (x : Value) (w : World) (h : x = .string z0) : (Instr.buildSlice 56 1 #[(0, x)]).run Try.prog w = .ok (.slice (some ⟨w.heap.size, 0, none⟩) 1 1) (w.alloc (.cells #[x] 9)) := by
  subst h
  generalize z0 = s
  kernel_rfl
theorem slice67 (w : World) : (Instr.buildSlice 56 1 #[(0, .string z0)]).run Try.prog (rnA w) = .ok (.slice (some ⟨w.heap.size + 1, 0, none⟩) 1 1) (rnB w) := by
  have h := slice67k (.string z0) (rnA w) rfl
  rw [rnA_size] at h
  exact h
theorem rnB_cells (w : World) : ∀ j u, [Value.string z0][j]? = some u → (rnB w).cell? ((⟨w.heap.size + 1, 0, none⟩ : Addr).add j) = some u := by
  intro j u hu
  have h := heap_alloc_new (rnA w) (.cells #[.string z0] 9)
  rw [rnA_size] at h
  rw [Addr.add_mid, Nat.zero_add]
  unfold rnB
  rw [cell_of_row _ _ _ _ _ _ h]
  simpa using hu

/-- The disk under way. -/
structure RGrow (w0 wr : World) (r k : Nat) (v : Value) : Prop where
  blk : wr.heap[r]? = some (.cells #[v, .slice none 0 0, .int .i64 0, .int .i64 (-1), .bool false] 86 (0, 0))
  L : wr.ownsRow (r + 1) 9 1 v k (List.replicate k (.string z0))
  b : Below r w0 wr

theorem rgrow_step {w0 wr : World} {r k : Nat} {v : Value} (h : RGrow w0 wr r k v) (hk : k < 4096) :
    ∃ g c w', (Builtin.append_ #[56, 56] 56 #[v, .slice (some ⟨wr.heap.size + 1, 0, none⟩) 1 1]).run Try.prog (rnB wr) = .ok (.slice (some ⟨g, 0, none⟩) (k + 1) c) w' ∧
      w'.cell? ⟨r, 0, none⟩ = some v ∧ w'.frozen? ⟨r, 0, none⟩ = false ∧ RGrow w0 (w'.setCell ⟨r, 0, none⟩ (.slice (some ⟨g, 0, none⟩) (k + 1) c)) r (k + 1) (.slice (some ⟨g, 0, none⟩) (k + 1) c) := by
  obtain ⟨inf, hin, hz0, hz1, hz2⟩ := info_parts Try.info9
  have hr : r < wr.heap.size := (Array.getElem?_eq_some_iff.1 h.blk).1
  have hL : (rnB wr).ownsRow (r + 1) 9 1 v k (List.replicate k (.string z0)) := ownsRow_block h.L fun i hi => (rnB_kept wr).block i (h.L.lt i hi).2 (by simp)
  obtain ⟨g, c, w', hrun, ho, hg, hlies, hlt⟩ := run_append_lies (P := Try.prog) (rnB wr) 56 56 (r + 1) 9 inf _ 1 16 Try.underlying56 hin hz0 hz1 hz2 rfl (by omega) v _ _ hL
    ⟨wr.heap.size + 1, 0, none⟩ 1 1 [.string z0] rfl (rnB_cells wr) (fun u hu => by
      simp only [List.mem_cons, List.not_mem_nil, or_false] at hu
      subst hu; rfl) (by omega) (by unfold maxLen; omega) (by omega) (by rw [rnB_size]; omega) _ (rnB_size wr)
  have hrow : ∀ q, v.ownBlock = some q → r + 1 ≤ q := fun q hq => (h.L.lt q hq).1
  have hB2 : (rnB wr).heap[r]? = wr.heap[r]? := (rnB_kept wr).block r hr (by simp)
  have hblk : w'.heap[r]? = some (.cells #[v, .slice none 0 0, .int .i64 0, .int .i64 (-1), .bool false] 86 (0, 0)) := by
    rw [hg.block r (by rw [rnB_size]; omega) (fun e => by have := hrow r e.symm; omega), hB2]; exact h.blk
  have hgr : r + 1 ≤ g := by
    rcases hlies with e | e
    · exact hrow g e
    · omega
  have hb1 : Below r w0 (rnB wr) := ((h.b.drew).alloc (by show r ≤ wr.heap.size; omega) _).alloc (by show r ≤ (rnA wr).heap.size; rw [rnA_size]; omega) _
  have hb2 : Below r w0 w' := hb1.grown hg (by rw [rnB_size]; omega) (fun q hq => by have := hrow q hq; omega)
  refine ⟨g, c, w', hrun, by simp [World.cell?, hblk], by simp [World.frozen?, hblk], ?_⟩
  refine ⟨?_, ?_, hb2.setCell (Nat.le_refl _) _⟩
  · simp [World.setCell, Array.getElem?_modify, hblk]
  · rw [List.replicate_succ']
    exact ownsRow_setCell_below ho (by show r < r + 1; omega) _

def RNewPost (w : World) (D : DS) (e : Ending) (w' : World) : Prop :=
  ∃ r own, e = .returned (.tuple #[.pointer (some ⟨r, 0, none⟩), .int .i64 0]) ∧ RDisk w' w.heap.size r own D ∧ Below w.heap.size w w'

set_option maxRecDepth 100000 in
set_option maxHeartbeats 4000000 in
theorem rnew_yes (n : Nat) (w : World) (h1 : 1 ≤ n) (h2 : n ≤ 4096) :
    Calls Try.prog 10 #[.int .i64 n] w (RNewPost w (DS.blank n)) := by
  have g1 : ¬ (n : Int) < 1 := by omega
  have g2 : ¬ (4096 : Int) < n := by omega
  obtain ⟨r, hr⟩ : ∃ r, r = w.heap.size := ⟨_, rfl⟩
  go_enter Try.func10, Try.ntmps10
  go_wp2_with fail
  rw [← hr]
  have hst : RGrow w (w.alloc (.cells #[.slice none 0 0, .slice none 0 0, .int .i64 0, .int .i64 (-1), .bool false] 86)) r 0 (.slice none 0 0) := by
    subst hr
    exact ⟨heap_alloc_new _ _, World.ownsRow_nil _ _ _ _, (Below.refl _ _).alloc (Nat.le_refl _) _⟩
  have HR := hid hr
  have HST := hid hst
  clear hr hst
  go_loopw [5] (fun q wr => ∃ k : Nat, k ≤ n ∧ q = .int .i64 k ∧ ∃ v, RGrow w wr r k v) (fun q _ => n - (intOf q).toNat)
  case atStart => exact ⟨0, by omega, rfl, _, HST.out⟩
  case round =>
    obtain ⟨k, hk, rfl, v, hg⟩ := hrel
    by_cases hlt : k < n
    · obtain ⟨g, c, w', hrun, hc7, hf7, hgr⟩ := rgrow_step hg (by omega)
      have hl0 : wr.drew.cell? ⟨r, 0, none⟩ = some v := by show wr.cell? _ = _; simp [World.cell?, hg.blk]
      have hlA : (rnA wr).cell? ⟨r, 0, none⟩ = some v := (rnA_kept wr).cell hl0 (by simp)
      have hlB : (rnB wr).cell? ⟨r, 0, none⟩ = some v := (rnB_kept wr).cell hl0 (by simp)
      have hfin : ∃ v, RGrow w (w'.setCell ⟨r, 0, none⟩ (.slice (some ⟨g, 0, none⟩) (k + 1) c)) r (k + 1) v := ⟨_, hgr⟩
      have hlt' : (k : Int) < n := by omega
      clear hg hgr HST
      go_wp2_with fail
      refine wp_region_held_drew (S := fun _ => True) (by kernel_rfl) trivial ?_
      intro _
      refine anyH_take 0 ⟨some 19, .move (.tmp 4), _, _, _, none⟩ (.pointer (some ⟨r, 0, none⟩)) rfl rfl (by kernel_rfl) (by kernel_rfl) (by kernel_rfl) (fun _ _ _ h => h) (fun _ _ => rfl) trivial ?_
      simp only [Act.put, List.setIfInBounds_toArray, List.set_cons_zero, List.set_cons_succ]
      refine anyH_take 1 ⟨some 20, .move (.tmp 4), _, _, _, none⟩ (.pointer (some ⟨r, 0, none⟩)) rfl rfl (by kernel_rfl) (by kernel_rfl) (by kernel_rfl) (fun _ _ _ h => h) (fun _ _ => rfl) trivial ?_
      simp only [Act.put, List.setIfInBounds_toArray, List.set_cons_zero, List.set_cons_succ]
      refine anyH_take 2 ⟨some 21, .nilCheck (.tmp 20), _, _, _, none⟩ (.pointer (some ⟨r, 0, none⟩)) rfl rfl (by kernel_rfl) (by kernel_rfl) (by kernel_rfl) (fun _ _ _ h => h) (fun _ _ => rfl) trivial ?_
      simp only [Act.put, List.setIfInBounds_toArray, List.set_cons_zero, List.set_cons_succ]
      refine anyH_take 3 ⟨some 22, .fieldAddr 86 (.tmp 21) 0, _, _, _, none⟩ (.pointer (some ⟨r, 0, none⟩)) rfl rfl (by kernel_rfl) (by kernel_rfl) (by kernel_rfl) (fun _ _ _ h => h) (fun w _ => exec_v (field70z r w)) trivial ?_
      simp only [Act.put, List.setIfInBounds_toArray, List.set_cons_zero, List.set_cons_succ]
      refine anyH_two 4 5 (by kernel_rfl) ?_ ?_
      · refine wpOp_run (o := ⟨some 23, .load 56 (.tmp 22), _, _, _, none⟩) rfl rfl (exec_v (load67 hl0)) ⟨trivial, ?_⟩
        simp only [Act.put, List.setIfInBounds_toArray, List.set_cons_zero, List.set_cons_succ]
        refine anyH_one 5 ⟨some 24, .makeSlice 46 (.const (.int .i64 512)) (.const (.int .i64 512)), _, _, _, none⟩ (.slice (some ⟨wr.heap.size, 0, none⟩) 512 512) (rnA wr) (by kernel_rfl) rfl rfl (exec_v (made_bytes wr.drew)) trivial ?_
        simp only [Act.put, List.setIfInBounds_toArray, List.set_cons_zero, List.set_cons_succ]
        refine anyH_one 6 ⟨some 25, .convert 46 9 (.tmp 24), _, _, _, none⟩ (.string z0) (rnA wr) (by kernel_rfl) rfl rfl (exec_v (conv_whole (rnA_heap wr) (rep_length _ _))) trivial ?_
        simp only [Act.put, List.setIfInBounds_toArray, List.set_cons_zero, List.set_cons_succ]
        refine anyH_one 7 ⟨some 26, .buildSlice 56 1 #[(0, .tmp 25)], _, _, _, none⟩ (.slice (some ⟨wr.heap.size + 1, 0, none⟩) 1 1) (rnB wr) (by kernel_rfl) rfl rfl (exec_buildSlice (X := .string z0) rfl (slice67 wr)) trivial ?_
        simp only [Act.put, List.setIfInBounds_toArray, List.set_cons_zero, List.set_cons_succ]
        refine anyH_one 8 ⟨some 27, .call { callee := .builtin .append, args := #[.tmp 23, .tmp 26], argTypes := #[56, 56] }, _, _, _, none⟩ _ w' (by kernel_rfl) rfl rfl (exec_append (u := v) (s := .slice (some ⟨wr.heap.size + 1, 0, none⟩) 1 1) rfl rfl hrun) trivial ?_
        simp only [Act.put, List.setIfInBounds_toArray, List.set_cons_zero, List.set_cons_succ]
        refine anyH_one 9 ⟨some 28, .nilCheck (.tmp 19), _, _, _, none⟩ (.pointer (some ⟨r, 0, none⟩)) w' (by kernel_rfl) rfl rfl rfl trivial ?_
        simp only [Act.put, List.setIfInBounds_toArray, List.set_cons_zero, List.set_cons_succ]
        refine anyH_one 10 ⟨some 29, .fieldAddr 86 (.tmp 28) 0, _, _, _, none⟩ (.pointer (some ⟨r, 0, none⟩)) w' (by kernel_rfl) rfl rfl (exec_v (field70z r _)) trivial ?_
        simp only [Act.put, List.setIfInBounds_toArray, List.set_cons_zero, List.set_cons_succ]
        refine anyH_oneSkip 11 ⟨none, .store 56 (.tmp 29) (.tmp 27), _, _, _, none⟩ _ (by kernel_rfl) rfl rfl (exec_store67 rfl rfl hc7 hf7) trivial ?_
        refine wpAnyH_done (by kernel_rfl) ?_ _
        go_wp2
        go_roundw
        case rel => exact ⟨k + 1, by omega, by go_num, hfin⟩
        case measure => simp [intOf]; omega
      · refine wpOp_run (o := ⟨some 24, .makeSlice 46 (.const (.int .i64 512)) (.const (.int .i64 512)), _, _, _, none⟩) (v := (.slice (some ⟨wr.heap.size, 0, none⟩) 512 512)) (w' := (rnA wr)) rfl rfl (exec_v (made_bytes wr.drew)) ⟨trivial, ?_⟩
        simp only [Act.put, List.setIfInBounds_toArray, List.set_cons_zero, List.set_cons_succ]
        refine anyH_two 4 6 (by kernel_rfl) ?_ ?_
        · refine wpOp_run (o := ⟨some 23, .load 56 (.tmp 22), _, _, _, none⟩) rfl rfl (exec_v (load67 hlA)) ⟨trivial, ?_⟩
          simp only [Act.put, List.setIfInBounds_toArray, List.set_cons_zero, List.set_cons_succ]
          refine anyH_one 6 ⟨some 25, .convert 46 9 (.tmp 24), _, _, _, none⟩ (.string z0) (rnA wr) (by kernel_rfl) rfl rfl (exec_v (conv_whole (rnA_heap wr) (rep_length _ _))) trivial ?_
          simp only [Act.put, List.setIfInBounds_toArray, List.set_cons_zero, List.set_cons_succ]
          refine anyH_one 7 ⟨some 26, .buildSlice 56 1 #[(0, .tmp 25)], _, _, _, none⟩ (.slice (some ⟨wr.heap.size + 1, 0, none⟩) 1 1) (rnB wr) (by kernel_rfl) rfl rfl (exec_buildSlice (X := .string z0) rfl (slice67 wr)) trivial ?_
          simp only [Act.put, List.setIfInBounds_toArray, List.set_cons_zero, List.set_cons_succ]
          refine anyH_one 8 ⟨some 27, .call { callee := .builtin .append, args := #[.tmp 23, .tmp 26], argTypes := #[56, 56] }, _, _, _, none⟩ _ w' (by kernel_rfl) rfl rfl (exec_append (u := v) (s := .slice (some ⟨wr.heap.size + 1, 0, none⟩) 1 1) rfl rfl hrun) trivial ?_
          simp only [Act.put, List.setIfInBounds_toArray, List.set_cons_zero, List.set_cons_succ]
          refine anyH_one 9 ⟨some 28, .nilCheck (.tmp 19), _, _, _, none⟩ (.pointer (some ⟨r, 0, none⟩)) w' (by kernel_rfl) rfl rfl rfl trivial ?_
          simp only [Act.put, List.setIfInBounds_toArray, List.set_cons_zero, List.set_cons_succ]
          refine anyH_one 10 ⟨some 29, .fieldAddr 86 (.tmp 28) 0, _, _, _, none⟩ (.pointer (some ⟨r, 0, none⟩)) w' (by kernel_rfl) rfl rfl (exec_v (field70z r _)) trivial ?_
          simp only [Act.put, List.setIfInBounds_toArray, List.set_cons_zero, List.set_cons_succ]
          refine anyH_oneSkip 11 ⟨none, .store 56 (.tmp 29) (.tmp 27), _, _, _, none⟩ _ (by kernel_rfl) rfl rfl (exec_store67 rfl rfl hc7 hf7) trivial ?_
          refine wpAnyH_done (by kernel_rfl) ?_ _
          go_wp2
          go_roundw
          case rel => exact ⟨k + 1, by omega, by go_num, hfin⟩
          case measure => simp [intOf]; omega
        · refine wpOp_run (o := ⟨some 25, .convert 46 9 (.tmp 24), _, _, _, none⟩) (v := (.string z0)) (w' := (rnA wr)) rfl rfl (exec_v (conv_whole (rnA_heap wr) (rep_length _ _))) ⟨trivial, ?_⟩
          simp only [Act.put, List.setIfInBounds_toArray, List.set_cons_zero, List.set_cons_succ]
          refine anyH_two 4 7 (by kernel_rfl) ?_ ?_
          · refine wpOp_run (o := ⟨some 23, .load 56 (.tmp 22), _, _, _, none⟩) rfl rfl (exec_v (load67 hlA)) ⟨trivial, ?_⟩
            simp only [Act.put, List.setIfInBounds_toArray, List.set_cons_zero, List.set_cons_succ]
            refine anyH_one 7 ⟨some 26, .buildSlice 56 1 #[(0, .tmp 25)], _, _, _, none⟩ (.slice (some ⟨wr.heap.size + 1, 0, none⟩) 1 1) (rnB wr) (by kernel_rfl) rfl rfl (exec_buildSlice (X := .string z0) rfl (slice67 wr)) trivial ?_
            simp only [Act.put, List.setIfInBounds_toArray, List.set_cons_zero, List.set_cons_succ]
            refine anyH_one 8 ⟨some 27, .call { callee := .builtin .append, args := #[.tmp 23, .tmp 26], argTypes := #[56, 56] }, _, _, _, none⟩ _ w' (by kernel_rfl) rfl rfl (exec_append (u := v) (s := .slice (some ⟨wr.heap.size + 1, 0, none⟩) 1 1) rfl rfl hrun) trivial ?_
            simp only [Act.put, List.setIfInBounds_toArray, List.set_cons_zero, List.set_cons_succ]
            refine anyH_one 9 ⟨some 28, .nilCheck (.tmp 19), _, _, _, none⟩ (.pointer (some ⟨r, 0, none⟩)) w' (by kernel_rfl) rfl rfl rfl trivial ?_
            simp only [Act.put, List.setIfInBounds_toArray, List.set_cons_zero, List.set_cons_succ]
            refine anyH_one 10 ⟨some 29, .fieldAddr 86 (.tmp 28) 0, _, _, _, none⟩ (.pointer (some ⟨r, 0, none⟩)) w' (by kernel_rfl) rfl rfl (exec_v (field70z r _)) trivial ?_
            simp only [Act.put, List.setIfInBounds_toArray, List.set_cons_zero, List.set_cons_succ]
            refine anyH_oneSkip 11 ⟨none, .store 56 (.tmp 29) (.tmp 27), _, _, _, none⟩ _ (by kernel_rfl) rfl rfl (exec_store67 rfl rfl hc7 hf7) trivial ?_
            refine wpAnyH_done (by kernel_rfl) ?_ _
            go_wp2
            go_roundw
            case rel => exact ⟨k + 1, by omega, by go_num, hfin⟩
            case measure => simp [intOf]; omega
          · refine wpOp_run (o := ⟨some 26, .buildSlice 56 1 #[(0, .tmp 25)], _, _, _, none⟩) (v := (.slice (some ⟨wr.heap.size + 1, 0, none⟩) 1 1)) (w' := (rnB wr)) rfl rfl (exec_buildSlice (X := .string z0) rfl (slice67 wr)) ⟨trivial, ?_⟩
            simp only [Act.put, List.setIfInBounds_toArray, List.set_cons_zero, List.set_cons_succ]
            refine anyH_one 4 ⟨some 23, .load 56 (.tmp 22), _, _, _, none⟩ v (rnB wr) (by kernel_rfl) rfl rfl (exec_v (load67 hlB)) trivial ?_
            simp only [Act.put, List.setIfInBounds_toArray, List.set_cons_zero, List.set_cons_succ]
            refine anyH_one 8 ⟨some 27, .call { callee := .builtin .append, args := #[.tmp 23, .tmp 26], argTypes := #[56, 56] }, _, _, _, none⟩ _ w' (by kernel_rfl) rfl rfl (exec_append (u := v) (s := .slice (some ⟨wr.heap.size + 1, 0, none⟩) 1 1) rfl rfl hrun) trivial ?_
            simp only [Act.put, List.setIfInBounds_toArray, List.set_cons_zero, List.set_cons_succ]
            refine anyH_one 9 ⟨some 28, .nilCheck (.tmp 19), _, _, _, none⟩ (.pointer (some ⟨r, 0, none⟩)) w' (by kernel_rfl) rfl rfl rfl trivial ?_
            simp only [Act.put, List.setIfInBounds_toArray, List.set_cons_zero, List.set_cons_succ]
            refine anyH_one 10 ⟨some 29, .fieldAddr 86 (.tmp 28) 0, _, _, _, none⟩ (.pointer (some ⟨r, 0, none⟩)) w' (by kernel_rfl) rfl rfl (exec_v (field70z r _)) trivial ?_
            simp only [Act.put, List.setIfInBounds_toArray, List.set_cons_zero, List.set_cons_succ]
            refine anyH_oneSkip 11 ⟨none, .store 56 (.tmp 29) (.tmp 27), _, _, _, none⟩ _ (by kernel_rfl) rfl rfl (exec_store67 rfl rfl hc7 hf7) trivial ?_
            refine wpAnyH_done (by kernel_rfl) ?_ _
            go_wp2
            go_roundw
            case rel => exact ⟨k + 1, by omega, by go_num, hfin⟩
            case measure => simp [intOf]; omega
    · have e : k = n := by omega
      subst e
      have hlt' : ¬ ((k : Int) < k) := by omega
      have HG := hid hg
      clear hg HST
      go_wp2_with fail
      go_ret2
      have hg := HG.out
      obtain ⟨gl, lc, rfl, hgl⟩ := ownsRow_some hg.L h1
      refine ⟨r, [r, gl], rfl, ⟨gl, lc, .slice none 0 0, ?_, by simp [Value.ownBlock]⟩, by rw [← HR.out]; exact hg.b⟩
      refine { blk := hg.blk, L := ?_, W := World.ownsRow_nil _ _ _ _, ne1 := by omega, ne2 := by simp [Value.ownBlock], ne3 := by simp [Value.ownBlock], hB := by rw [HR.out]; exact Nat.le_refl _, good := DS.blank_good k h1 h2 }
      show wr.ownsRow _ 9 1 _ k (strs k (rep (k * 512) 0))
      rw [strs_zero, ← HR.out]
      exact ownsRow_base hg.L (by omega)

set_option maxHeartbeats 1000000 in
theorem rnew_no (n : Int) (w : World) (h : n < 1 ∨ 4096 < n) :
    Calls Try.prog 10 #[.int .i64 n] w fun e w' => e = .returned (.tuple #[.pointer none, .int .i64 2]) ∧ w' = w := by
  rcases h with h | h
  · go_enter Try.func10, Try.ntmps10
    go_wp2
    go_ret2
    exact ⟨rfl, rfl⟩
  · have h' : ¬ n < 1 := by omega
    go_enter Try.func10, Try.ntmps10
    go_wp2
    go_ret2
    exact ⟨rfl, rfl⟩
end Go.Proofs.Ytambgimfbdecpaa
namespace Go.Proofs.Ytambgimfbdecpaa
open Go.RowKit
set_option linter.unusedVariables false

theorem fieldk70 (r k : Nat) (w : World) (hk : k < 5) : (Instr.fieldAt 86 (.pointer (some ⟨r, 0, none⟩)) k).run Try.prog w = .ok (.pointer (some ⟨r, k, none⟩)) w := by
  rcases (by omega : k = 0 ∨ k = 1 ∨ k = 2 ∨ k = 3 ∨ k = 4) with rfl | rfl | rfl | rfl | rfl <;> kernel_rfl
theorem loadk67 {b k : Nat} {v : Value} {w : World} (h : w.cell? ⟨b, k, none⟩ = some v) : (Instr.loadAt 56 (.pointer (some ⟨b, k, none⟩))).run Try.prog w = .ok v w := by
  simp [Instr.loadAt, Instr.sureAddr, loadVar, isAgg, run_underlying Try.underlying56, h]
theorem loadk68 {b k : Nat} {v : Value} {w : World} (h : w.cell? ⟨b, k, none⟩ = some v) : (Instr.loadAt 84 (.pointer (some ⟨b, k, none⟩))).run Try.prog w = .ok v w := by
  simp [Instr.loadAt, Instr.sureAddr, loadVar, isAgg, run_underlying Try.underlying84, h]
theorem loadk3 {b k : Nat} {v : Value} {w : World} (h : w.cell? ⟨b, k, none⟩ = some v) : (Instr.loadAt 3 (.pointer (some ⟨b, k, none⟩))).run Try.prog w = .ok v w := by
  simp [Instr.loadAt, Instr.sureAddr, loadVar, isAgg, run_underlying Try.underlying3, h]
theorem loadk4 {b k : Nat} {v : Value} {w : World} (h : w.cell? ⟨b, k, none⟩ = some v) : (Instr.loadAt 4 (.pointer (some ⟨b, k, none⟩))).run Try.prog w = .ok v w := by
  simp [Instr.loadAt, Instr.sureAddr, loadVar, isAgg, run_underlying Try.underlying4, h]
theorem mk67 (w : World) : (Instr.buildSlice 56 0 #[]).run Try.prog w = .ok (.slice (some ⟨w.heap.size, 0, none⟩) 0 0) (w.alloc (.cells #[] 9)) := by kernel_rfl
theorem mk68 (w : World) : (Instr.buildSlice 84 0 #[]).run Try.prog w = .ok (.slice (some ⟨w.heap.size, 0, none⟩) 0 0) (w.alloc (.cells #[] 100)) := by kernel_rfl
theorem mk68' (w : World) : (Instr.buildSlice 84 0 #[]).run Try.prog (w.drew.alloc (.cells #[] 9)) = .ok (.slice (some ⟨w.heap.size + 1, 0, none⟩) 0 0) ((w.drew.alloc (.cells #[] 9)).alloc (.cells #[] 100)) := by
  rw [mk68]; simp
theorem mk67' (w : World) : (Instr.buildSlice 56 0 #[]).run Try.prog (w.drew.alloc (.cells #[] 100)) = .ok (.slice (some ⟨w.heap.size + 1, 0, none⟩) 0 0) ((w.drew.alloc (.cells #[] 100)).alloc (.cells #[] 9)) := by
  rw [mk67]; simp
theorem build70 (a b : Option Addr) (n c n' c' : Nat) (s f : Int) (g : Bool) (w : World) : (Instr.build 86 #[(0, .slice a n c), (1, .slice b n' c'), (2, .int .i64 s), (3, .int .i64 f), (4, .bool g)]).run Try.prog w =
    .ok (.agg #[.slice a n c, .slice b n' c', .int .i64 s, .int .i64 f, .bool g]) w := by kernel_rfl
theorem box70 (x0 x1 x2 x3 x4 : Value) (w : World) : (Instr.box 86 (.agg #[x0, x1, x2, x3, x4])).run Try.prog w = .ok (.pointer (some ⟨w.heap.size, 0, none⟩)) (w.alloc (.cells #[x0, x1, x2, x3, x4] 86)) := by kernel_rfl

theorem exec_slice0 {a : Act} {w w' : World} {v : Value} {d : Option Tmp} {t ty : Nat} {pos : String} {af : Array Edge} {g : Option (Nat × Bool)}
    (h : (Instr.buildSlice t 0 #[]).run Try.prog w = .ok v w') : (execOp a.eval ⟨d, .buildSlice t 0 #[], ty, pos, af, g⟩).run Try.prog w = .ok (.value v) w' := by
  simp only [execOp, List.map_toArray, List.map_nil]
  exact exec_v h
theorem exec_build5 {a : Act} {x0 x1 x2 x3 x4 : Operand} {v0 v1 v2 v3 v4 : Value} {w : World} {v : Value} {d : Option Tmp} {t ty : Nat} {pos : String} {af : Array Edge} {g : Option (Nat × Bool)}
    (h0 : a.eval x0 = v0) (h1 : a.eval x1 = v1) (h2 : a.eval x2 = v2) (h3 : a.eval x3 = v3) (h4 : a.eval x4 = v4)
    (h : (Instr.build t #[(0, v0), (1, v1), (2, v2), (3, v3), (4, v4)]).run Try.prog w = .ok v w) : (execOp a.eval ⟨d, .build t #[(0, x0), (1, x1), (2, x2), (3, x3), (4, x4)], ty, pos, af, g⟩).run Try.prog w = .ok (.value v) w := by
  simp only [execOp, List.map_toArray, List.map_cons, List.map_nil, h0, h1, h2, h3, h4]
  exact exec_v h

/-- What is appended to an empty slice is the slice once more, somewhere else. -/
theorem append_copy {t e : Nat} {i : TypeInfo} {z : Value} {size bytes : Nat} (ht : Try.prog.underlying t = some (.slice e)) (hi : Try.prog.info? e = some i) (hz : i.zero = some z) (hsize : i.size = size) (hby : i.bytes = bytes)
    (hzs : z.cells.size = size) (hsz : 0 < size) (hnil : ∀ (w : World) (g : Nat), (Builtin.append_ #[t, t] t #[.slice (some ⟨g, 0, none⟩) 0 0, .slice none 0 0]).run Try.prog w = .ok (.slice (some ⟨g, 0, none⟩) 0 0) w)
    {w : World} {g0 C B n : Nat} {v : Value} {xs : List Value} (hg0 : w.heap[g0]? = some (.cells #[] e (0, 0))) (hC : C ≤ g0) (hs : w.ownsRow B e size v n xs) (h1 : ∀ u ∈ xs, u.oneCell' = true) (hn : n ≤ maxLen) (hb : n * bytes ≤ 140737488355328) :
    ∃ g c w', (Builtin.append_ #[t, t] t #[.slice (some ⟨g0, 0, none⟩) 0 0, v]).run Try.prog w = .ok (.slice (some ⟨g, 0, none⟩) n c) w' ∧ w'.ownsRow C e size (.slice (some ⟨g, 0, none⟩) n c) n xs ∧ w.grownBy w' (some g0) ∧ g < w'.heap.size ∧ (g = g0 ∨ g = w.heap.size) := by
  have hl0 : g0 < w.heap.size := (Array.getElem?_eq_some_iff.1 hg0).1
  have hown : w.ownsRow C e size (.slice (some ⟨g0, 0, none⟩) 0 0) 0 [] := ⟨by simp, .inr ⟨g0, 0, #[], rfl, hC, hg0, Nat.le_refl _, by unfold maxLen; omega, by simp, by simp⟩⟩
  rcases hs.2 with ⟨rfl, rfl⟩ | ⟨gs, cap, cur, rfl, _, hcur, _, _, _, htk⟩
  · have hx : xs = [] := List.eq_nil_of_length_eq_zero (by simpa using hs.1)
    subst hx
    exact ⟨g0, 0, w, hnil w g0, hown, ⟨rfl, rfl, rfl, Nat.le_refl _, fun _ _ _ => rfl⟩, hl0, .inl rfl⟩
  · obtain ⟨v', w', hrun, h2, h3, h4, h5⟩ := run_append_own_at (P := Try.prog) w C t t e i z size bytes ht hi hz hsize hby hzs hsz _ 0 [] hown ⟨gs, 0, none⟩ n cap xs hs.1 (cells_of_owned hs) h1 (by omega) (by rw [Nat.zero_add]; exact hb) (by omega)
    rw [Nat.zero_add, List.nil_append] at h2
    have hne : v' ≠ .slice none 0 0 := fun e => by have := (h4.1 e).1; cases this
    rcases h2.2 with ⟨e, _⟩ | ⟨g, c, cur', rfl, _, hcur', _⟩
    · exact absurd e hne
    · refine ⟨g, c, w', hrun, h2, h3, (Array.getElem?_eq_some_iff.1 hcur').1, ?_⟩
      simpa [Value.ownBlock] using h5

theorem apL {w X : World} {B r gl lc : Nat} {wv : Value} {D : DS} (h : RDiskAt w B r gl lc wv D) (hX : Below w.heap.size w X) (g0 : Nat) (hg : w.heap.size ≤ g0) (hg0 : X.heap[g0]? = some (.cells #[] 9 (0, 0))) :
    ∃ g c Z, (Builtin.append_ #[56, 56] 56 #[.slice (some ⟨g0, 0, none⟩) 0 0, .slice (some ⟨gl, 0, none⟩) D.n lc]).run Try.prog X = .ok (.slice (some ⟨g, 0, none⟩) D.n c) Z ∧
      Z.ownsRow w.heap.size 9 1 (.slice (some ⟨g, 0, none⟩) D.n c) D.n (strs D.n D.secs) ∧ Below w.heap.size w Z ∧ X.grownBy Z (some g0) ∧ g < Z.heap.size ∧ (g = g0 ∨ g = X.heap.size) := by
  obtain ⟨inf, hin, hz0, hz1, hz2⟩ := info_parts Try.info9
  have hn := h.good.n2
  have hd := h.keep (Kept.ofBelow hX []) (by simp)
  obtain ⟨g, c, Z, h1, h2, h3, h4, h5⟩ := append_copy Try.underlying56 hin hz0 hz1 hz2 rfl (by omega) (fun w g => by kernel_rfl) hg0 hg hd.L (strs_one _ _) (by unfold maxLen; omega) (by omega)
  have hl0 : g0 < X.heap.size := (Array.getElem?_eq_some_iff.1 hg0).1
  exact ⟨g, c, Z, h1, h2, hX.grown h3 hX.size (fun k hk => by simp only [Option.some.injEq] at hk; omega), h3, h4, h5⟩
theorem apW {w X : World} {B r gl lc : Nat} {wv : Value} {D : DS} (h : RDiskAt w B r gl lc wv D) (hX : Below w.heap.size w X) (g0 : Nat) (hg : w.heap.size ≤ g0) (hg0 : X.heap[g0]? = some (.cells #[] 100 (0, 0))) :
    ∃ g c Z, (Builtin.append_ #[84, 84] 84 #[.slice (some ⟨g0, 0, none⟩) 0 0, wv]).run Try.prog X = .ok (.slice (some ⟨g, 0, none⟩) D.waits.length c) Z ∧
      Z.ownsRow w.heap.size 100 2 (.slice (some ⟨g, 0, none⟩) D.waits.length c) D.waits.length (rws D.waits) ∧ Below w.heap.size w Z ∧ X.grownBy Z (some g0) ∧ g < Z.heap.size ∧ (g = g0 ∨ g = X.heap.size) := by
  obtain ⟨inf, hin, hz0, hz1, hz2⟩ := info_parts Try.info100
  have hn := h.good.wl
  have hd := h.keep (Kept.ofBelow hX []) (by simp)
  obtain ⟨g, c, Z, h1, h2, h3, h4, h5⟩ := append_copy Try.underlying84 hin hz0 hz1 hz2 rfl (by omega) (fun w g => by kernel_rfl) hg0 hg hd.W (rws_one _) (by unfold maxLen; omega) (by omega)
  exact ⟨g, c, Z, h1, h2, hX.grown h3 hX.size (fun k hk => by simp only [Option.some.injEq] at hk; omega), h3, h4, h5⟩
theorem rowOver {X Y : World} {C g0 g n c e size : Nat} {xs : List Value} (h : X.ownsRow C e size (.slice (some ⟨g, 0, none⟩) n c) n xs) (hg : X.grownBy Y (some g0)) (hne : g ≠ g0) : Y.ownsRow C e size (.slice (some ⟨g, 0, none⟩) n c) n xs :=
  ownsRow_block h fun k hk => by
    simp only [Value.ownBlock, Option.some.injEq] at hk
    subst hk
    exact hg.block _ (h.lt _ rfl).2 (by simpa using hne)

/-- What a call ends in that makes a disk of the document's own; nothing that was there has turned. -/
def RMade (w : World) (E : DS) (e : Ending) (w' : World) : Prop :=
  ∃ r' own, e = .returned (.pointer (some ⟨r', 0, none⟩)) ∧ RDisk w' w.heap.size r' own E ∧ Below w.heap.size w w'

theorem rcopy_fin {w Y : World} {B r gl lc g g' c c' : Nat} {wv : Value} {D : DS} (h : RDiskAt w B r gl lc wv D) (hY : Below w.heap.size w Y)
    (hL : Y.ownsRow w.heap.size 9 1 (.slice (some ⟨g, 0, none⟩) D.n c) D.n (strs D.n D.secs)) (hW : Y.ownsRow w.heap.size 100 2 (.slice (some ⟨g', 0, none⟩) D.waits.length c') D.waits.length (rws D.waits)) (hne : g' ≠ g) :
    RMade w D (.returned (.pointer (some ⟨Y.heap.size, 0, none⟩))) (Y.alloc (.cells #[.slice (some ⟨g, 0, none⟩) D.n c, .slice (some ⟨g', 0, none⟩) D.waits.length c', .int .i64 D.steps, .int .i64 D.fuse, .bool D.gone] 86)) := by
  have h1 := hL.lt g rfl
  have h2 := hW.lt g' rfl
  refine ⟨_, _, rfl, ⟨g, c, .slice (some ⟨g', 0, none⟩) D.waits.length c', ?_, rfl⟩, hY.alloc hY.size _⟩
  exact { blk := heap_alloc_new _ _, L := hL.alloc _, W := hW.alloc _, ne1 := by omega, ne2 := by simp only [Value.ownBlock, ne_eq, Option.some.injEq]; omega, ne3 := by simpa [Value.ownBlock] using hne, hB := hY.size, good := h.good }

end Go.Proofs.Ytambgimfbdecpaa
