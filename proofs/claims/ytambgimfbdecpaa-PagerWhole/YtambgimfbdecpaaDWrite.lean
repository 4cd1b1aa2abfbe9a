/- What this text holds: 'Write': a write that waits. -/
import Derived.Test.YtambgimfbdecpaaDReg2
namespace Go.Proofs.Ytambgimfbdecpaa
open Go.RowKit
set_option linter.unusedVariables false

set_option maxRecDepth 100000 in
set_option maxHeartbeats 1000000 in
theorem write_len {w : World} {B b bs sc : Nat} {wv : Value} {D : DS} (h : DiskAt w B b bs sc wv D) (i : Int) (a : Option Addr) (len cap : Nat) (hl : len ≠ 512) (hm : len ≤ maxLen) :
    Calls Try.prog 21 #[.pointer (some ⟨b, 0, none⟩), .int .i64 i, .slice a len cap] w fun e w' => e = .returned (.int .i64 2) ∧ w' = w := by
  have hl2 : ((len : Int) != 512) = true := by rw [bne_iff_ne]; omega
  unfold maxLen at hm
  clear h
  go_enter Try.func21, Try.ntmps21
  go_wp2_with fail
  go_ret
  exact ⟨rfl, rfl⟩

set_option maxRecDepth 100000 in
set_option maxHeartbeats 1000000 in
theorem write_range {w : World} {B b bs sc : Nat} {wv : Value} {D : DS} (h : DiskAt w B b bs sc wv D) (i : Int) (a : Option Addr) (cap : Nat) (hi : ¬ (0 ≤ i ∧ i < D.n)) :
    Calls Try.prog 21 #[.pointer (some ⟨b, 0, none⟩), .int .i64 i, .slice a 512 cap] w fun e w' => e = .returned (.int .i64 3) ∧ w' = w := by
  obtain ⟨c0, c1, c2, c3, c4⟩ := h.cells
  have hn := h.good.n2
  have HI := hid hi
  clear h hi
  go_enter Try.func21, Try.ntmps21
  go_wp2_with (go_at_call 48; refine (has_no b _ _ _ i _ hn c0 HI.out).mono ?_; rintro e w ⟨rfl, rfl⟩)
  go_ret
  exact ⟨rfl, rfl⟩

set_option maxRecDepth 100000 in
set_option maxHeartbeats 1000000 in
theorem write_power {w : World} {B b bs sc : Nat} {wv : Value} {D : DS} (h : DiskAt w B b bs sc wv D) (i : Nat) (a : Option Addr) (cap : Nat) (hi : i < D.n) (hs : D.steps < 1000) (hp : D.step.1 = false) :
    Calls Try.prog 21 #[.pointer (some ⟨b, 0, none⟩), .int .i64 i, .slice a 512 cap] w fun e w' => e = .returned (.int .i64 9) ∧ DiskAt w' B b bs sc wv D.step.2 ∧ Kept [b] w w' := by
  obtain ⟨c0, c1, c2, c3, c4⟩ := h.cells
  have hn := h.good.n2
  have HH := hid h
  have HP := hid hp
  clear h hp
  go_enter Try.func21, Try.ntmps21
  go_wp2_with (first | (go_at_call 48; refine (has_yes b _ _ _ i _ hn c0 (by omega) (by omega)).mono ?_; rintro e w ⟨rfl, rfl⟩) | (go_at_call 49; refine (step_any HH.out hs).mono ?_; rw [HP.out]; rintro e w1 ⟨rfl, hd, hk⟩))
  go_ret
  exact ⟨rfl, hd, hk⟩

theorem DS.step_n (D : DS) : D.step.2.n = D.n := by unfold DS.step; split <;> rfl
theorem DS.step_waits (D : DS) : D.step.2.waits = D.waits := by unfold DS.step; split <;> rfl
theorem DS.step_secs (D : DS) : D.step.2.secs = D.secs := by unfold DS.step; split <;> rfl

set_option maxRecDepth 100000 in
set_option maxHeartbeats 1000000 in
theorem write_yes {w : World} {B b bs sc : Nat} {wv : Value} {D : DS} (h : DiskAt w B b bs sc wv D) (i : Nat) (a : Addr) (cap : Nat) (bytes : List Int) (hbl : bytes.length = 512)
    (hsrc : ∀ j v, (bc bytes)[j]? = some v → w.cell? (a.add j) = some v) (hab : a.block ≠ b) (hi : i < D.n) (hs : D.steps < 1000) (hp : D.step.1 = true) (hwl : D.waits.length < 200) (hBw : B ≤ w.heap.size) :
    Calls Try.prog 21 #[.pointer (some ⟨b, 0, none⟩), .int .i64 i, .slice (some a) 512 cap] w fun e w' => e = .returned (.int .i64 0) ∧ ∃ wv', DiskAt w' B b bs sc wv' { D.step.2 with waits := D.step.2.waits ++ [((i : Int), bytes)] } ∧ Kept (b :: wv.ownBlock.toList) w w' ∧ (∀ k, wv'.ownBlock = some k → wv.ownBlock = some k ∨ w.heap.size ≤ k) := by
  obtain ⟨c0, c1, c2, c3, c4⟩ := h.cells
  have hn := h.good.n2
  have hbu := build75 i
  have HH := hid h
  have HP := hid hp
  have HS := hid hsrc
  have HI2 : Hid (i < D.step.2.n) := by rw [DS.step_n]; exact hi
  have HW : Hid (D.step.2.waits.length < 200) := by rw [DS.step_waits]; exact hwl
  clear h hp hsrc
  go_enter Try.func21, Try.ntmps21
  go_wp2_with (first | (go_at_call 48; refine (has_yes b _ _ _ i _ hn c0 (by omega) (by omega)).mono ?_; rintro e w ⟨rfl, rfl⟩) | (go_at_call 49; refine (step_any HH.out hs).mono ?_; rw [HP.out]; rintro e w1 ⟨rfl, hd, hk⟩; have hcp := copy75 w1 i a cap bytes hbl (fun j v hv => hk.cell (HS.out j v hv) (by cases a; unfold Addr.add; split <;> simpa using hab)); have HD := hid hd; clear hd) | (refine wpList_build75 i rfl ?_) | (refine wpList_alloc75 ?_) | (refine wpList_store75 i rfl rfl ?_))
  have hd := HD.out
  obtain ⟨d0, d1, d2, d3, d4⟩ := hd.cells
  obtain ⟨g, c, w', hrun, hS7, hc7, hf7, hd7, hk7, hl7⟩ := append_wait hd i HI2.out bytes hbl HW.out
  have hS6 := waitW_first w1 i bytes
  have hcell : ∀ X : Obj, (w1.alloc X).drew.cell? ⟨b, 1, none⟩ = some wv := fun X => by
    show (w1.alloc X).cell? ⟨b, 1, none⟩ = some wv
    rw [World.cell?_alloc_some _ _ _ (by simp [d1]), d1]
  have hcell6 : (waitW w1 i bytes).cell? ⟨b, 1, none⟩ = some wv := by
    unfold waitW
    rw [World.cell?_alloc_some _ _ _ (by simp [hcell]), hcell]
  have hS10 : (w'.setCell ⟨b, 1, none⟩ (.slice (some ⟨g, 0, none⟩) (D.step.2.waits.length + 1) c)).heap[w1.heap.size]? = some (.cells (wcell (↑i) bytes).toArray 98 (0, 0)) := by
    rw [Below.heap_setCell _ _ _ _ (Nat.ne_of_gt (hd.lt b (by simp)).2)]; exact hS7
  clear hcp hbu
  refine wp_region_held_drew (S := fun w' => w'.heap[w1.heap.size]? = some (.cells (wcell (↑i) bytes).toArray 98 (0, 0))) (by kernel_rfl) (heap_alloc_new _ _) ?_
  intro hS
  refine anyH_take 0 ⟨some 32, .move (.tmp 0), _, _, _, none⟩ (.pointer (some ⟨b, 0, none⟩)) rfl rfl (by kernel_rfl) (by kernel_rfl) (by kernel_rfl) (fun _ _ _ h => h) (fun _ _ => rfl) hS ?_
  simp only [Act.put, List.setIfInBounds_toArray, List.set_cons_zero, List.set_cons_succ]
  refine anyH_take 1 ⟨some 33, .move (.tmp 0), _, _, _, none⟩ (.pointer (some ⟨b, 0, none⟩)) rfl rfl (by kernel_rfl) (by kernel_rfl) (by kernel_rfl) (fun _ _ _ h => h) (fun _ _ => rfl) hS ?_
  simp only [Act.put, List.setIfInBounds_toArray, List.set_cons_zero, List.set_cons_succ]
  refine anyH_take 2 ⟨some 34, .nilCheck (.tmp 33), _, _, _, none⟩ (.pointer (some ⟨b, 0, none⟩)) rfl rfl (by kernel_rfl) (by kernel_rfl) (by kernel_rfl) (fun _ _ _ h => h) (fun _ _ => rfl) hS ?_
  simp only [Act.put, List.setIfInBounds_toArray, List.set_cons_zero, List.set_cons_succ]
  refine anyH_take 3 ⟨some 35, .fieldAddr 83 (.tmp 34) 1, _, _, _, none⟩ (.pointer (some ⟨b, 1, none⟩)) rfl rfl (by kernel_rfl) (by kernel_rfl) (by kernel_rfl) (fun _ _ _ h => h) (fun w _ => exec_v (field66 b w)) hS ?_
  simp only [Act.put, List.setIfInBounds_toArray, List.set_cons_zero, List.set_cons_succ]
  refine anyH_take 5 ⟨some 37, .load 98 (.tmp 7), _, _, _, none⟩ (.agg (wcell (↑i) bytes).toArray) rfl rfl (by kernel_rfl) (by kernel_rfl) (by kernel_rfl) (fun _ _ _ h => h) (fun w hw => exec_v (load75 hbl hw)) hS ?_
  simp only [Act.put, List.setIfInBounds_toArray, List.set_cons_zero, List.set_cons_succ]
  refine anyH_two 4 6 (by kernel_rfl) ?_ ?_
  · refine wpOp_run (o := ⟨some 36, .load 81 (.tmp 35), _, _, _, none⟩) rfl rfl (exec_v (load64 (hcell _))) ⟨hS, ?_⟩
    simp only [Act.put, List.setIfInBounds_toArray, List.set_cons_zero, List.set_cons_succ]
    refine anyH_one 6 ⟨some 38, .buildSlice 81 1 #[(0, .tmp 37)], _, _, _, none⟩ (.slice (some ⟨w1.heap.size + 1, 0, none⟩) 1 1) (waitW w1 i bytes) (by kernel_rfl) rfl rfl (exec_buildSlice (X := .agg (wcell (↑i) bytes).toArray) rfl (slice75w w1 i bytes hbl)) hS6 ?_
    simp only [Act.put, List.setIfInBounds_toArray, List.set_cons_zero, List.set_cons_succ]
    refine anyH_one 7 ⟨some 39, .call { callee := .builtin .append, args := #[.tmp 36, .tmp 38], argTypes := #[81, 81] }, _, _, _, none⟩ _ w' (by kernel_rfl) rfl rfl (exec_append (u := wv) (s := .slice (some ⟨w1.heap.size + 1, 0, none⟩) 1 1) rfl rfl hrun) hS7 ?_
    simp only [Act.put, List.setIfInBounds_toArray, List.set_cons_zero, List.set_cons_succ]
    refine anyH_one 8 ⟨some 40, .nilCheck (.tmp 32), _, _, _, none⟩ (.pointer (some ⟨b, 0, none⟩)) w' (by kernel_rfl) rfl rfl rfl hS7 ?_
    simp only [Act.put, List.setIfInBounds_toArray, List.set_cons_zero, List.set_cons_succ]
    refine anyH_one 9 ⟨some 41, .fieldAddr 83 (.tmp 40) 1, _, _, _, none⟩ (.pointer (some ⟨b, 1, none⟩)) w' (by kernel_rfl) rfl rfl (exec_v (field66 b _)) hS7 ?_
    simp only [Act.put, List.setIfInBounds_toArray, List.set_cons_zero, List.set_cons_succ]
    refine anyH_oneSkip 10 ⟨none, .store 81 (.tmp 41) (.tmp 39), _, _, _, none⟩ _ (by kernel_rfl) rfl rfl (exec_store64 rfl rfl hc7 hf7) hS10 ?_
    refine wpAnyH_done (by kernel_rfl) ?_ _
    go_wp2
    go_ret
    exact ⟨rfl, _, hd7, (hk.mono (fun k _ h => by simp only [List.mem_singleton] at h; simp [h])).trans hk7 (fun k hk h => h), fun k hk' => by
      simp only [Value.ownBlock, Option.some.injEq] at hk'
      subst hk'
      rcases hl7 with h | h
      · exact .inl h
      · right; have := hk.size; omega⟩
  · refine wpOp_run (o := ⟨some 38, .buildSlice 81 1 #[(0, .tmp 37)], _, _, _, none⟩) (v := .slice (some ⟨w1.heap.size + 1, 0, none⟩) 1 1) (w' := waitW w1 i bytes) rfl rfl (exec_buildSlice (X := .agg (wcell (↑i) bytes).toArray) rfl (slice75w w1 i bytes hbl)) ⟨hS6, ?_⟩
    simp only [Act.put, List.setIfInBounds_toArray, List.set_cons_zero, List.set_cons_succ]
    refine anyH_one 4 ⟨some 36, .load 81 (.tmp 35), _, _, _, none⟩ wv (waitW w1 i bytes) (by kernel_rfl) rfl rfl (exec_v (load64 hcell6)) hS6 ?_
    simp only [Act.put, List.setIfInBounds_toArray, List.set_cons_zero, List.set_cons_succ]
    refine anyH_one 7 ⟨some 39, .call { callee := .builtin .append, args := #[.tmp 36, .tmp 38], argTypes := #[81, 81] }, _, _, _, none⟩ _ w' (by kernel_rfl) rfl rfl (exec_append (u := wv) (s := .slice (some ⟨w1.heap.size + 1, 0, none⟩) 1 1) rfl rfl hrun) hS7 ?_
    simp only [Act.put, List.setIfInBounds_toArray, List.set_cons_zero, List.set_cons_succ]
    refine anyH_one 8 ⟨some 40, .nilCheck (.tmp 32), _, _, _, none⟩ (.pointer (some ⟨b, 0, none⟩)) w' (by kernel_rfl) rfl rfl rfl hS7 ?_
    simp only [Act.put, List.setIfInBounds_toArray, List.set_cons_zero, List.set_cons_succ]
    refine anyH_one 9 ⟨some 41, .fieldAddr 83 (.tmp 40) 1, _, _, _, none⟩ (.pointer (some ⟨b, 1, none⟩)) w' (by kernel_rfl) rfl rfl (exec_v (field66 b _)) hS7 ?_
    simp only [Act.put, List.setIfInBounds_toArray, List.set_cons_zero, List.set_cons_succ]
    refine anyH_oneSkip 10 ⟨none, .store 81 (.tmp 41) (.tmp 39), _, _, _, none⟩ _ (by kernel_rfl) rfl rfl (exec_store64 rfl rfl hc7 hf7) hS10 ?_
    refine wpAnyH_done (by kernel_rfl) ?_ _
    go_wp2
    go_ret
    exact ⟨rfl, _, hd7, (hk.mono (fun k _ h => by simp only [List.mem_singleton] at h; simp [h])).trans hk7 (fun k hk h => h), fun k hk' => by
      simp only [Value.ownBlock, Option.some.injEq] at hk'
      subst hk'
      rcases hl7 with h | h
      · exact .inl h
      · right; have := hk.size; omega⟩
end Go.Proofs.Ytambgimfbdecpaa
