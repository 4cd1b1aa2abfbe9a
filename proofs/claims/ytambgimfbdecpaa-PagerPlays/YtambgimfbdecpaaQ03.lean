/- What this text holds: the operations of 'd.waits = append(d.waits, w)', by their runs. · What this text holds: 'Write': a write that waits. · What this text holds: 'Flush': what waits is laid. -/
import Derived.Test.YtambgimfbdecpaaQ02
import Derived.Deep.AppendLies
namespace Go.Proofs.Ytambgimfbdecpaa
open Go.RowKit
set_option linter.unusedVariables false

theorem field66 (b : Nat) (w : World) : (Instr.fieldAt 83 (.pointer (some ⟨b, 0, none⟩)) 1).run Try.prog w = .ok (.pointer (some ⟨b, 1, none⟩)) w := by kernel_rfl
theorem load64 {b : Nat} {v : Value} {w : World} (h : w.cell? ⟨b, 1, none⟩ = some v) : (Instr.loadAt 81 (.pointer (some ⟨b, 1, none⟩))).run Try.prog w = .ok v w := by
  simp [Instr.loadAt, Instr.sureAddr, loadVar, isAgg, run_underlying Try.underlying81, h]
theorem size64 : (Try.prog.info? 81).map (·.size) = some 1 := by kernel_rfl
theorem store64 {b g n c : Nat} {u : Value} {w : World} (h : w.cell? ⟨b, 1, none⟩ = some u) (hf : w.frozen? ⟨b, 1, none⟩ = false) :
    (Instr.storeAt 81 (.pointer (some ⟨b, 1, none⟩)) (.slice (some ⟨g, 0, none⟩) n c)).run Try.prog w = .ok () (w.setCell ⟨b, 1, none⟩ (.slice (some ⟨g, 0, none⟩) n c)) := by
  have hs := size64
  cases hq : Try.prog.info? 81 with
  | none => simp [hq] at hs
  | some i =>
    have h1 : i.size = 1 := by simpa [hq] using hs
    have e : (⟨b, 1, none⟩ : Addr).add 0 = ⟨b, 1, none⟩ := rfl
    simp [Instr.storeAt, Instr.sureAddr, storeVar, sizeOf, typeInfo, hq, h1, Value.cells, storeCells, e, store, Sem.run, h, hf]

theorem exec_buildSlice {a : Act} {X : Value} {x : Operand} {w w' : World} {v : Value} {d : Option Tmp} {t n ty : Nat} {pos : String} {af : Array Edge} {g : Option (Nat × Bool)} (hx : a.eval x = X)
    (h : (Instr.buildSlice t n #[(0, X)]).run Try.prog w = .ok v w') : (execOp a.eval ⟨d, .buildSlice t n #[(0, x)], ty, pos, af, g⟩).run Try.prog w = .ok (.value v) w' := by
  simp only [execOp, List.map_toArray, List.map_cons, List.map_nil, hx]
  exact exec_v h
theorem exec_append {a : Act} {x y : Operand} {u s : Value} {w w' : World} {v : Value} {d : Option Tmp} {t ty : Nat} {pos : String} {af : Array Edge} {g : Option (Nat × Bool)} (hx : a.eval x = u) (hy : a.eval y = s)
    (h : (Builtin.append_ #[t, t] ty #[u, s]).run Try.prog w = .ok v w') : (execOp a.eval ⟨d, .call { callee := .builtin .append, args := #[x, y], argTypes := #[t, t] }, ty, pos, af, g⟩).run Try.prog w = .ok (.value v) w' := by
  simp only [execOp, resolve, invoke, builtin, Sem.run_bind, Sem.run_pure, Result.andThen_ok, List.map_toArray, List.map_cons, List.map_nil, hx, hy, h]
theorem exec_store64 {a : Act} {x y : Operand} {b g n c : Nat} {u : Value} {w : World} {d : Option Tmp} {ty : Nat} {pos : String} {af : Array Edge} {gd : Option (Nat × Bool)} (hx : a.eval x = .pointer (some ⟨b, 1, none⟩)) (hy : a.eval y = .slice (some ⟨g, 0, none⟩) n c)
    (h : w.cell? ⟨b, 1, none⟩ = some u) (hf : w.frozen? ⟨b, 1, none⟩ = false) :
    (execOp a.eval ⟨d, .store 81 x y, ty, pos, af, gd⟩).run Try.prog w = .ok .skip (w.setCell ⟨b, 1, none⟩ (.slice (some ⟨g, 0, none⟩) n c)) := by
  simp only [execOp, hx, hy, Sem.run_bind, store64 h hf, Result.andThen_ok, Sem.run_pure]

/-- The world in which a write waits: behind the variable 'w', a draw, and the slice of one. -/
def waitW (w1 : World) (i : Int) (bytes : List Int) : World := (w1.alloc (.cells (wcell i bytes).toArray 98)).drew.alloc (.cells (wcell i bytes).toArray 98)
theorem waitW_heap (w1 : World) (i : Int) (bytes : List Int) (k : Nat) (h : k < w1.heap.size) : (waitW w1 i bytes).heap[k]? = w1.heap[k]? := by
  unfold waitW
  rw [Below.heap_alloc _ _ _ (by simp; omega)]
  exact Below.heap_alloc _ _ _ h
theorem waitW_first (w1 : World) (i : Int) (bytes : List Int) : (waitW w1 i bytes).heap[w1.heap.size]? = some (.cells (wcell i bytes).toArray 98 (0, 0)) := by
  unfold waitW
  rw [Below.heap_alloc _ _ _ (by simp)]
  exact heap_alloc_new _ _
theorem waitW_second (w1 : World) (i : Int) (bytes : List Int) : (waitW w1 i bytes).heap[w1.heap.size + 1]? = some (.cells (wcell i bytes).toArray 98 (0, 0)) := by
  unfold waitW
  have h := heap_alloc_new (w1.alloc (.cells (wcell i bytes).toArray 98)).drew (.cells (wcell i bytes).toArray 98)
  have e : (w1.alloc (.cells (wcell i bytes).toArray 98)).drew.heap.size = w1.heap.size + 1 := by simp
  rw [e] at h
  exact h
theorem waitW_size (w1 : World) (i : Int) (bytes : List Int) : (waitW w1 i bytes).heap.size = w1.heap.size + 2 := by simp [waitW]
theorem waitW_kept (w1 : World) (i : Int) (bytes : List Int) : Kept [] w1 (waitW w1 i bytes) :=
  ⟨rfl, rfl, rfl, by rw [waitW_size]; omega, fun k hk _ => waitW_heap w1 i bytes k hk⟩

theorem slice75w (w1 : World) (i : Int) (bytes : List Int) (hbl : bytes.length = 512) :
    (Instr.buildSlice 81 1 #[(0, .agg (wcell i bytes).toArray)]).run Try.prog (w1.alloc (.cells (wcell i bytes).toArray 98)).drew = .ok (.slice (some ⟨w1.heap.size + 1, 0, none⟩) 1 1) (waitW w1 i bytes) := by
  have h := slice75 (w := (w1.alloc (.cells (wcell i bytes).toArray 98)).drew) (i := i) hbl
  have e : (w1.alloc (.cells (wcell i bytes).toArray 98)).drew.heap.size = w1.heap.size + 1 := by simp
  rw [e] at h
  exact h

/-- A write is appended to those that wait: the run of append, and the disk behind the store. -/
theorem append_wait {w1 : World} {B b bs sc : Nat} {wv : Value} {D : DS} (hd : DiskAt w1 B b bs sc wv D) (i : Nat) (hi : i < D.n) (bytes : List Int) (hbl : bytes.length = 512) (hwl : D.waits.length < 200) :
    ∃ g c w', (Builtin.append_ #[81, 81] 81 #[wv, .slice (some ⟨w1.heap.size + 1, 0, none⟩) 1 1]).run Try.prog (waitW w1 i bytes) = .ok (.slice (some ⟨g, 0, none⟩) (D.waits.length + 1) c) w' ∧
      w'.heap[w1.heap.size]? = some (.cells (wcell i bytes).toArray 98 (0, 0)) ∧ w'.cell? ⟨b, 1, none⟩ = some wv ∧ w'.frozen? ⟨b, 1, none⟩ = false ∧
      DiskAt (w'.setCell ⟨b, 1, none⟩ (.slice (some ⟨g, 0, none⟩) (D.waits.length + 1) c)) B b bs sc (.slice (some ⟨g, 0, none⟩) (D.waits.length + 1) c) { D with waits := D.waits ++ [((i : Int), bytes)] } ∧
      Kept (b :: wv.ownBlock.toList) w1 (w'.setCell ⟨b, 1, none⟩ (.slice (some ⟨g, 0, none⟩) (D.waits.length + 1) c)) ∧ (wv.ownBlock = some g ∨ w1.heap.size ≤ g) := by
  obtain ⟨inf, hin, hz0, hz1, hz2⟩ := info_parts Try.info98
  have hk0 := waitW_kept w1 i bytes
  have hd0 : DiskAt (waitW w1 i bytes) B b bs sc wv D := hd.keep hk0 (by simp)
  have hb : b < w1.heap.size := (hd.lt b (by simp)).2
  have hbs : bs < w1.heap.size := (hd.lt bs (by simp)).2
  obtain ⟨g, c, w', hrun, ho, hg, hlies, hlt⟩ := run_append_lies (P := Try.prog) (waitW w1 i bytes) 81 81 B 98 inf _ 513 520 Try.underlying81 hin hz0 hz1 hz2 zWrite_size (by omega) wv _ _ hd0.waits
    ⟨w1.heap.size + 1, 0, none⟩ 1 1 (wcell i bytes) (by simp [wcell_length, hbl]) (fun j u hu => by
      rw [Addr.add_mid, cell_of_row _ _ _ _ _ _ (waitW_second w1 i bytes)]
      simpa using hu) (wcell_oneCell _ _) (by omega) (by unfold maxLen; omega) (by omega) (by rw [waitW_size]; have := hd.hB; omega) _ (waitW_size w1 i bytes)
  have hown : ∀ k, wv.ownBlock = some k → k < w1.heap.size := fun k hk => (hd.waits.lt k hk).2
  have hkeep : Kept (wv.ownBlock.toList) (waitW w1 i bytes) w' := Kept.ofGrown hg _ (fun k hk => by simp [hk])
  have hall : Kept (wv.ownBlock.toList) w1 w' := (hk0.mono (by simp)).trans hkeep (fun _ _ h => h)
  have hbb : w'.heap[b]? = w1.heap[b]? := hall.block b hb (by simpa using hd.ne2)
  have hg1 : g ≠ b := by
    rcases hlies with h | h
    · exact fun e => hd.ne2 (by rw [h, e])
    · omega
  have hg2 : g ≠ bs := by
    rcases hlies with h | h
    · exact fun e => hd.ne3 (by rw [h, e])
    · omega
  refine ⟨g, c, w', hrun, ?_, ?_, ?_, ?_, ?_, ?_⟩
  · rw [hkeep.block _ (by rw [waitW_size]; omega) (by
      simp only [Option.mem_toList]
      intro e
      have := hown _ e
      omega)]
    exact waitW_first w1 i bytes
  · simp [World.cell?, hbb, hd.blk]
  · simp [World.frozen?, hbb, hd.blk]
  · have hkb := Kept.setCell [b] w' ⟨b, 1, none⟩ (.slice (some ⟨g, 0, none⟩) (D.waits.length + 1) c) (by simp)
    refine { blk := ?_, secs := ?_, waits := ?_, ne1 := hd.ne1, ne2 := by simpa [Value.ownBlock] using hg1, ne3 := by simpa [Value.ownBlock] using hg2, hB := hd.hB, good := { hd.good with wl := ?_, w := ?_ } }
    · simp [World.setCell, Array.getElem?_modify, hbb, hd.blk]
    · refine ownsRow_block hd.secs fun k hk => ?_
      simp only [Value.ownBlock, Option.some.injEq] at hk
      subst hk
      rw [hkb.block bs (by have := hall.size; omega) (by simpa using hd.ne1)]
      exact hall.block bs hbs (by simpa using hd.ne3)
    · rw [wcs_snoc]
      simp only [List.length_append, List.length_cons, List.length_nil]
      refine ownsRow_block ho fun k hk => ?_
      simp only [Value.ownBlock, Option.some.injEq] at hk
      subst hk
      exact hkb.block _ hlt (by simpa using hg1)
    · simp; omega
    · intro x hx
      simp only [List.mem_append, List.mem_singleton] at hx
      rcases hx with hx | rfl
      · exact hd.good.w x hx
      · exact ⟨by simp, by simpa using hi, hbl⟩
  · exact (hall.mono (T := b :: wv.ownBlock.toList) (fun k _ h => by simp only [List.mem_cons]; exact .inr h)).trans (Kept.setCell [b] w' _ _ (by simp)) (fun k _ h => by simp only [List.mem_singleton] at h; simp [h])
  · rcases hlies with h | h
    · exact .inl h
    · right; omega
end Go.Proofs.Ytambgimfbdecpaa
namespace Go.Proofs.Ytambgimfbdecpaa
open Go.RowKit
set_option linter.unusedVariables false

set_option maxRecDepth 100000 in
set_option maxHeartbeats 1000000 in
theorem write_len {w : World} {B b bs sc : Nat} {wv : Value} {D : DS} (h : DiskAt w B b bs sc wv D) (i : Int) (a : Option Addr) (len cap : Nat) (hl : len ≠ 512) (hm : len ≤ maxLen) :
    Calls Try.prog 21 #[.pointer (some ⟨b, 0, none⟩), .int .i64 i, .slice a len cap] w fun e w' => e = .returned (.int .i64 2) ∧ w' = w := by
  have hl2 : ((len : Int) != 512) = true := by rw [bne_iff_ne]; omega
  unfold maxLen at hm
  clear h
  go_enter Try.func21, Try.ntmps21
  go_wp2_with fail
  go_ret
  exact ⟨rfl, rfl⟩

set_option maxRecDepth 100000 in
set_option maxHeartbeats 1000000 in
theorem write_range {w : World} {B b bs sc : Nat} {wv : Value} {D : DS} (h : DiskAt w B b bs sc wv D) (i : Int) (a : Option Addr) (cap : Nat) (hi : ¬ (0 ≤ i ∧ i < D.n)) :
    Calls Try.prog 21 #[.pointer (some ⟨b, 0, none⟩), .int .i64 i, .slice a 512 cap] w fun e w' => e = .returned (.int .i64 3) ∧ w' = w := by
  obtain ⟨c0, c1, c2, c3, c4⟩ := h.cells
  have hn := h.good.n2
  have HI := hid hi
  clear h hi
  go_enter Try.func21, Try.ntmps21
  go_wp2_with (go_at_call 48; refine (has_no b _ _ _ i _ hn c0 HI.out).mono ?_; rintro e w ⟨rfl, rfl⟩)
  go_ret
  exact ⟨rfl, rfl⟩

set_option maxRecDepth 100000 in
set_option maxHeartbeats 1000000 in
theorem write_power {w : World} {B b bs sc : Nat} {wv : Value} {D : DS} (h : DiskAt w B b bs sc wv D) (i : Nat) (a : Option Addr) (cap : Nat) (hi : i < D.n) (hs : D.steps < 1000) (hp : D.step.1 = false) :
    Calls Try.prog 21 #[.pointer (some ⟨b, 0, none⟩), .int .i64 i, .slice a 512 cap] w fun e w' => e = .returned (.int .i64 9) ∧ DiskAt w' B b bs sc wv D.step.2 ∧ Kept [b] w w' := by
  obtain ⟨c0, c1, c2, c3, c4⟩ := h.cells
  have hn := h.good.n2
  have HH := hid h
  have HP := hid hp
  clear h hp
  go_enter Try.func21, Try.ntmps21
  go_wp2_with (first | (go_at_call 48; refine (has_yes b _ _ _ i _ hn c0 (by omega) (by omega)).mono ?_; rintro e w ⟨rfl, rfl⟩) | (go_at_call 49; refine (step_any HH.out hs).mono ?_; rw [HP.out]; rintro e w1 ⟨rfl, hd, hk⟩))
  go_ret
  exact ⟨rfl, hd, hk⟩

theorem DS.step_n (D : DS) : D.step.2.n = D.n := by unfold DS.step; split <;> rfl
theorem DS.step_waits (D : DS) : D.step.2.waits = D.waits := by unfold DS.step; split <;> rfl
theorem DS.step_secs (D : DS) : D.step.2.secs = D.secs := by unfold DS.step; split <;> rfl

set_option maxRecDepth 100000 in
set_option maxHeartbeats 1000000 in
theorem write_yes {w : World} {B b bs sc : Nat} {wv : Value} {D : DS} (h : DiskAt w B b bs sc wv D) (i : Nat) (a : Addr) (cap : Nat) (bytes : List Int) (hbl : bytes.length = 512)
    (hsrc : ∀ j v, (bc bytes)[j]? = some v → w.cell? (a.add j) = some v) (hab : a.block ≠ b) (hi : i < D.n) (hs : D.steps < 1000) (hp : D.step.1 = true) (hwl : D.waits.length < 200) (hBw : B ≤ w.heap.size) :
    Calls Try.prog 21 #[.pointer (some ⟨b, 0, none⟩), .int .i64 i, .slice (some a) 512 cap] w fun e w' => e = .returned (.int .i64 0) ∧ ∃ wv', DiskAt w' B b bs sc wv' { D.step.2 with waits := D.step.2.waits ++ [((i : Int), bytes)] } ∧ Kept (b :: wv.ownBlock.toList) w w' ∧ (∀ k, wv'.ownBlock = some k → wv.ownBlock = some k ∨ w.heap.size ≤ k) := by
  obtain ⟨c0, c1, c2, c3, c4⟩ := h.cells
  have hn := h.good.n2
  have hbu := build75 i
  have HH := hid h
  have HP := hid hp
  have HS := hid hsrc
  have HI2 : Hid (i < D.step.2.n) := by rw [DS.step_n]; exact hi
  have HW : Hid (D.step.2.waits.length < 200) := by rw [DS.step_waits]; exact hwl
  clear h hp hsrc
  go_enter Try.func21, Try.ntmps21
  go_wp2_with (first | (go_at_call 48; refine (has_yes b _ _ _ i _ hn c0 (by omega) (by omega)).mono ?_; rintro e w ⟨rfl, rfl⟩) | (go_at_call 49; refine (step_any HH.out hs).mono ?_; rw [HP.out]; rintro e w1 ⟨rfl, hd, hk⟩; have hcp := copy75 w1 i a cap bytes hbl (fun j v hv => hk.cell (HS.out j v hv) (by cases a; unfold Addr.add; split <;> simpa using hab)); have HD := hid hd; clear hd) | (refine wpList_build75 i rfl ?_) | (refine wpList_alloc75 ?_) | (refine wpList_store75 i rfl rfl ?_))
  have hd := HD.out
  obtain ⟨d0, d1, d2, d3, d4⟩ := hd.cells
  obtain ⟨g, c, w', hrun, hS7, hc7, hf7, hd7, hk7, hl7⟩ := append_wait hd i HI2.out bytes hbl HW.out
  have hS6 := waitW_first w1 i bytes
  have hcell : ∀ X : Obj, (w1.alloc X).drew.cell? ⟨b, 1, none⟩ = some wv := fun X => by
    show (w1.alloc X).cell? ⟨b, 1, none⟩ = some wv
    rw [World.cell?_alloc_some _ _ _ (by simp [d1]), d1]
  have hcell6 : (waitW w1 i bytes).cell? ⟨b, 1, none⟩ = some wv := by
    unfold waitW
    rw [World.cell?_alloc_some _ _ _ (by simp [hcell]), hcell]
  have hS10 : (w'.setCell ⟨b, 1, none⟩ (.slice (some ⟨g, 0, none⟩) (D.step.2.waits.length + 1) c)).heap[w1.heap.size]? = some (.cells (wcell (↑i) bytes).toArray 98 (0, 0)) := by
    rw [Below.heap_setCell _ _ _ _ (Nat.ne_of_gt (hd.lt b (by simp)).2)]; exact hS7
  clear hcp hbu
  refine wp_region_held_drew (S := fun w' => w'.heap[w1.heap.size]? = some (.cells (wcell (↑i) bytes).toArray 98 (0, 0))) (by kernel_rfl) (heap_alloc_new _ _) ?_
  intro hS
  refine anyH_take 0 ⟨some 32, .move (.tmp 0), _, _, _, none⟩ (.pointer (some ⟨b, 0, none⟩)) rfl rfl (by kernel_rfl) (by kernel_rfl) (by kernel_rfl) (fun _ _ _ h => h) (fun _ _ => rfl) hS ?_
  simp only [Act.put, List.setIfInBounds_toArray, List.set_cons_zero, List.set_cons_succ]
  refine anyH_take 1 ⟨some 33, .move (.tmp 0), _, _, _, none⟩ (.pointer (some ⟨b, 0, none⟩)) rfl rfl (by kernel_rfl) (by kernel_rfl) (by kernel_rfl) (fun _ _ _ h => h) (fun _ _ => rfl) hS ?_
  simp only [Act.put, List.setIfInBounds_toArray, List.set_cons_zero, List.set_cons_succ]
  refine anyH_take 2 ⟨some 34, .nilCheck (.tmp 33), _, _, _, none⟩ (.pointer (some ⟨b, 0, none⟩)) rfl rfl (by kernel_rfl) (by kernel_rfl) (by kernel_rfl) (fun _ _ _ h => h) (fun _ _ => rfl) hS ?_
  simp only [Act.put, List.setIfInBounds_toArray, List.set_cons_zero, List.set_cons_succ]
  refine anyH_take 3 ⟨some 35, .fieldAddr 83 (.tmp 34) 1, _, _, _, none⟩ (.pointer (some ⟨b, 1, none⟩)) rfl rfl (by kernel_rfl) (by kernel_rfl) (by kernel_rfl) (fun _ _ _ h => h) (fun w _ => exec_v (field66 b w)) hS ?_
  simp only [Act.put, List.setIfInBounds_toArray, List.set_cons_zero, List.set_cons_succ]
  refine anyH_take 5 ⟨some 37, .load 98 (.tmp 7), _, _, _, none⟩ (.agg (wcell (↑i) bytes).toArray) rfl rfl (by kernel_rfl) (by kernel_rfl) (by kernel_rfl) (fun _ _ _ h => h) (fun w hw => exec_v (load75 hbl hw)) hS ?_
  simp only [Act.put, List.setIfInBounds_toArray, List.set_cons_zero, List.set_cons_succ]
  refine anyH_two 4 6 (by kernel_rfl) ?_ ?_
  · refine wpOp_run (o := ⟨some 36, .load 81 (.tmp 35), _, _, _, none⟩) rfl rfl (exec_v (load64 (hcell _))) ⟨hS, ?_⟩
    simp only [Act.put, List.setIfInBounds_toArray, List.set_cons_zero, List.set_cons_succ]
    refine anyH_one 6 ⟨some 38, .buildSlice 81 1 #[(0, .tmp 37)], _, _, _, none⟩ (.slice (some ⟨w1.heap.size + 1, 0, none⟩) 1 1) (waitW w1 i bytes) (by kernel_rfl) rfl rfl (exec_buildSlice (X := .agg (wcell (↑i) bytes).toArray) rfl (slice75w w1 i bytes hbl)) hS6 ?_
    simp only [Act.put, List.setIfInBounds_toArray, List.set_cons_zero, List.set_cons_succ]
    refine anyH_one 7 ⟨some 39, .call { callee := .builtin .append, args := #[.tmp 36, .tmp 38], argTypes := #[81, 81] }, _, _, _, none⟩ _ w' (by kernel_rfl) rfl rfl (exec_append (u := wv) (s := .slice (some ⟨w1.heap.size + 1, 0, none⟩) 1 1) rfl rfl hrun) hS7 ?_
    simp only [Act.put, List.setIfInBounds_toArray, List.set_cons_zero, List.set_cons_succ]
    refine anyH_one 8 ⟨some 40, .nilCheck (.tmp 32), _, _, _, none⟩ (.pointer (some ⟨b, 0, none⟩)) w' (by kernel_rfl) rfl rfl rfl hS7 ?_
    simp only [Act.put, List.setIfInBounds_toArray, List.set_cons_zero, List.set_cons_succ]
    refine anyH_one 9 ⟨some 41, .fieldAddr 83 (.tmp 40) 1, _, _, _, none⟩ (.pointer (some ⟨b, 1, none⟩)) w' (by kernel_rfl) rfl rfl (exec_v (field66 b _)) hS7 ?_
    simp only [Act.put, List.setIfInBounds_toArray, List.set_cons_zero, List.set_cons_succ]
    refine anyH_oneSkip 10 ⟨none, .store 81 (.tmp 41) (.tmp 39), _, _, _, none⟩ _ (by kernel_rfl) rfl rfl (exec_store64 rfl rfl hc7 hf7) hS10 ?_
    refine wpAnyH_done (by kernel_rfl) ?_ _
    go_wp2
    go_ret
    exact ⟨rfl, _, hd7, (hk.mono (fun k _ h => by simp only [List.mem_singleton] at h; simp [h])).trans hk7 (fun k hk h => h), fun k hk' => by
      simp only [Value.ownBlock, Option.some.injEq] at hk'
      subst hk'
      rcases hl7 with h | h
      · exact .inl h
      · right; have := hk.size; omega⟩
  · refine wpOp_run (o := ⟨some 38, .buildSlice 81 1 #[(0, .tmp 37)], _, _, _, none⟩) (v := .slice (some ⟨w1.heap.size + 1, 0, none⟩) 1 1) (w' := waitW w1 i bytes) rfl rfl (exec_buildSlice (X := .agg (wcell (↑i) bytes).toArray) rfl (slice75w w1 i bytes hbl)) ⟨hS6, ?_⟩
    simp only [Act.put, List.setIfInBounds_toArray, List.set_cons_zero, List.set_cons_succ]
    refine anyH_one 4 ⟨some 36, .load 81 (.tmp 35), _, _, _, none⟩ wv (waitW w1 i bytes) (by kernel_rfl) rfl rfl (exec_v (load64 hcell6)) hS6 ?_
    simp only [Act.put, List.setIfInBounds_toArray, List.set_cons_zero, List.set_cons_succ]
    refine anyH_one 7 ⟨some 39, .call { callee := .builtin .append, args := #[.tmp 36, .tmp 38], argTypes := #[81, 81] }, _, _, _, none⟩ _ w' (by kernel_rfl) rfl rfl (exec_append (u := wv) (s := .slice (some ⟨w1.heap.size + 1, 0, none⟩) 1 1) rfl rfl hrun) hS7 ?_
    simp only [Act.put, List.setIfInBounds_toArray, List.set_cons_zero, List.set_cons_succ]
    refine anyH_one 8 ⟨some 40, .nilCheck (.tmp 32), _, _, _, none⟩ (.pointer (some ⟨b, 0, none⟩)) w' (by kernel_rfl) rfl rfl rfl hS7 ?_
    simp only [Act.put, List.setIfInBounds_toArray, List.set_cons_zero, List.set_cons_succ]
    refine anyH_one 9 ⟨some 41, .fieldAddr 83 (.tmp 40) 1, _, _, _, none⟩ (.pointer (some ⟨b, 1, none⟩)) w' (by kernel_rfl) rfl rfl (exec_v (field66 b _)) hS7 ?_
    simp only [Act.put, List.setIfInBounds_toArray, List.set_cons_zero, List.set_cons_succ]
    refine anyH_oneSkip 10 ⟨none, .store 81 (.tmp 41) (.tmp 39), _, _, _, none⟩ _ (by kernel_rfl) rfl rfl (exec_store64 rfl rfl hc7 hf7) hS10 ?_
    refine wpAnyH_done (by kernel_rfl) ?_ _
    go_wp2
    go_ret
    exact ⟨rfl, _, hd7, (hk.mono (fun k _ h => by simp only [List.mem_singleton] at h; simp [h])).trans hk7 (fun k hk h => h), fun k hk' => by
      simp only [Value.ownBlock, Option.some.injEq] at hk'
      subst hk'
      rcases hl7 with h | h
      · exact .inl h
      · right; have := hk.size; omega⟩
end Go.Proofs.Ytambgimfbdecpaa
namespace Go.Proofs.Ytambgimfbdecpaa
open Go.RowKit
set_option linter.unusedVariables false

/-- All writes laid, one behind the other. -/
def layAll (l : List Int) (ws : List (Int × List Int)) : List Int := ws.foldl (fun s x => layS s x.1.toNat x.2) l
theorem layAll_snoc (l : List Int) (ws : List (Int × List Int)) (x : Int × List Int) : layAll l (ws ++ [x]) = layS (layAll l ws) x.1.toNat x.2 := by simp [layAll]
theorem layS_length (l : List Int) (n i : Nat) (b : List Int) (hl : l.length = n * 512) (hi : i < n) (hb : b.length ≤ 512) : (layS l i b).length = n * 512 := by
  unfold layS
  rw [length_splice _ _ _ (by omega)]
  exact hl

/-- The disk behind a flush. -/
def DS.flushed (D : DS) : DS := { D with secs := layAll D.secs D.waits, waits := [] }

theorem DiskAt.setSecs {w w' : World} {B b bs sc : Nat} {wv : Value} {D : DS} (h : DiskAt w B b bs sc wv D) (l : List Int) (hg : w.grownBy w' (some bs)) (ho : w'.ownsRow B 96 512 (.slice (some ⟨bs, 0, none⟩) D.n sc) D.n (bc l)) :
    DiskAt w' B b bs sc wv { D with secs := l } := by
  have hl := ho.1
  rw [bc_length] at hl
  refine { blk := ?_, secs := ho, waits := ?_, ne1 := h.ne1, ne2 := h.ne2, ne3 := h.ne3, hB := h.hB, good := { h.good with len := hl } }
  · rw [hg.block b (Array.getElem?_eq_some_iff.1 h.blk).1 (by simpa using (Ne.symm h.ne1))]; exact h.blk
  · exact ownsRow_block h.waits fun i hi => hg.block i (h.waits.lt i hi).2 (by rw [← hi]; exact h.ne3)

theorem DiskAt.setNoWaits {w : World} {B b bs sc : Nat} {wv : Value} {D : DS} (h : DiskAt w B b bs sc wv D) :
    DiskAt (w.setCell ⟨b, 1, none⟩ (.slice none 0 0)) B b bs sc (.slice none 0 0) { D with waits := [] } := by
  have hk := Kept.setCell [b] w ⟨b, 1, none⟩ (.slice none 0 0) (by simp)
  refine { blk := ?_, secs := ?_, waits := World.ownsRow_nil _ _ _ _, ne1 := h.ne1, ne2 := by simp [Value.ownBlock], ne3 := by simp [Value.ownBlock], hB := h.hB, good := { h.good with wl := by simp, w := by simp } }
  · simp [World.setCell, Array.getElem?_modify, h.blk]
  · exact ownsRow_block h.secs fun i hi => hk.block i (h.secs.lt i hi).2 (by simp only [Value.ownBlock, Option.some.injEq] at hi; subst hi; simpa using h.ne1)

theorem lay_512 {w : World} {B b bs n sc : Nat} {l : List Int} (h0 : w.cell? ⟨b, 0, none⟩ = some (.slice (some ⟨bs, 0, none⟩) n sc))
    (h : w.ownsRow B 96 512 (.slice (some ⟨bs, 0, none⟩) n sc) n (bc l)) (i : Nat) (hi : i < n) (hn : n ≤ 4096) (a : Addr) (c : Nat) (bytes : List Int) (hl : bytes.length = 512)
    (hsrc : ∀ j v, (bc bytes)[j]? = some v → w.cell? (a.add j) = some v) :
    Calls Try.prog 47 #[.pointer (some ⟨b, 0, none⟩), .int .i64 i, .slice (some a) 512 c] w fun e w' => e = .returned (.tuple #[]) ∧
      w'.ownsRow B 96 512 (.slice (some ⟨bs, 0, none⟩) n sc) n (bc (layS l i bytes)) ∧ w.grownBy w' (some bs) := by
  have := lay_any h0 h i hi hn a c bytes (by omega) hsrc
  rw [hl] at this
  exact this

set_option maxRecDepth 100000 in
set_option maxHeartbeats 1000000 in
theorem flush_power {w : World} {B b bs sc : Nat} {wv : Value} {D : DS} (h : DiskAt w B b bs sc wv D) (hs : D.steps < 1000) (hp : D.step.1 = false) :
    Calls Try.prog 92 #[.pointer (some ⟨b, 0, none⟩)] w fun e w' => e = .returned (.int .i64 9) ∧ DiskAt w' B b bs sc wv D.step.2 ∧ Kept [b] w w' := by
  have HH := hid h
  have HP := hid hp
  clear h hp
  go_enter Try.func92, Try.ntmps92
  go_wp2_with (go_at_call 49; refine (step_any HH.out hs).mono ?_; rw [HP.out]; rintro e w1 ⟨rfl, hd, hk⟩)
  go_ret
  exact ⟨rfl, hd, hk⟩

set_option maxRecDepth 100000 in
set_option maxHeartbeats 2000000 in
theorem flush_yes {w : World} {B b bs sc : Nat} {wv : Value} {D : DS} (h : DiskAt w B b bs sc wv D) (hs : D.steps < 1000) (hp : D.step.1 = true) :
    Calls Try.prog 92 #[.pointer (some ⟨b, 0, none⟩)] w fun e w' => e = .returned (.int .i64 0) ∧ DiskAt w' B b bs sc (.slice none 0 0) D.step.2.flushed ∧ Kept [b, bs] w w' := by
  have HH := hid h
  have HP := hid hp
  clear h hp
  go_enter Try.func92, Try.ntmps92
  go_wp2_with (go_at_call 49; refine (step_any HH.out hs).mono ?_; rw [HP.out]; rintro e w1 ⟨rfl, hd, hk⟩; obtain ⟨a, c, rfl⟩ := hd.wvSlice; obtain ⟨d0, d1, d2, d3, d4⟩ := hd.cells; have HD := hid hd; have HW := hd.good.wl; clear hd)
  obtain ⟨E, hE⟩ : ∃ E, E = D.step.2 := ⟨_, rfl⟩
  rw [← hE] at HD HW d0 d1 d2 d3 d4 ⊢
  have HE := hid hE
  clear hE
  go_loopw [14] (fun q wr => ∃ k : Nat, k ≤ E.waits.length ∧ q = .int .i64 k ∧ DiskAt wr B b bs sc (.slice a E.waits.length c) { E with secs := layAll E.secs (E.waits.take k) } ∧ Kept [bs] w1 wr) (fun q _ => E.waits.length - (intOf q).toNat)
  case atStart => exact ⟨0, by omega, rfl, by simpa [layAll] using HD.out, Kept.refl _ _⟩
  case round =>
    obtain ⟨k, hkl, rfl, hdr, hkr⟩ := hrel
    obtain ⟨f0, f1, f2, f3, f4⟩ := hdr.cells
    simp only at f0 f1 f2 f3 f4
    by_cases hlt : k < E.waits.length
    · obtain ⟨bw, wc, e, hc1, hc2⟩ := wait_cells hdr k hlt
      simp only [Value.slice.injEq, true_and] at e
      obtain ⟨rfl, rfl⟩ := e
      have HR := hid hdr
      have HC := hid hc2
      clear hdr hc2 d0 d1 d2 d3 d4
      obtain ⟨at_, hat⟩ : ∃ m : Nat, (E.waits[k]).1 = m := ⟨(E.waits[k]).1.toNat, by have := (HR.out.good.w _ (List.getElem_mem hlt)).1; omega⟩
      have hatn : at_ < E.n := by have := (HR.out.good.w _ (List.getElem_mem hlt)).2.1; simp only at this; omega
      have hx : (E.waits[k]).2.length = 512 := (HR.out.good.w _ (List.getElem_mem hlt)).2.2
      have hn2 : E.n ≤ 4096 := HR.out.good.n2
      simp only at hc1
      rw [hat] at hc1
      have HA := hid hat
      have HX := hid hx
      clear hat hx
      have hlay := lay_512 (w := wr.drew) f0 HR.out.secs at_ hatn hn2 ⟨bw, k * 513 + 1, none⟩ 512 (E.waits[k]).2 HX.out HC.out
      have HN1 : Hid (some b ≠ some bs) := by have := HR.out.ne1; simp only [ne_eq, Option.some.injEq]; exact fun h => this h.symm
      have HN2 : Hid (some bw ≠ some bs) := HR.out.ne3
      have HL := hid hlay
      clear hlay
      go_wp2
      go_region_held3 (fun w' => w'.cell? ⟨b, 1, none⟩ = some (.slice (some ⟨bw, 0, none⟩) E.waits.length c) ∧ w'.cell? ⟨bw, k * 513, none⟩ = some (.int .i64 at_)) (first | go_keep) (first | (go_at_call 47; refine HL.out.mono ?_; rintro e w2 ⟨rfl, ho, hg⟩; have hb1 : w2.cell? ⟨b, 1, none⟩ = some (.slice (some ⟨bw, 0, none⟩) E.waits.length c) := hg.cell f1 HN1.out; have hb2 : w2.cell? ⟨bw, k * 513, none⟩ = some (.int .i64 at_) := hg.cell hc1 HN2.out))
      clear hb1 hb2
      go_wp2
      go_roundw
      case rel =>
        refine ⟨k + 1, by omega, by go_num, ?_, ?_⟩
        · have h2 := (HR.out.keep (Kept.drew [] wr) (by simp)).setSecs _ hg ho
          have e : layAll E.secs (E.waits.take (k + 1)) = layS (layAll E.secs (E.waits.take k)) at_ (E.waits[k]).2 := by
            rw [List.take_succ_eq_append_getElem hlt, layAll_snoc, HA.out, Int.toNat_natCast]
          rw [e]
          exact h2
        · exact hkr.trans ((Kept.drew [bs] wr).trans (Kept.ofGrown hg [bs] (fun k h => by simpa using h.symm)) (fun _ _ h => h)) (fun _ _ h => h)
      case measure => simp [intOf]; omega
    · have e : k = E.waits.length := by omega
      subst e
      have hfr := hdr.free 1
      rw [List.take_length] at hdr
      have HR := hid hdr
      clear hdr d0 d1 d2 d3 d4
      go_wp2
      go_ret
      refine ⟨rfl, by rw [← HE.out]; exact HR.out.setNoWaits, ?_⟩
      exact ((hk.mono (fun k _ h => by simp only [List.mem_singleton] at h; simp [h])).trans hkr (fun k _ h => by simp only [List.mem_singleton] at h; simp [h])).trans (Kept.setCell [b] _ _ _ (by simp)) (fun k _ h => by simp only [List.mem_singleton] at h; simp [h])
end Go.Proofs.Ytambgimfbdecpaa
