/- What this text holds: a write to the document's own disk. -/
import Derived.Test.YtambgimfbdecpaaQ18
namespace Go.Proofs.Ytambgimfbdecpaa
open Go.RowKit
set_option linter.unusedVariables false

theorem Try.info100 : (Try.prog.info? 100).map (fun i => (i.zero, i.size, i.bytes)) = some (some (.agg #[.int .i64 0, .string ⟨#[]⟩]), 2, 24) := by kernel_rfl
theorem build77 (i : Int) (s : ByteArray) (w : World) : (Instr.build 100 #[(0, .int .i64 i), (1, .string s)]).run Try.prog w = .ok (.agg #[.int .i64 i, .string s]) w := by kernel_rfl
theorem slice77 (x y : Value) (w : World) : (Instr.buildSlice 84 1 #[(0, .agg #[x, y])]).run Try.prog w = .ok (.slice (some ⟨w.heap.size, 0, none⟩) 1 1) (w.alloc (.cells #[x, y] 100)) := by kernel_rfl
theorem field70 (r : Nat) (w : World) : (Instr.fieldAt 86 (.pointer (some ⟨r, 0, none⟩)) 1).run Try.prog w = .ok (.pointer (some ⟨r, 1, none⟩)) w := by kernel_rfl
theorem load68 {b : Nat} {v : Value} {w : World} (h : w.cell? ⟨b, 1, none⟩ = some v) : (Instr.loadAt 84 (.pointer (some ⟨b, 1, none⟩))).run Try.prog w = .ok v w := by
  simp [Instr.loadAt, Instr.sureAddr, loadVar, isAgg, run_underlying Try.underlying84, h]
theorem size68 : (Try.prog.info? 84).map (·.size) = some 1 := by kernel_rfl
theorem exec_store68 {a : Act} {x y : Operand} {b g n c : Nat} {u : Value} {w : World} {d : Option Tmp} {ty : Nat} {pos : String} {af : Array Edge} {gd : Option (Nat × Bool)} (hx : a.eval x = .pointer (some ⟨b, 1, none⟩)) (hy : a.eval y = .slice (some ⟨g, 0, none⟩) n c)
    (h : w.cell? ⟨b, 1, none⟩ = some u) (hf : w.frozen? ⟨b, 1, none⟩ = false) :
    (execOp a.eval ⟨d, .store 84 x y, ty, pos, af, gd⟩).run Try.prog w = .ok .skip (w.setCell ⟨b, 1, none⟩ (.slice (some ⟨g, 0, none⟩) n c)) := by
  have hs := size68
  cases hq : Try.prog.info? 84 with
  | none => simp [hq] at hs
  | some i =>
    have h1 : i.size = 1 := by simpa [hq] using hs
    have e : (⟨b, 1, none⟩ : Addr).add 0 = ⟨b, 1, none⟩ := rfl
    simp [execOp, hx, hy, Instr.storeAt, Instr.sureAddr, storeVar, sizeOf, typeInfo, hq, h1, Value.cells, storeCells, e, store, Sem.run, h, hf]
theorem exec_build2 {a : Act} {x y : Operand} {u s : Value} {w : World} {v : Value} {d : Option Tmp} {t ty : Nat} {pos : String} {af : Array Edge} {g : Option (Nat × Bool)} (hx : a.eval x = u) (hy : a.eval y = s)
    (h : (Instr.build t #[(0, u), (1, s)]).run Try.prog w = .ok v w) : (execOp a.eval ⟨d, .build t #[(0, x), (1, y)], ty, pos, af, g⟩).run Try.prog w = .ok (.value v) w := by
  simp only [execOp, List.map_toArray, List.map_cons, List.map_nil, hx, hy]
  exact exec_v h

/-- The world in which a write waits. -/
def rwaitW (w1 : World) (i : Int) (s : ByteArray) : World := w1.drew.alloc (.cells #[.int .i64 i, .string s] 100)
theorem rwaitW_kept (w1 : World) (i : Int) (s : ByteArray) : Kept [] w1 (rwaitW w1 i s) := (Kept.drew [] w1).trans (Kept.alloc [] _ _) (fun _ _ h => h)
theorem rwaitW_size (w1 : World) (i : Int) (s : ByteArray) : (rwaitW w1 i s).heap.size = w1.heap.size + 1 := by simp [rwaitW]
theorem slice77w (w1 : World) (i : Int) (s : ByteArray) : (Instr.buildSlice 84 1 #[(0, .agg #[.int .i64 i, .string s])]).run Try.prog w1.drew = .ok (.slice (some ⟨w1.heap.size, 0, none⟩) 1 1) (rwaitW w1 i s) := slice77 _ _ w1.drew
theorem two_cells (w1 : World) (i : Int) (s : ByteArray) : ∀ j u, [Value.int .i64 i, .string s][j]? = some u → (rwaitW w1 i s).cell? ((⟨w1.heap.size, 0, none⟩ : Addr).add j) = some u := by
  intro j u hu
  have h := heap_alloc_new w1.drew (.cells #[.int .i64 i, .string s] 100)
  rw [Addr.add_mid, Nat.zero_add]
  unfold rwaitW
  rw [cell_of_row _ w1.heap.size _ _ _ _ h]
  simpa using hu

theorem rappend_wait {w1 : World} {B r gl lc : Nat} {wv : Value} {D : DS} (hd : RDiskAt w1 B r gl lc wv D) (i : Nat) (hi : i < D.n) (bytes : List Int) (hbl : bytes.length = 512) (hwl : D.waits.length < 200) :
    ∃ g c w', (Builtin.append_ #[84, 84] 84 #[wv, .slice (some ⟨w1.heap.size, 0, none⟩) 1 1]).run Try.prog (rwaitW w1 i (strOf bytes)) = .ok (.slice (some ⟨g, 0, none⟩) (D.waits.length + 1) c) w' ∧
      w'.cell? ⟨r, 1, none⟩ = some wv ∧ w'.frozen? ⟨r, 1, none⟩ = false ∧ Kept wv.ownBlock.toList w1 w' ∧
      RDiskAt (w'.setCell ⟨r, 1, none⟩ (.slice (some ⟨g, 0, none⟩) (D.waits.length + 1) c)) B r gl lc (.slice (some ⟨g, 0, none⟩) (D.waits.length + 1) c) { D with waits := D.waits ++ [((i : Int), bytes)] } ∧
      Kept (r :: wv.ownBlock.toList) w1 (w'.setCell ⟨r, 1, none⟩ (.slice (some ⟨g, 0, none⟩) (D.waits.length + 1) c)) ∧ (wv.ownBlock = some g ∨ w1.heap.size ≤ g) := by
  obtain ⟨inf, hin, hz0, hz1, hz2⟩ := info_parts Try.info100
  have hk0 := rwaitW_kept w1 i (strOf bytes)
  have hd0 : RDiskAt (rwaitW w1 i (strOf bytes)) B r gl lc wv D := hd.keep hk0 (by simp)
  have hb : r < w1.heap.size := (hd.lt r (by simp)).2
  have hbs : gl < w1.heap.size := (hd.lt gl (by simp)).2
  obtain ⟨g, c, w', hrun, ho, hg, hlies, hlt⟩ := run_append_lies (P := Try.prog) (rwaitW w1 i (strOf bytes)) 84 84 B 100 inf _ 2 24 Try.underlying84 hin hz0 hz1 hz2 rfl (by omega) wv _ _ hd0.W
    ⟨w1.heap.size, 0, none⟩ 1 1 [.int .i64 i, .string (strOf bytes)] rfl (two_cells w1 i (strOf bytes)) (fun u hu => by
      simp only [List.mem_cons, List.not_mem_nil, or_false] at hu
      rcases hu with rfl | rfl <;> rfl) (by omega) (by unfold maxLen; omega) (by omega) (by rw [rwaitW_size]; have := hd.hB; omega) _ (rwaitW_size w1 i (strOf bytes))
  have hown : ∀ k, wv.ownBlock = some k → k < w1.heap.size := fun k hk => (hd.W.lt k hk).2
  have hkeep : Kept (wv.ownBlock.toList) (rwaitW w1 i (strOf bytes)) w' := Kept.ofGrown hg _ (fun k hk => by simp [hk])
  have hall : Kept (wv.ownBlock.toList) w1 w' := (hk0.mono (by simp)).trans hkeep (fun _ _ h => h)
  have hbb : w'.heap[r]? = w1.heap[r]? := hall.block r hb (by simpa using hd.ne2)
  have hg1 : g ≠ r := by
    rcases hlies with h | h
    · exact fun e => hd.ne2 (by rw [h, e])
    · omega
  have hg2 : g ≠ gl := by
    rcases hlies with h | h
    · exact fun e => hd.ne3 (by rw [h, e])
    · omega
  refine ⟨g, c, w', hrun, ?_, ?_, hall, ?_, ?_, ?_⟩
  · simp [World.cell?, hbb, hd.blk]
  · simp [World.frozen?, hbb, hd.blk]
  · have hkb := Kept.setCell [r] w' ⟨r, 1, none⟩ (.slice (some ⟨g, 0, none⟩) (D.waits.length + 1) c) (by simp)
    refine { blk := ?_, L := ?_, W := ?_, ne1 := hd.ne1, ne2 := by simpa [Value.ownBlock] using hg1, ne3 := by simpa [Value.ownBlock] using hg2, hB := hd.hB, good := { hd.good with wl := ?_, w := ?_ } }
    · simp [World.setCell, Array.getElem?_modify, hbb, hd.blk]
    · refine ownsRow_block hd.L fun k hk => ?_
      simp only [Value.ownBlock, Option.some.injEq] at hk
      subst hk
      rw [hkb.block gl (by have := hall.size; omega) (by simpa using hd.ne1)]
      exact hall.block gl hbs (by simpa using hd.ne3)
    · rw [rws_snoc]
      simp only [List.length_append, List.length_cons, List.length_nil]
      refine ownsRow_block ho fun k hk => ?_
      simp only [Value.ownBlock, Option.some.injEq] at hk
      subst hk
      exact hkb.block _ hlt (by simpa using hg1)
    · simp; omega
    · intro x hx
      simp only [List.mem_append, List.mem_singleton] at hx
      rcases hx with hx | rfl
      · exact hd.good.w x hx
      · exact ⟨by simp, by simpa using hi, hbl⟩
  · exact (hall.mono (T := r :: wv.ownBlock.toList) (fun k _ h => by simp only [List.mem_cons]; exact .inr h)).trans (Kept.setCell [r] w' _ _ (by simp)) (fun k _ h => by simp only [List.mem_singleton] at h; simp [h])
  · rcases hlies with h | h
    · exact .inl h
    · right; omega

/-- The bytes that are written lie there. -/
def SrcAt (a : Addr) (bytes : List Int) (w : World) : Prop := ∀ j v, (bc bytes)[j]? = some v → w.cell? (a.add j) = some v
theorem SrcAt.kept {a : Addr} {bytes : List Int} {w w' : World} {S : List Nat} (h : SrcAt a bytes w) (k : Kept S w w') (ha : a.block ∉ S) : SrcAt a bytes w' := fun j v hv =>
  k.cell (h j v hv) (by cases a; unfold Addr.add; split <;> simpa using ha)
theorem conv_src {w : World} {a : Addr} {c : Nat} {bytes : List Int} (hbl : bytes.length = 512) (h : SrcAt a bytes w) : (convert 46 9 (.slice (some a) 512 c)).run Try.prog w = .ok (.string (strOf bytes)) w := by
  rw [run_convert_bytes_string w 46 9 5 _ _ _ Try.underlying46 Try.underlying5 Try.underlying9]
  have hl := run_loadCells_list (P := Try.prog) w a (bc bytes) h
  rw [bc_length, hbl] at hl
  exact run_bytesToString w a 512 c bytes hl

set_option maxRecDepth 100000 in
set_option maxHeartbeats 2000000 in
theorem rwrite_yes {w : World} {B r gl lc : Nat} {wv : Value} {D : DS} (h : RDiskAt w B r gl lc wv D) (i : Nat) (a : Addr) (cap : Nat) (bytes : List Int) (hbl : bytes.length = 512)
    (hsrc : SrcAt a bytes w) (hab : a.block ∉ r :: wv.ownBlock.toList) (hi : i < D.n) (hs : D.steps < 1000) (hp : D.step.1 = true) (hwl : D.waits.length < 200) :
    Calls Try.prog 22 #[.pointer (some ⟨r, 0, none⟩), .int .i64 i, .slice (some a) 512 cap] w fun e w' => e = .returned (.int .i64 0) ∧ ∃ wv', RDiskAt w' B r gl lc wv' { D.step.2 with waits := D.step.2.waits ++ [((i : Int), bytes)] } ∧ Kept (r :: wv.ownBlock.toList) w w' ∧ (∀ k, wv'.ownBlock = some k → wv.ownBlock = some k ∨ w.heap.size ≤ k) := by
  obtain ⟨c0, c1, c2, c3, c4⟩ := h.cells
  have hn := h.good.n2
  have h0 : ¬ (i : Int) < 0 := by omega
  have h1 : (i : Int) < D.n := by omega
  have HH := hid h
  have HP := hid hp
  have HS := hid hsrc
  have HAB := hid hab
  have HI2 : Hid (i < D.step.2.n) := by rw [DS.step_n]; exact hi
  have HW : Hid (D.step.2.waits.length < 200) := by rw [DS.step_waits]; exact hwl
  clear h hp hsrc hab
  go_enter Try.func22, Try.ntmps22
  go_wp2_with (go_at_call 50; refine (rstep_any HH.out hs).mono ?_; rw [HP.out]; rintro e w1 ⟨rfl, hd, hk⟩; have HD := hid hd; clear hd)
  have hd := HD.out
  obtain ⟨d0, d1, d2, d3, d4⟩ := hd.cells
  obtain ⟨g, c, w', hrun, hc7, hf7, hka7, hd7, hk7, hl7⟩ := rappend_wait hd i HI2.out bytes hbl HW.out
  have hS1 : SrcAt a bytes w1 := HS.out.kept hk (fun hm => HAB.out (by simp only [List.mem_singleton] at hm; simp [hm]))
  have hS6 : SrcAt a bytes (rwaitW w1 i (strOf bytes)) := hS1.kept (rwaitW_kept w1 i _) (by simp)
  have hS7 : SrcAt a bytes w' := hS1.kept hka7 (fun hm => HAB.out (by simp only [List.mem_cons]; exact .inr hm))
  have hS10 : SrcAt a bytes (w'.setCell ⟨r, 1, none⟩ (.slice (some ⟨g, 0, none⟩) (D.step.2.waits.length + 1) c)) := hS7.kept (Kept.setCell [r] w' _ _ (by simp)) (fun hm => HAB.out (by simp only [List.mem_singleton] at hm; simp [hm]))
  have hcell : w1.drew.cell? ⟨r, 1, none⟩ = some wv := d1
  have hcell6 : (rwaitW w1 i (strOf bytes)).cell? ⟨r, 1, none⟩ = some wv := (rwaitW_kept w1 i _).cell d1 (by simp)
  refine wp_region_held_drew (S := SrcAt a bytes) (by kernel_rfl) hS1 ?_
  intro hS
  refine anyH_take 0 ⟨some 24, .move (.tmp 0), _, _, _, none⟩ (.pointer (some ⟨r, 0, none⟩)) rfl rfl (by kernel_rfl) (by kernel_rfl) (by kernel_rfl) (fun _ _ _ h => h) (fun _ _ => rfl) hS ?_
  simp only [Act.put, List.setIfInBounds_toArray, List.set_cons_zero, List.set_cons_succ]
  refine anyH_take 1 ⟨some 25, .move (.tmp 0), _, _, _, none⟩ (.pointer (some ⟨r, 0, none⟩)) rfl rfl (by kernel_rfl) (by kernel_rfl) (by kernel_rfl) (fun _ _ _ h => h) (fun _ _ => rfl) hS ?_
  simp only [Act.put, List.setIfInBounds_toArray, List.set_cons_zero, List.set_cons_succ]
  refine anyH_take 2 ⟨some 26, .nilCheck (.tmp 25), _, _, _, none⟩ (.pointer (some ⟨r, 0, none⟩)) rfl rfl (by kernel_rfl) (by kernel_rfl) (by kernel_rfl) (fun _ _ _ h => h) (fun _ _ => rfl) hS ?_
  simp only [Act.put, List.setIfInBounds_toArray, List.set_cons_zero, List.set_cons_succ]
  refine anyH_take 3 ⟨some 27, .fieldAddr 86 (.tmp 26) 1, _, _, _, none⟩ (.pointer (some ⟨r, 1, none⟩)) rfl rfl (by kernel_rfl) (by kernel_rfl) (by kernel_rfl) (fun _ _ _ h => h) (fun w _ => exec_v (field70 r w)) hS ?_
  simp only [Act.put, List.setIfInBounds_toArray, List.set_cons_zero, List.set_cons_succ]
  refine anyH_take 5 ⟨some 29, .move (.tmp 1), _, _, _, none⟩ (.int .i64 i) rfl rfl (by kernel_rfl) (by kernel_rfl) (by kernel_rfl) (fun _ _ _ h => h) (fun _ _ => rfl) hS ?_
  simp only [Act.put, List.setIfInBounds_toArray, List.set_cons_zero, List.set_cons_succ]
  refine anyH_take 6 ⟨some 30, .move (.tmp 2), _, _, _, none⟩ (.slice (some a) 512 cap) rfl rfl (by kernel_rfl) (by kernel_rfl) (by kernel_rfl) (fun _ _ _ h => h) (fun _ _ => rfl) hS ?_
  simp only [Act.put, List.setIfInBounds_toArray, List.set_cons_zero, List.set_cons_succ]
  refine anyH_take 7 ⟨some 31, .convert 46 9 (.tmp 30), _, _, _, none⟩ (.string (strOf bytes)) rfl rfl (by kernel_rfl) (by kernel_rfl) (by kernel_rfl) (fun _ _ _ h => h) (fun w hw => exec_v (conv_src hbl hw)) hS ?_
  simp only [Act.put, List.setIfInBounds_toArray, List.set_cons_zero, List.set_cons_succ]
  refine anyH_take 8 ⟨some 32, .build 100 #[(0, .tmp 29), (1, .tmp 31)], _, _, _, none⟩ (.agg #[.int .i64 i, .string (strOf bytes)]) rfl rfl (by kernel_rfl) (by kernel_rfl) (by kernel_rfl) (fun _ _ _ h => h) (fun w _ => exec_build2 (u := .int .i64 i) (s := .string (strOf bytes)) rfl rfl (build77 i (strOf bytes) w)) hS ?_
  simp only [Act.put, List.setIfInBounds_toArray, List.set_cons_zero, List.set_cons_succ]
  refine anyH_two 4 9 (by kernel_rfl) ?_ ?_
  · refine wpOp_run (o := ⟨some 28, .load 84 (.tmp 27), _, _, _, none⟩) rfl rfl (exec_v (load68 hcell)) ⟨hS, ?_⟩
    simp only [Act.put, List.setIfInBounds_toArray, List.set_cons_zero, List.set_cons_succ]
    refine anyH_one 9 ⟨some 33, .buildSlice 84 1 #[(0, .tmp 32)], _, _, _, none⟩ (.slice (some ⟨w1.heap.size, 0, none⟩) 1 1) (rwaitW w1 i (strOf bytes)) (by kernel_rfl) rfl rfl (exec_buildSlice (X := .agg #[.int .i64 i, .string (strOf bytes)]) rfl (slice77w w1 i (strOf bytes))) hS6 ?_
    simp only [Act.put, List.setIfInBounds_toArray, List.set_cons_zero, List.set_cons_succ]
    refine anyH_one 10 ⟨some 34, .call { callee := .builtin .append, args := #[.tmp 28, .tmp 33], argTypes := #[84, 84] }, _, _, _, none⟩ _ w' (by kernel_rfl) rfl rfl (exec_append (u := wv) (s := .slice (some ⟨w1.heap.size, 0, none⟩) 1 1) rfl rfl hrun) hS7 ?_
    simp only [Act.put, List.setIfInBounds_toArray, List.set_cons_zero, List.set_cons_succ]
    refine anyH_one 11 ⟨some 35, .nilCheck (.tmp 24), _, _, _, none⟩ (.pointer (some ⟨r, 0, none⟩)) w' (by kernel_rfl) rfl rfl rfl hS7 ?_
    simp only [Act.put, List.setIfInBounds_toArray, List.set_cons_zero, List.set_cons_succ]
    refine anyH_one 12 ⟨some 36, .fieldAddr 86 (.tmp 35) 1, _, _, _, none⟩ (.pointer (some ⟨r, 1, none⟩)) w' (by kernel_rfl) rfl rfl (exec_v (field70 r _)) hS7 ?_
    simp only [Act.put, List.setIfInBounds_toArray, List.set_cons_zero, List.set_cons_succ]
    refine anyH_oneSkip 13 ⟨none, .store 84 (.tmp 36) (.tmp 34), _, _, _, none⟩ _ (by kernel_rfl) rfl rfl (exec_store68 rfl rfl hc7 hf7) hS10 ?_
    refine wpAnyH_done (by kernel_rfl) ?_ _
    go_wp2
    go_ret
    exact ⟨rfl, _, hd7, (hk.mono (fun k _ h => by simp only [List.mem_singleton] at h; simp [h])).trans hk7 (fun k hk h => h), fun k hk' => by
      simp only [Value.ownBlock, Option.some.injEq] at hk'
      subst hk'
      rcases hl7 with h | h
      · exact .inl h
      · right; have := hk.size; omega⟩
  · refine wpOp_run (o := ⟨some 33, .buildSlice 84 1 #[(0, .tmp 32)], _, _, _, none⟩) (v := .slice (some ⟨w1.heap.size, 0, none⟩) 1 1) (w' := rwaitW w1 i (strOf bytes)) rfl rfl (exec_buildSlice (X := .agg #[.int .i64 i, .string (strOf bytes)]) rfl (slice77w w1 i (strOf bytes))) ⟨hS6, ?_⟩
    simp only [Act.put, List.setIfInBounds_toArray, List.set_cons_zero, List.set_cons_succ]
    refine anyH_one 4 ⟨some 28, .load 84 (.tmp 27), _, _, _, none⟩ wv (rwaitW w1 i (strOf bytes)) (by kernel_rfl) rfl rfl (exec_v (load68 hcell6)) hS6 ?_
    simp only [Act.put, List.setIfInBounds_toArray, List.set_cons_zero, List.set_cons_succ]
    refine anyH_one 10 ⟨some 34, .call { callee := .builtin .append, args := #[.tmp 28, .tmp 33], argTypes := #[84, 84] }, _, _, _, none⟩ _ w' (by kernel_rfl) rfl rfl (exec_append (u := wv) (s := .slice (some ⟨w1.heap.size, 0, none⟩) 1 1) rfl rfl hrun) hS7 ?_
    simp only [Act.put, List.setIfInBounds_toArray, List.set_cons_zero, List.set_cons_succ]
    refine anyH_one 11 ⟨some 35, .nilCheck (.tmp 24), _, _, _, none⟩ (.pointer (some ⟨r, 0, none⟩)) w' (by kernel_rfl) rfl rfl rfl hS7 ?_
    simp only [Act.put, List.setIfInBounds_toArray, List.set_cons_zero, List.set_cons_succ]
    refine anyH_one 12 ⟨some 36, .fieldAddr 86 (.tmp 35) 1, _, _, _, none⟩ (.pointer (some ⟨r, 1, none⟩)) w' (by kernel_rfl) rfl rfl (exec_v (field70 r _)) hS7 ?_
    simp only [Act.put, List.setIfInBounds_toArray, List.set_cons_zero, List.set_cons_succ]
    refine anyH_oneSkip 13 ⟨none, .store 84 (.tmp 36) (.tmp 34), _, _, _, none⟩ _ (by kernel_rfl) rfl rfl (exec_store68 rfl rfl hc7 hf7) hS10 ?_
    refine wpAnyH_done (by kernel_rfl) ?_ _
    go_wp2
    go_ret
    exact ⟨rfl, _, hd7, (hk.mono (fun k _ h => by simp only [List.mem_singleton] at h; simp [h])).trans hk7 (fun k hk h => h), fun k hk' => by
      simp only [Value.ownBlock, Option.some.injEq] at hk'
      subst hk'
      rcases hl7 with h | h
      · exact .inl h
      · right; have := hk.size; omega⟩
end Go.Proofs.Ytambgimfbdecpaa
