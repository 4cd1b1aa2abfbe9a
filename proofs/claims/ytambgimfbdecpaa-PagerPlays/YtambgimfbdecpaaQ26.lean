/- What this text holds: Pin of the document's own pager. · What this text holds: Format of the document's own pager, on a disk that has power. -/
import Derived.Test.YtambgimfbdecpaaQ25
namespace Go.Proofs.Ytambgimfbdecpaa
open Go.RowKit
set_option linter.unusedVariables false

theorem Try.info3p : (Try.prog.info? 3).map (fun i => (i.zero, i.size, i.bytes)) = some (some (.int .i64 0), 1, 8) := by kernel_rfl
theorem slice3 (x : Value) (hx : ∃ z, x = .int .i64 z) (w : World) : (Instr.buildSlice 51 1 #[(0, x)]).run Try.prog w = .ok (.slice (some ⟨w.heap.size, 0, none⟩) 1 1) (w.alloc (.cells #[x] 3)) := by
  obtain ⟨z, rfl⟩ := hx
  kernel_rfl
theorem field53f (b : Nat) (w : World) : (Instr.fieldAt 53 (.pointer (some ⟨b, 0, none⟩)) 5).run Try.prog w = .ok (.pointer (some ⟨b, 5, none⟩)) w := by kernel_rfl
theorem load51 {b k : Nat} {v : Value} {w : World} (h : w.cell? ⟨b, k, none⟩ = some v) : (Instr.loadAt 51 (.pointer (some ⟨b, k, none⟩))).run Try.prog w = .ok v w := by
  simp [Instr.loadAt, Instr.sureAddr, loadVar, isAgg, run_underlying Try.underlying51, h]
theorem size51 : (Try.prog.info? 51).map (·.size) = some 1 := by kernel_rfl
theorem exec_store51 {a : Act} {x y : Operand} {b o g n c : Nat} {u : Value} {w : World} {d : Option Tmp} {ty : Nat} {pos : String} {af : Array Edge} {gd : Option (Nat × Bool)} (hx : a.eval x = .pointer (some ⟨b, o, none⟩)) (hy : a.eval y = .slice (some ⟨g, 0, none⟩) n c)
    (h : w.cell? ⟨b, o, none⟩ = some u) (hf : w.frozen? ⟨b, o, none⟩ = false) :
    (execOp a.eval ⟨d, .store 51 x y, ty, pos, af, gd⟩).run Try.prog w = .ok .skip (w.setCell ⟨b, o, none⟩ (.slice (some ⟨g, 0, none⟩) n c)) := by
  have hs := size51
  cases hq : Try.prog.info? 51 with
  | none => simp [hq] at hs
  | some i =>
    have h1 : i.size = 1 := by simpa [hq] using hs
    have e : (⟨b, o, none⟩ : Addr).add 0 = ⟨b, o, none⟩ := rfl
    simp [execOp, hx, hy, Instr.storeAt, Instr.sureAddr, storeVar, sizeOf, typeInfo, hq, h1, Value.cells, storeCells, e, store, Sem.run, h, hf]

def RS.pin (R : RS) : RS := { R with pins := R.pins ++ [R.gen] }

section
variable {w w0 w' : World} {B b c gi gf : Nat} {pv : Value} {own : List Nat} {R : RS}

/-- The pins lie anew. -/
theorem RAt.setPins {g cp : Nat} {pins : List Int} (h : RAt w B b c gi gf pv own R) (hk : Kept pv.ownBlock.toList w w') (hp : w'.ownsRow B 3 1 (.slice (some ⟨g, 0, none⟩) pins.length cp) pins.length (ints pins)) (hg : pv.ownBlock = some g ∨ w.heap.size ≤ g) :
    RAt (w'.setCell ⟨b, 5, none⟩ (.slice (some ⟨g, 0, none⟩) pins.length cp)) B b c gi gf (.slice (some ⟨g, 0, none⟩) pins.length cp) own { R with pins := pins } := by
  have nm : ∀ k ∈ rall b gi gf pv own, pv.ownBlock ≠ some k → g ≠ k := fun k hk hne e => by
    rcases hg with h1 | h1
    · exact hne (by rw [h1, e])
    · have := (h.lt k hk).2; omega
  have hall : ∀ k ∈ rall b gi gf pv own, pv.ownBlock ≠ some k → w'.heap[k]? = w.heap[k]? := fun k hk' hne => hk.block k (h.lt k hk').2 (by simpa using hne)
  have gb : g ≠ b := nm b (by simp [rall]) h.n4
  have ggi : g ≠ gi := nm gi (by simp [rall]) h.n5
  have ggf : g ≠ gf := nm gf (by simp [rall]) h.n6
  have gown : g ∉ own := fun hm => by
    rcases hg with h1 | h1
    · exact h.m4 g h1 hm
    · have := (h.disk.lt g hm).2; omega
  have hkb := Kept.setCell [b] w' ⟨b, 5, none⟩ (.slice (some ⟨g, 0, none⟩) pins.length cp) (by simp)
  have hsz := hk.size
  have hd : RDisk w' B c own R.D := h.disk.keep hk (fun i hi hm => by simp only [Option.mem_toList] at hm; exact h.m4 i hm hi)
  refine { h with blk := ?_, is := ?_, fo := ?_, pins := ?_, disk := hd.keep hkb (fun i hi hm => by simp only [List.mem_singleton] at hm; exact h.m1 (hm ▸ hi)), n4 := by simpa [Value.ownBlock] using gb, n5 := by simpa [Value.ownBlock] using ggi, n6 := by simpa [Value.ownBlock] using ggf, m4 := fun k hk => by simp only [Value.ownBlock, Option.some.injEq] at hk; exact hk ▸ gown }
  · simp [World.setCell, Array.getElem?_modify, hall b (by simp [rall]) h.n4, h.blk]
  · rw [hkb.block gi (by have := (h.lt gi (by simp [rall])).2; omega) (by simpa using h.n1), hall gi (by simp [rall]) h.n5]; exact h.is
  · rw [hkb.block gf (by have := (h.lt gf (by simp [rall])).2; omega) (by simpa using h.n2), hall gf (by simp [rall]) h.n6]; exact h.fo
  · exact ownsRow_block hp fun k hk' => by
      simp only [Value.ownBlock, Option.some.injEq] at hk'
      subst hk'
      exact hkb.block _ (hp.lt g rfl).2 (by simpa using gb)

def pinW (w : World) (g : Int) : World := w.drew.alloc (.cells #[.int .i64 g] 3)
theorem pinW_kept (w : World) (g : Int) : Kept [] w (pinW w g) := (Kept.drew [] w).trans (Kept.alloc [] _ _) (fun _ _ h => h)
theorem pinW_size (w : World) (g : Int) : (pinW w g).heap.size = w.heap.size + 1 := by simp [pinW]
theorem pinW_cells (w : World) (g : Int) : ∀ j u, [Value.int .i64 g][j]? = some u → (pinW w g).cell? ((⟨w.heap.size, 0, none⟩ : Addr).add j) = some u := by
  intro j u hu
  have h := heap_alloc_new w.drew (.cells #[.int .i64 g] 3)
  rw [Addr.add_mid, Nat.zero_add]
  unfold pinW
  rw [cell_of_row _ w.heap.size _ _ _ _ h]
  simpa using hu
theorem slice3w (w : World) (g : Int) : (Instr.buildSlice 51 1 #[(0, .int .i64 g)]).run Try.prog w.drew = .ok (.slice (some ⟨w.heap.size, 0, none⟩) 1 1) (pinW w g) := slice3 _ ⟨g, rfl⟩ w.drew

theorem rappend_pin (h : RAt w B b c gi gf pv own R) (hl : R.pins.length ≤ 1000) :
    ∃ g cp w', (Builtin.append_ #[51, 51] 51 #[pv, .slice (some ⟨w.heap.size, 0, none⟩) 1 1]).run Try.prog (pinW w R.gen) = .ok (.slice (some ⟨g, 0, none⟩) (R.pins.length + 1) cp) w' ∧
      w'.ownsRow B 3 1 (.slice (some ⟨g, 0, none⟩) (R.pins.length + 1) cp) (R.pins.length + 1) (ints (R.pins ++ [R.gen])) ∧ Kept pv.ownBlock.toList w w' ∧ (pv.ownBlock = some g ∨ w.heap.size ≤ g) := by
  obtain ⟨inf, hin, hz0, hz1, hz2⟩ := info_parts Try.info3p
  have hk0 := pinW_kept w R.gen
  have h0 := h.keep hk0 (by simp)
  obtain ⟨g, cp, w', hrun, ho, hg, hlies, hlt⟩ := run_append_lies (P := Try.prog) (pinW w R.gen) 51 51 B 3 inf _ 1 8 Try.underlying51 hin hz0 hz1 hz2 rfl (by omega) pv _ _ h0.pins
    ⟨w.heap.size, 0, none⟩ 1 1 [.int .i64 R.gen] rfl (pinW_cells w R.gen) (fun u hu => by
      simp only [List.mem_cons, List.not_mem_nil, or_false] at hu
      rcases hu with rfl; rfl) (by omega) (by unfold maxLen; omega) (by omega) (by rw [pinW_size]; have := h.hb; have := (h.lt b (by simp [rall])).2; omega) _ (pinW_size w R.gen)
  have hkeep : Kept (pv.ownBlock.toList) (pinW w R.gen) w' := Kept.ofGrown hg _ (fun k hk => by simp [hk])
  refine ⟨g, cp, w', hrun, ?_, (hk0.mono (by simp)).trans hkeep (fun _ _ h => h), ?_⟩
  · have e : ints (R.pins ++ [R.gen]) = ints R.pins ++ [.int .i64 R.gen] := by simp [ints]
    rw [e]; exact ho
  · rcases hlies with h | h
    · exact .inl h
    · right; omega
set_option maxRecDepth 100000 in
set_option maxHeartbeats 2000000 in
theorem rpin_at (h : RAt w B b c gi gf pv own R) (hl : R.pins.length ≤ 1000) : Calls Try.prog 56 #[.pointer (some ⟨b, 0, none⟩)] w (DidR w B b c (rall b gi gf pv own) (.int .i64 R.gen) R.pin) := by
  obtain ⟨c0, c1, c2, c3, c4, c5, c6⟩ := h.cells
  obtain ⟨g, cp, w', hrun, ho, hk, hg⟩ := rappend_pin h hl
  have hpl : (R.pins ++ [R.gen]).length = R.pins.length + 1 := by simp
  have h7 := h.setPins (pins := R.pins ++ [R.gen]) hk (by rw [hpl]; exact ho) hg
  rw [hpl] at h7
  have c1p : (pinW w R.gen).cell? ⟨b, 1, none⟩ = some (.int .i64 R.gen) := (pinW_kept w R.gen).cell c1 (by simp)
  have c5p : (pinW w R.gen).cell? ⟨b, 5, none⟩ = some pv := (pinW_kept w R.gen).cell c5 (by simp)
  have c1' : w'.cell? ⟨b, 1, none⟩ = some (.int .i64 R.gen) := hk.cell c1 (by simpa using h.n4)
  have c5' : w'.cell? ⟨b, 5, none⟩ = some pv := hk.cell c5 (by simpa using h.n4)
  have f5' : w'.frozen? ⟨b, 5, none⟩ = false := by
    have e := hk.block b (h.lt b (by simp [rall])).2 (by simpa using h.n4)
    simp [World.frozen?, e, h.blk]
  obtain ⟨e0, e1, _⟩ := h7.cells
  simp only at e1
  have HD : Hid (DidR w B b c (rall b gi gf pv own) (.int .i64 R.gen) R.pin (.returned (.int .i64 R.gen)) (w'.setCell ⟨b, 5, none⟩ (.slice (some ⟨g, 0, none⟩) (R.pins.length + 1) cp))) := by
    refine ⟨rfl, _, ⟨gi, gf, _, own, h7, rfl⟩, ?_, ?_⟩
    · refine (hk.mono (T := rall b gi gf pv own) (fun k _ hk => by simp only [rall, List.mem_cons, List.mem_append]; exact .inr (.inr (.inr (.inl hk))))).trans (Kept.setCell [b] w' _ _ (by simp)) (fun k _ h => by simp only [List.mem_singleton] at h; simp [h, rall])
    · intro k hk'
      simp only [rall, List.mem_cons, List.mem_append] at hk' ⊢
      rcases hk' with h | h | h | h | h
      · simp [h]
      · simp [h]
      · simp [h]
      · have e : k = g := by simpa [Value.ownBlock] using h
        subst e
        rcases hg with h1 | h1
        · left; right; right; right; left; rw [h1]; simp
        · right; exact h1
      · simp [h]
  clear h h7 hk ho hg hl
  go_enter Try.func56, Try.ntmps56
  go_wp2
  refine wp_region_held_drew (S := (fun w' => w'.cell? ⟨b, 1, none⟩ = some (.int .i64 R.gen))) (by kernel_rfl) c1 ?_
  intro hS
  refine anyH_take 0 ⟨some 3, .move (.tmp 0), _, _, _, none⟩ (.pointer (some ⟨b, 0, none⟩)) rfl rfl (by kernel_rfl) (by kernel_rfl) (by kernel_rfl) (fun _ _ _ h => h) (fun _ _ => rfl) hS ?_
  simp only [Act.put, List.setIfInBounds_toArray, List.set_cons_zero, List.set_cons_succ]
  refine anyH_take 1 ⟨some 4, .move (.tmp 0), _, _, _, none⟩ (.pointer (some ⟨b, 0, none⟩)) rfl rfl (by kernel_rfl) (by kernel_rfl) (by kernel_rfl) (fun _ _ _ h => h) (fun _ _ => rfl) hS ?_
  simp only [Act.put, List.setIfInBounds_toArray, List.set_cons_zero, List.set_cons_succ]
  refine anyH_take 2 ⟨some 5, .nilCheck (.tmp 4), _, _, _, none⟩ (.pointer (some ⟨b, 0, none⟩)) rfl rfl (by kernel_rfl) (by kernel_rfl) (by kernel_rfl) (fun _ _ _ h => h) (fun _ _ => rfl) hS ?_
  simp only [Act.put, List.setIfInBounds_toArray, List.set_cons_zero, List.set_cons_succ]
  refine anyH_take 3 ⟨some 6, .fieldAddr 53 (.tmp 5) 5, _, _, _, none⟩ (.pointer (some ⟨b, 5, none⟩)) rfl rfl (by kernel_rfl) (by kernel_rfl) (by kernel_rfl) (fun _ _ _ h => h) (fun w _ => exec_v (field53f b w)) hS ?_
  simp only [Act.put, List.setIfInBounds_toArray, List.set_cons_zero, List.set_cons_succ]
  refine anyH_take 5 ⟨some 8, .move (.tmp 0), _, _, _, none⟩ (.pointer (some ⟨b, 0, none⟩)) rfl rfl (by kernel_rfl) (by kernel_rfl) (by kernel_rfl) (fun _ _ _ h => h) (fun _ _ => rfl) hS ?_
  simp only [Act.put, List.setIfInBounds_toArray, List.set_cons_zero, List.set_cons_succ]
  refine anyH_take 6 ⟨some 9, .nilCheck (.tmp 8), _, _, _, none⟩ (.pointer (some ⟨b, 0, none⟩)) rfl rfl (by kernel_rfl) (by kernel_rfl) (by kernel_rfl) (fun _ _ _ h => h) (fun _ _ => rfl) hS ?_
  simp only [Act.put, List.setIfInBounds_toArray, List.set_cons_zero, List.set_cons_succ]
  refine anyH_take 7 ⟨some 10, .fieldAddr 53 (.tmp 9) 1, _, _, _, none⟩ (.pointer (some ⟨b, 1, none⟩)) rfl rfl (by kernel_rfl) (by kernel_rfl) (by kernel_rfl) (fun _ _ _ h => h) (fun w _ => exec_v (field53b b w)) hS ?_
  simp only [Act.put, List.setIfInBounds_toArray, List.set_cons_zero, List.set_cons_succ]
  refine anyH_take 8 ⟨some 11, .load 3 (.tmp 10), _, _, _, none⟩ (.int .i64 R.gen) rfl rfl (by kernel_rfl) (by kernel_rfl) (by kernel_rfl) (fun _ _ _ h => h) (fun w h => exec_v (load3k h)) hS ?_
  simp only [Act.put, List.setIfInBounds_toArray, List.set_cons_zero, List.set_cons_succ]
  refine anyH_two 4 9 (by kernel_rfl) ?_ ?_
  · refine wpOp_run (o := ⟨some 7, .load 51 (.tmp 6), _, _, _, none⟩) rfl rfl (exec_v (load51 c5)) ⟨hS, ?_⟩
    simp only [Act.put, List.setIfInBounds_toArray, List.set_cons_zero, List.set_cons_succ]
    refine anyH_one 9 ⟨some 12, .buildSlice 51 1 #[(0, .tmp 11)], _, _, _, none⟩ (.slice (some ⟨w.heap.size, 0, none⟩) 1 1) (pinW w R.gen) (by kernel_rfl) rfl rfl (exec_buildSlice (X := .int .i64 R.gen) rfl (slice3w w R.gen)) c1p ?_
    simp only [Act.put, List.setIfInBounds_toArray, List.set_cons_zero, List.set_cons_succ]
    refine anyH_one 10 ⟨some 13, .call { callee := .builtin .append, args := #[.tmp 7, .tmp 12], argTypes := #[51, 51] }, _, _, _, none⟩ _ w' (by kernel_rfl) rfl rfl (exec_append (u := pv) (s := .slice (some ⟨w.heap.size, 0, none⟩) 1 1) rfl rfl hrun) c1' ?_
    simp only [Act.put, List.setIfInBounds_toArray, List.set_cons_zero, List.set_cons_succ]
    refine anyH_one 11 ⟨some 14, .nilCheck (.tmp 3), _, _, _, none⟩ (.pointer (some ⟨b, 0, none⟩)) w' (by kernel_rfl) rfl rfl rfl c1' ?_
    simp only [Act.put, List.setIfInBounds_toArray, List.set_cons_zero, List.set_cons_succ]
    refine anyH_one 12 ⟨some 15, .fieldAddr 53 (.tmp 14) 5, _, _, _, none⟩ (.pointer (some ⟨b, 5, none⟩)) w' (by kernel_rfl) rfl rfl (exec_v (field53f b _)) c1' ?_
    simp only [Act.put, List.setIfInBounds_toArray, List.set_cons_zero, List.set_cons_succ]
    refine anyH_oneSkip 13 ⟨none, .store 51 (.tmp 15) (.tmp 13), _, _, _, none⟩ _ (by kernel_rfl) rfl rfl (exec_store51 rfl rfl c5' f5') e1 ?_
    refine wpAnyH_done (by kernel_rfl) ?_ _
    go_wp2
    go_ret
    exact HD.out
  · refine wpOp_run (o := ⟨some 12, .buildSlice 51 1 #[(0, .tmp 11)], _, _, _, none⟩) (v := .slice (some ⟨w.heap.size, 0, none⟩) 1 1) (w' := pinW w R.gen) rfl rfl (exec_buildSlice (X := .int .i64 R.gen) rfl (slice3w w R.gen)) ⟨c1p, ?_⟩
    simp only [Act.put, List.setIfInBounds_toArray, List.set_cons_zero, List.set_cons_succ]
    refine anyH_one 4 ⟨some 7, .load 51 (.tmp 6), _, _, _, none⟩ pv (pinW w R.gen) (by kernel_rfl) rfl rfl (exec_v (load51 c5p)) c1p ?_
    simp only [Act.put, List.setIfInBounds_toArray, List.set_cons_zero, List.set_cons_succ]
    refine anyH_one 10 ⟨some 13, .call { callee := .builtin .append, args := #[.tmp 7, .tmp 12], argTypes := #[51, 51] }, _, _, _, none⟩ _ w' (by kernel_rfl) rfl rfl (exec_append (u := pv) (s := .slice (some ⟨w.heap.size, 0, none⟩) 1 1) rfl rfl hrun) c1' ?_
    simp only [Act.put, List.setIfInBounds_toArray, List.set_cons_zero, List.set_cons_succ]
    refine anyH_one 11 ⟨some 14, .nilCheck (.tmp 3), _, _, _, none⟩ (.pointer (some ⟨b, 0, none⟩)) w' (by kernel_rfl) rfl rfl rfl c1' ?_
    simp only [Act.put, List.setIfInBounds_toArray, List.set_cons_zero, List.set_cons_succ]
    refine anyH_one 12 ⟨some 15, .fieldAddr 53 (.tmp 14) 5, _, _, _, none⟩ (.pointer (some ⟨b, 5, none⟩)) w' (by kernel_rfl) rfl rfl (exec_v (field53f b _)) c1' ?_
    simp only [Act.put, List.setIfInBounds_toArray, List.set_cons_zero, List.set_cons_succ]
    refine anyH_oneSkip 13 ⟨none, .store 51 (.tmp 15) (.tmp 13), _, _, _, none⟩ _ (by kernel_rfl) rfl rfl (exec_store51 rfl rfl c5' f5') e1 ?_
    refine wpAnyH_done (by kernel_rfl) ?_ _
    go_wp2
    go_ret
    exact HD.out
end
end Go.Proofs.Ytambgimfbdecpaa
namespace Go.Proofs.Ytambgimfbdecpaa
open Go.RowKit
set_option linter.unusedVariables false

theorem RDid.below {w w1 w2 : World} {B c : Nat} {own : List Nat} {r : Int} {D' : DS} {e : Ending} (hb : Below w.heap.size w w1) (h : RDid w1 B c own r D' e w2) : RDid w B c own r D' e w2 := by
  obtain ⟨rfl, own2, h1, h2, h3⟩ := h
  exact ⟨rfl, own2, h1, (Kept.ofBelow hb own).trans h2 (fun _ _ h => h), fun k hk => (h3 k hk).imp id (fun h => by have := hb.size; omega)⟩
theorem RDid.trans {w w1 w2 : World} {B c : Nat} {own own1 : List Nat} {r : Int} {D' : DS} {e : Ending} (hc : Chain w w1 own own1) (h : RDid w1 B c own1 r D' e w2) : RDid w B c own r D' e w2 := by
  obtain ⟨rfl, own2, h1, h2, h3⟩ := h
  have := hc.trans ⟨h2, h3⟩
  exact ⟨rfl, own2, h1, this.k, this.n⟩
/-- A string is written. -/
theorem rwrite_str {w : World} {B c : Nat} {own : List Nat} {D : DS} (h : RDisk w B c own D) (hok : D.ok) (hs : D.steps < 1000) (hw : D.waits.length < 200) (i : Int) (hi : 0 ≤ i ∧ i < D.n) (X : List Int) (hX : X.length = 512) (hB : Byt X) :
    ∃ cap w1, (convert 9 46 (.string (strOf X))).run Try.prog w = .ok (.slice (some ⟨w.heap.size, 0, none⟩) 512 cap) w1 ∧ Calls Try.prog 22 #[.pointer (some ⟨c, 0, none⟩), .int .i64 i, .slice (some ⟨w.heap.size, 0, none⟩) 512 cap] w1 (RDid w B c own 0 (D.wrote i X)) := by
  obtain ⟨cap, w1, hrun, hsrc, hb, hsz⟩ := conv_made w X hB
  rw [hX] at hrun
  refine ⟨cap, w1, hrun, ?_⟩
  have hk := rwrite_all (h.keep (Kept.ofBelow hb []) (by simp)) hs hw i ⟨w.heap.size, 0, none⟩ 512 cap X (by unfold maxLen; omega) hX hsrc (fun hm => by have := (h.lt _ hm).2; simp only at this; omega)
  rw [hok.write i X hi hX] at hk
  exact hk.mono fun e w2 hd => RDid.below hb hd
theorem rflush_ok {w : World} {B c : Nat} {own : List Nat} {D : DS} (h : RDisk w B c own D) (hok : D.ok) (hs : D.steps < 1000) : Calls Try.prog 44 #[.pointer (some ⟨c, 0, none⟩)] w (RDid w B c own 0 D.flushd) := by
  have := rflush_all h hs
  rw [hok.flush] at this
  exact this
theorem RDisk.len {w : World} {B c : Nat} {own : List Nat} {D : DS} (h : RDisk w B c own D) : ∃ gl lc, w.cell? ⟨c, 0, none⟩ = some (.slice (some ⟨gl, 0, none⟩) D.n lc) := by
  obtain ⟨gl, lc, wv, hd, rfl⟩ := h
  exact ⟨gl, lc, hd.cells.1⟩

set_option maxRecDepth 100000 in
set_option maxHeartbeats 2000000 in
theorem rformat_no {w : World} {B c : Nat} {own : List Nat} {D : DS} (h : RDisk w B c own D) (h4 : ¬ 4 ≤ D.n) : Calls Try.prog 15 #[.pointer (some ⟨c, 0, none⟩)] w fun e w' => e = .returned (.int .i64 2) ∧ w' = w := by
  obtain ⟨gl, lc, c0⟩ := h.len
  have hn := h.good.n2
  have h4' : (D.n : Int) < 4 := by omega
  clear h h4
  go_enter Try.func15, Try.ntmps15
  go_wp2
  go_ret
  exact ⟨rfl, rfl⟩
set_option maxRecDepth 100000 in
set_option maxHeartbeats 2000000 in
theorem rformat_ok {w : World} {B c : Nat} {own : List Nat} {D : DS} (h : RDisk w B c own D) (hok : D.ok) (h4 : 4 ≤ D.n) (hs : D.steps + 5 ≤ 1000) (hw : D.waits.length + 2 ≤ 200) :
    Calls Try.prog 15 #[.pointer (some ⟨c, 0, none⟩)] w (RDid w B c own 0 (((D.wrote 0 Z512).wrote 1 Z512).laid 1 (rootL 1 []))) := by
  obtain ⟨gl, lc, c0⟩ := h.len
  have hn := h.good.n2
  have h4' : ¬ (D.n : Int) < 4 := by omega
  have HR := hid (fun w => rroot_all 1 ⟨#[]⟩ w (by unfold maxLen; decide))
  have e1 : rootS 1 (bOf ⟨#[]⟩) = rootL 1 [] := by unfold rootS; rw [bOf_nil]; rfl
  have e2 : rootE 1 (⟨#[]⟩ : ByteArray).size = 0 := by rfl
  rw [e1, e2] at HR
  have HX := hid (rootL_length 1 [] (by decide))
  have HXB := hid (byt_root 1 [] (by intro x hx; simp at hx))
  have HH := hid h
  have HOK := hid hok
  have H4 := hid h4
  have HS := hid hs
  have HW := hid hw
  have hmk := made_bytes
  clear h hok h4 hs hw e1 e2
  generalize rootL 1 [] = X at *
  go_enter Try.func15, Try.ntmps15
  go_wp2_with fail
  refine (HR.out _).mono ?_
  rintro e w1 ⟨rfl, hb1⟩
  have h1 := HH.out.keep (Kept.ofBelow hb1 []) (by simp)
  have hcv : (convert 46 9 (.slice (some ⟨w1.heap.size, 0, none⟩) 512 512)).run Try.prog (w1.alloc (.cells (bc (rep 512 0)).toArray 5)) = .ok (.string (strOf Z512)) (w1.alloc (.cells (bc (rep 512 0)).toArray 5)) := conv_whole (heap_alloc_new _ _) (rep_length _ _)
  have hb2 := hb1.alloc hb1.size (.cells (bc (rep 512 0)).toArray 5)
  have h2 := HH.out.keep (Kept.ofBelow hb2 []) (by simp)
  obtain ⟨cap2, w3, hrun2, hcall2⟩ := rwrite_str h2 HOK.out (by have := HS.out; omega) (by have := HW.out; omega) 0 ⟨by omega, by have := H4.out; omega⟩ Z512 Z512_length Z512_byt
  have HC2 := hid hcall2
  have HB2 := hid hb2
  clear hcall2 h1 h2 hb1 hb2
  go_wp2_with fail
  have es : (w1.alloc (.cells (bc (rep 512 0)).toArray 5)).heap.size = w1.heap.size + 1 := by simp
  rw [es] at HC2
  refine HC2.out.mono ?_
  rintro e w4 ⟨rfl, own4, h4, hk4, hn4⟩
  have HCh4 := hid (Chain.below HB2.out ⟨hk4, hn4⟩)
  have HOK4 := hid (HOK.out.wrote 0 Z512)
  obtain ⟨cap4, w5, hrun4, hcall4⟩ := rwrite_str h4 HOK4.out (by have := HS.out; simp only [DS.wrote]; omega) (by have := HW.out; simp only [DS.wrote, List.length_append, List.length_cons, List.length_nil]; omega) 1 ⟨by omega, by have := H4.out; simp only [DS.wrote]; omega⟩ Z512 Z512_length Z512_byt
  have HC4 := hid hcall4
  clear hcall4 h4 hk4 hn4
  go_wp2_with fail
  refine HC4.out.mono ?_
  rintro e w6 ⟨rfl, own6, h6, hk6, hn6⟩
  have HCh6 := hid (HCh4.out.trans ⟨hk6, hn6⟩)
  have HOK6 := hid (HOK4.out.wrote 1 Z512)
  have HF6 := hid (rflush_ok h6 HOK6.out (by have := HS.out; simp only [DS.wrote]; omega))
  clear h6 hk6 hn6
  go_wp2_with fail
  refine HF6.out.mono ?_
  rintro e w7 ⟨rfl, own7, h7, hk7, hn7⟩
  have HCh7 := hid (HCh6.out.trans ⟨hk7, hn7⟩)
  have HOK7 := hid HOK6.out.flushd
  obtain ⟨cap7, w8, hrun7, hcall7⟩ := rwrite_str h7 HOK7.out (by have := HS.out; simp only [DS.wrote, DS.flushd]; omega) (by simp only [DS.flushd, List.length_nil]; omega) 1 ⟨by omega, by have := H4.out; simp only [DS.wrote, DS.flushd]; omega⟩ X HX.out HXB.out
  have HC7 := hid hcall7
  clear hcall7 h7 hk7 hn7
  go_wp2_with fail
  refine HC7.out.mono ?_
  rintro e w9 ⟨rfl, own9, h9, hk9, hn9⟩
  have HCh9 := hid (HCh7.out.trans ⟨hk9, hn9⟩)
  have HOK9 := hid (HOK7.out.wrote 1 X)
  have HF9 := hid (rflush_ok h9 HOK9.out (by have := HS.out; simp only [DS.wrote, DS.flushd]; omega))
  clear h9 hk9 hn9
  go_wp2_with fail
  refine HF9.out.mono ?_
  intro e w10 hd10
  have HD := hid (RDid.trans HCh9.out hd10)
  obtain ⟨rfl, _⟩ := hd10
  go_wp2_with fail
  go_ret
  exact HD.out
end Go.Proofs.Ytambgimfbdecpaa
