/- What this text holds: the operations of 'd.waits = append(d.waits, w)', by their runs. -/
import Derived.Test.YtambgimfbdecpaaDReg
import Derived.Deep.AppendLies
namespace Go.Proofs.Ytambgimfbdecpaa
open Go.RowKit
set_option linter.unusedVariables false

theorem field66 (b : Nat) (w : World) : (Instr.fieldAt 83 (.pointer (some ⟨b, 0, none⟩)) 1).run Try.prog w = .ok (.pointer (some ⟨b, 1, none⟩)) w := by kernel_rfl
theorem load64 {b : Nat} {v : Value} {w : World} (h : w.cell? ⟨b, 1, none⟩ = some v) : (Instr.loadAt 81 (.pointer (some ⟨b, 1, none⟩))).run Try.prog w = .ok v w := by
  simp [Instr.loadAt, Instr.sureAddr, loadVar, isAgg, run_underlying Try.underlying81, h]
theorem size64 : (Try.prog.info? 81).map (·.size) = some 1 := by kernel_rfl
theorem store64 {b g n c : Nat} {u : Value} {w : World} (h : w.cell? ⟨b, 1, none⟩ = some u) (hf : w.frozen? ⟨b, 1, none⟩ = false) :
    (Instr.storeAt 81 (.pointer (some ⟨b, 1, none⟩)) (.slice (some ⟨g, 0, none⟩) n c)).run Try.prog w = .ok () (w.setCell ⟨b, 1, none⟩ (.slice (some ⟨g, 0, none⟩) n c)) := by
  have hs := size64
  cases hq : Try.prog.info? 81 with
  | none => simp [hq] at hs
  | some i =>
    have h1 : i.size = 1 := by simpa [hq] using hs
    have e : (⟨b, 1, none⟩ : Addr).add 0 = ⟨b, 1, none⟩ := rfl
    simp [Instr.storeAt, Instr.sureAddr, storeVar, sizeOf, typeInfo, hq, h1, Value.cells, storeCells, e, store, Sem.run, h, hf]

theorem exec_buildSlice {a : Act} {X : Value} {x : Operand} {w w' : World} {v : Value} {d : Option Tmp} {t n ty : Nat} {pos : String} {af : Array Edge} {g : Option (Nat × Bool)} (hx : a.eval x = X)
    (h : (Instr.buildSlice t n #[(0, X)]).run Try.prog w = .ok v w') : (execOp a.eval ⟨d, .buildSlice t n #[(0, x)], ty, pos, af, g⟩).run Try.prog w = .ok (.value v) w' := by
  simp only [execOp, List.map_toArray, List.map_cons, List.map_nil, hx]
  exact exec_v h
theorem exec_append {a : Act} {x y : Operand} {u s : Value} {w w' : World} {v : Value} {d : Option Tmp} {t ty : Nat} {pos : String} {af : Array Edge} {g : Option (Nat × Bool)} (hx : a.eval x = u) (hy : a.eval y = s)
    (h : (Builtin.append_ #[t, t] ty #[u, s]).run Try.prog w = .ok v w') : (execOp a.eval ⟨d, .call { callee := .builtin .append, args := #[x, y], argTypes := #[t, t] }, ty, pos, af, g⟩).run Try.prog w = .ok (.value v) w' := by
  simp only [execOp, resolve, invoke, builtin, Sem.run_bind, Sem.run_pure, Result.andThen_ok, List.map_toArray, List.map_cons, List.map_nil, hx, hy, h]
theorem exec_store64 {a : Act} {x y : Operand} {b g n c : Nat} {u : Value} {w : World} {d : Option Tmp} {ty : Nat} {pos : String} {af : Array Edge} {gd : Option (Nat × Bool)} (hx : a.eval x = .pointer (some ⟨b, 1, none⟩)) (hy : a.eval y = .slice (some ⟨g, 0, none⟩) n c)
    (h : w.cell? ⟨b, 1, none⟩ = some u) (hf : w.frozen? ⟨b, 1, none⟩ = false) :
    (execOp a.eval ⟨d, .store 81 x y, ty, pos, af, gd⟩).run Try.prog w = .ok .skip (w.setCell ⟨b, 1, none⟩ (.slice (some ⟨g, 0, none⟩) n c)) := by
  simp only [execOp, hx, hy, Sem.run_bind, store64 h hf, Result.andThen_ok, Sem.run_pure]

/-- The world in which a write waits: behind the variable 'w', a draw, and the slice of one. -/
def waitW (w1 : World) (i : Int) (bytes : List Int) : World := (w1.alloc (.cells (wcell i bytes).toArray 98)).drew.alloc (.cells (wcell i bytes).toArray 98)
theorem waitW_heap (w1 : World) (i : Int) (bytes : List Int) (k : Nat) (h : k < w1.heap.size) : (waitW w1 i bytes).heap[k]? = w1.heap[k]? := by
  unfold waitW
  rw [Below.heap_alloc _ _ _ (by simp; omega)]
  exact Below.heap_alloc _ _ _ h
theorem waitW_first (w1 : World) (i : Int) (bytes : List Int) : (waitW w1 i bytes).heap[w1.heap.size]? = some (.cells (wcell i bytes).toArray 98 (0, 0)) := by
  unfold waitW
  rw [Below.heap_alloc _ _ _ (by simp)]
  exact heap_alloc_new _ _
theorem waitW_second (w1 : World) (i : Int) (bytes : List Int) : (waitW w1 i bytes).heap[w1.heap.size + 1]? = some (.cells (wcell i bytes).toArray 98 (0, 0)) := by
  unfold waitW
  have h := heap_alloc_new (w1.alloc (.cells (wcell i bytes).toArray 98)).drew (.cells (wcell i bytes).toArray 98)
  have e : (w1.alloc (.cells (wcell i bytes).toArray 98)).drew.heap.size = w1.heap.size + 1 := by simp
  rw [e] at h
  exact h
theorem waitW_size (w1 : World) (i : Int) (bytes : List Int) : (waitW w1 i bytes).heap.size = w1.heap.size + 2 := by simp [waitW]
theorem waitW_kept (w1 : World) (i : Int) (bytes : List Int) : Kept [] w1 (waitW w1 i bytes) :=
  ⟨rfl, rfl, rfl, by rw [waitW_size]; omega, fun k hk _ => waitW_heap w1 i bytes k hk⟩

theorem slice75w (w1 : World) (i : Int) (bytes : List Int) (hbl : bytes.length = 512) :
    (Instr.buildSlice 81 1 #[(0, .agg (wcell i bytes).toArray)]).run Try.prog (w1.alloc (.cells (wcell i bytes).toArray 98)).drew = .ok (.slice (some ⟨w1.heap.size + 1, 0, none⟩) 1 1) (waitW w1 i bytes) := by
  have h := slice75 (w := (w1.alloc (.cells (wcell i bytes).toArray 98)).drew) (i := i) hbl
  have e : (w1.alloc (.cells (wcell i bytes).toArray 98)).drew.heap.size = w1.heap.size + 1 := by simp
  rw [e] at h
  exact h

/-- A write is appended to those that wait: the run of append, and the disk behind the store. -/
theorem append_wait {w1 : World} {B b bs sc : Nat} {wv : Value} {D : DS} (hd : DiskAt w1 B b bs sc wv D) (i : Nat) (hi : i < D.n) (bytes : List Int) (hbl : bytes.length = 512) (hwl : D.waits.length < 200) :
    ∃ g c w', (Builtin.append_ #[81, 81] 81 #[wv, .slice (some ⟨w1.heap.size + 1, 0, none⟩) 1 1]).run Try.prog (waitW w1 i bytes) = .ok (.slice (some ⟨g, 0, none⟩) (D.waits.length + 1) c) w' ∧
      w'.heap[w1.heap.size]? = some (.cells (wcell i bytes).toArray 98 (0, 0)) ∧ w'.cell? ⟨b, 1, none⟩ = some wv ∧ w'.frozen? ⟨b, 1, none⟩ = false ∧
      DiskAt (w'.setCell ⟨b, 1, none⟩ (.slice (some ⟨g, 0, none⟩) (D.waits.length + 1) c)) B b bs sc (.slice (some ⟨g, 0, none⟩) (D.waits.length + 1) c) { D with waits := D.waits ++ [((i : Int), bytes)] } ∧
      Kept (b :: wv.ownBlock.toList) w1 (w'.setCell ⟨b, 1, none⟩ (.slice (some ⟨g, 0, none⟩) (D.waits.length + 1) c)) ∧ (wv.ownBlock = some g ∨ w1.heap.size ≤ g) := by
  obtain ⟨inf, hin, hz0, hz1, hz2⟩ := info_parts Try.info98
  have hk0 := waitW_kept w1 i bytes
  have hd0 : DiskAt (waitW w1 i bytes) B b bs sc wv D := hd.keep hk0 (by simp)
  have hb : b < w1.heap.size := (hd.lt b (by simp)).2
  have hbs : bs < w1.heap.size := (hd.lt bs (by simp)).2
  obtain ⟨g, c, w', hrun, ho, hg, hlies, hlt⟩ := run_append_lies (P := Try.prog) (waitW w1 i bytes) 81 81 B 98 inf _ 513 520 Try.underlying81 hin hz0 hz1 hz2 zWrite_size (by omega) wv _ _ hd0.waits
    ⟨w1.heap.size + 1, 0, none⟩ 1 1 (wcell i bytes) (by simp [wcell_length, hbl]) (fun j u hu => by
      rw [Addr.add_mid, cell_of_row _ _ _ _ _ _ (waitW_second w1 i bytes)]
      simpa using hu) (wcell_oneCell _ _) (by omega) (by unfold maxLen; omega) (by omega) (by rw [waitW_size]; have := hd.hB; omega) _ (waitW_size w1 i bytes)
  have hown : ∀ k, wv.ownBlock = some k → k < w1.heap.size := fun k hk => (hd.waits.lt k hk).2
  have hkeep : Kept (wv.ownBlock.toList) (waitW w1 i bytes) w' := Kept.ofGrown hg _ (fun k hk => by simp [hk])
  have hall : Kept (wv.ownBlock.toList) w1 w' := (hk0.mono (by simp)).trans hkeep (fun _ _ h => h)
  have hbb : w'.heap[b]? = w1.heap[b]? := hall.block b hb (by simpa using hd.ne2)
  have hg1 : g ≠ b := by
    rcases hlies with h | h
    · exact fun e => hd.ne2 (by rw [h, e])
    · omega
  have hg2 : g ≠ bs := by
    rcases hlies with h | h
    · exact fun e => hd.ne3 (by rw [h, e])
    · omega
  refine ⟨g, c, w', hrun, ?_, ?_, ?_, ?_, ?_, ?_⟩
  · rw [hkeep.block _ (by rw [waitW_size]; omega) (by
      simp only [Option.mem_toList]
      intro e
      have := hown _ e
      omega)]
    exact waitW_first w1 i bytes
  · simp [World.cell?, hbb, hd.blk]
  · simp [World.frozen?, hbb, hd.blk]
  · have hkb := Kept.setCell [b] w' ⟨b, 1, none⟩ (.slice (some ⟨g, 0, none⟩) (D.waits.length + 1) c) (by simp)
    refine { blk := ?_, secs := ?_, waits := ?_, ne1 := hd.ne1, ne2 := by simpa [Value.ownBlock] using hg1, ne3 := by simpa [Value.ownBlock] using hg2, hB := hd.hB, good := { hd.good with wl := ?_, w := ?_ } }
    · simp [World.setCell, Array.getElem?_modify, hbb, hd.blk]
    · refine ownsRow_block hd.secs fun k hk => ?_
      simp only [Value.ownBlock, Option.some.injEq] at hk
      subst hk
      rw [hkb.block bs (by have := hall.size; omega) (by simpa using hd.ne1)]
      exact hall.block bs hbs (by simpa using hd.ne3)
    · rw [wcs_snoc]
      simp only [List.length_append, List.length_cons, List.length_nil]
      refine ownsRow_block ho fun k hk => ?_
      simp only [Value.ownBlock, Option.some.injEq] at hk
      subst hk
      exact hkb.block _ hlt (by simpa using hg1)
    · simp; omega
    · intro x hx
      simp only [List.mem_append, List.mem_singleton] at hx
      rcases hx with hx | rfl
      · exact hd.good.w x hx
      · exact ⟨by simp, by simpa using hi, hbl⟩
  · exact (hall.mono (T := b :: wv.ownBlock.toList) (fun k _ h => by simp only [List.mem_cons]; exact .inr h)).trans (Kept.setCell [b] w' _ _ (by simp)) (fun k _ h => by simp only [List.mem_singleton] at h; simp [h])
  · rcases hlies with h | h
    · exact .inl h
    · right; omega
end Go.Proofs.Ytambgimfbdecpaa
