/- What this text holds: bytes that are laid one behind the other: the program's strip. -/
import Derived.Test.YtkipigbfbhecjaaN9
import Derived.Lib.AppendStr
import Derived.Maps.AppendAt
import Derived.OneCell
import Derived.Laws.Shifts
namespace Go.Proofs.Ytkipigbfbhecjaa
open Go.RowKit
set_option linter.unusedVariables false
set_option linter.unusedSimpArgs false

/-- A strip lies in memory. -/
def StAt (w : World) (B b : Nat) (l : List Int) : Prop := ∃ v, w.heap[b]? = some (.cells #[v] 82 (0, 0)) ∧ w.ownsRow B 5 1 v l.length (bc l) ∧ B ≤ b
theorem own_ne {w : World} {B b : Nat} {v v' : Value} {n : Nat} {xs : List Value} (hb : w.heap[b]? = some (.cells #[v] 82 (0, 0))) (h : w.ownsRow B 5 1 v' n xs) : v'.ownBlock ≠ some b := by
  intro e
  rcases h.2 with ⟨h1, _⟩ | ⟨g, cap, cur, h1, _, h2, _⟩
  · subst h1; simp [Value.ownBlock] at e
  · subst h1
    simp only [Value.ownBlock, Option.some.injEq] at e
    subst e
    rw [hb] at h2
    simp at h2
/-- Blocks that hold no bytes have not turned, but one. -/
def Oth (b : Nat) (w w' : World) : Prop := ∀ k cs t m, k ≠ b → t ≠ 5 → w.heap[k]? = some (.cells cs t m) → w'.heap[k]? = some (.cells cs t m)
theorem Oth.refl (b : Nat) (w : World) : Oth b w w := fun _ _ _ _ _ _ h => h
theorem Oth.trans {b : Nat} {w w1 w2 : World} (h : Oth b w w1) (k : Oth b w1 w2) : Oth b w w2 := fun i cs t m h1 h2 h3 => k i cs t m h1 h2 (h i cs t m h1 h2 h3)
theorem Oth.grown {b : Nat} {w w' : World} {B : Nat} {v : Value} {n : Nat} {xs : List Value} (ho : w.ownsRow B 5 1 v n xs) (hg : w.grownBy w' v.ownBlock) : Oth b w w' := by
  intro k cs t m h1 h2 h3
  have hlt : k < w.heap.size := by
    have := h3
    rw [Array.getElem?_eq_some_iff] at this
    exact this.1
  rw [hg.block k hlt ?_]
  · exact h3
  · intro e
    rcases ho.2 with ⟨e1, _⟩ | ⟨g, cap, cur, e1, _, e2, _⟩
    · subst e1; simp [Value.ownBlock] at e
    · subst e1
      simp only [Value.ownBlock, Option.some.injEq] at e
      subst e
      rw [h3] at e2
      simp at e2
      exact h2 e2.2.1
theorem Oth.setCell {b : Nat} (w : World) (o : Nat) (v : Value) : Oth b w (w.setCell ⟨b, o, none⟩ v) := by
  intro k cs t m h1 h2 h3
  rw [Below.heap_setCell _ _ _ _ h1]; exact h3
theorem Oth.alloc {b : Nat} (w : World) (o : Obj) : Oth b w (w.alloc o) := by
  intro k cs t m h1 h2 h3
  have hlt : k < w.heap.size := by
    have := h3
    rw [Array.getElem?_eq_some_iff] at this
    exact this.1
  rw [Below.heap_alloc _ _ _ hlt]; exact h3
theorem st_store {w w' : World} {B b : Nat} {v v' : Value} {l l' : List Int} (hb : w.heap[b]? = some (.cells #[v] 82 (0, 0))) (ho : w.ownsRow B 5 1 v l.length (bc l)) (hB : B ≤ b) (hBw : B ≤ w.heap.size)
    (hg : w.grownBy w' v.ownBlock) (ho' : w'.ownsRow B 5 1 v' l'.length (bc l')) :
    w'.cell? ⟨b, 0, none⟩ = some v ∧ w'.frozen? ⟨b, 0, none⟩ = false ∧ StAt (w'.setCell ⟨b, 0, none⟩ v') B b l' ∧ Below B w (w'.setCell ⟨b, 0, none⟩ v') ∧ Oth b w (w'.setCell ⟨b, 0, none⟩ v') := by
  have hlt : b < w.heap.size := by
    have := hb
    rw [Array.getElem?_eq_some_iff] at this
    exact this.1
  have hb' : w'.heap[b]? = some (.cells #[v] 82 (0, 0)) := by
    rw [hg.block b hlt (fun e => own_ne hb ho e.symm)]; exact hb
  refine ⟨by simp [World.cell?, hb'], by simp [World.frozen?, hb'], ⟨v', ?_, ownsRow_setCell_other ho' (own_ne hb' ho') _, hB⟩, ?_, (Oth.grown ho hg).trans (Oth.setCell _ _ _)⟩
  · rw [heap_setCell_same _ _ _ _ _ _ hb']; rfl
  · exact ((Below.refl B w).grown hg hBw (fun k hk => (ho.lt k hk).1)).setCell hB _

theorem slice_of {w : World} {B : Nat} {v : Value} {n : Nat} {xs : List Value} (h : w.ownsRow B 5 1 v n xs) : ∃ a n c, v = .slice a n c := by
  rcases h.2 with ⟨h1, h2⟩ | ⟨g, cap, cur, h1, _⟩
  · exact ⟨none, 0, 0, by rw [h1]⟩
  · exact ⟨_, _, _, h1⟩
theorem bc_snoc (l : List Int) (x : Int) : bc (l ++ [x]) = bc l ++ [.int .u8 x] := by simp [bc]
theorem st_append {w : World} {B b : Nat} {l : List Int} (h : StAt w B b l) (hBw : B ≤ w.heap.size) (x : Int) (hl : l.length ≤ 100000000) :
    ∃ v v' w', w.cell? ⟨b, 0, none⟩ = some v ∧ (w.alloc (.cells #[.int .u8 x] 5)).cell? ⟨b, 0, none⟩ = some v ∧ (Builtin.append_ #[78, 78] 78 #[v, .slice (some ⟨w.heap.size, 0, none⟩) 1 1]).run Try.prog (w.alloc (.cells #[.int .u8 x] 5)) = .ok v' w' ∧
      (∃ a n c, v' = .slice a n c) ∧ w'.cell? ⟨b, 0, none⟩ = some v ∧ w'.frozen? ⟨b, 0, none⟩ = false ∧ StAt (w'.setCell ⟨b, 0, none⟩ v') B b (l ++ [x]) ∧ Below B w (w'.setCell ⟨b, 0, none⟩ v') ∧ Oth b w (w'.setCell ⟨b, 0, none⟩ v') := by
  obtain ⟨v, hb, ho, hB⟩ := h
  have hlt : b < w.heap.size := by
    have := hb
    rw [Array.getElem?_eq_some_iff] at this
    exact this.1
  obtain ⟨i, hi, hz0, hz1, hz2⟩ := info_parts Try.info5
  have hal : (w.alloc (.cells #[.int .u8 x] 5)).heap[w.heap.size]? = some (.cells #[.int .u8 x] 5 (0, 0)) := heap_alloc_new _ _
  have hba : (w.alloc (.cells #[.int .u8 x] 5)).heap[b]? = some (.cells #[v] 82 (0, 0)) := by rw [Below.heap_alloc _ _ _ hlt]; exact hb
  have hoa : (w.alloc (.cells #[.int .u8 x] 5)).ownsRow B 5 1 v l.length (bc l) := World.ownsRow.alloc ho _
  obtain ⟨v', w', hr, ho', hg, _, _⟩ := run_append_own_at (P := Try.prog) (w.alloc (.cells #[.int .u8 x] 5)) B 78 78 5 i _ 1 1 Try.underlying78 hi hz0 hz1 hz2 rfl (by omega) v l.length (bc l) hoa
    ⟨w.heap.size, 0, none⟩ 1 1 [.int .u8 x] rfl (fun j u hu => by
      rw [Addr.add_mid, Nat.zero_add]
      simp only [World.cell?, hal]
      simpa using hu) (fun u hu => by simp only [List.mem_cons, List.not_mem_nil, or_false] at hu; subst hu; rfl) (by unfold maxLen; omega) (by omega) (by simp; omega)
  rw [← bc_snoc, show l.length + 1 = (l ++ [x]).length by simp] at ho'
  obtain ⟨h1, h2, h3, h4, h5⟩ := st_store hba hoa hB (by simp; omega) hg ho'
  exact ⟨v, v', w', by simp [World.cell?, hb], by simp [World.cell?, hba], hr, slice_of ho', h1, h2, h3, ((Below.refl B w).alloc hBw _).trans h4, (Oth.alloc _ _).trans h5⟩
theorem strCells_bOf (s : ByteArray) : Go.Lib.strCells s = bc (bOf s) := by
  unfold Go.Lib.strCells bc bOf
  rw [List.map_map]
  rfl
theorem st_string {w : World} {B b : Nat} {l : List Int} (h : StAt w B b l) (hBw : B ≤ w.heap.size) (s : ByteArray) (hl : l.length ≤ 100000000) (hs : s.size ≤ 100000000) :
    ∃ v v' w', w.cell? ⟨b, 0, none⟩ = some v ∧ (Builtin.append_ #[78, 9] 78 #[v, .string s]).run Try.prog w = .ok v' w' ∧
      (∃ a n c, v' = .slice a n c) ∧ w'.cell? ⟨b, 0, none⟩ = some v ∧ w'.frozen? ⟨b, 0, none⟩ = false ∧ StAt (w'.setCell ⟨b, 0, none⟩ v') B b (l ++ bOf s) ∧ Below B w (w'.setCell ⟨b, 0, none⟩ v') ∧ Oth b w (w'.setCell ⟨b, 0, none⟩ v') := by
  obtain ⟨v, hb, ho, hB⟩ := h
  obtain ⟨i, hi, hz0, hz1, hz2⟩ := info_parts Try.info5
  obtain ⟨v', w', hr, ho', hg, _⟩ := Go.Lib.run_append_own_string (P := Try.prog) w B 78 9 78 5 i Try.underlying78 Try.underlying9 hi hz0 hz1 hz2 v l.length (bc l) ho s (by unfold maxLen; omega) (by omega) hBw
  rw [strCells_bOf, ← bc_append, show l.length + s.size = (l ++ bOf s).length by simp [bOf_length]] at ho'
  obtain ⟨h1, h2, h3, h4, h5⟩ := st_store hb ho hB hBw hg ho'
  exact ⟨v, v', w', by simp [World.cell?, hb], hr, slice_of ho', h1, h2, h3, h4, h5⟩
theorem StAt.drew {w : World} {B b : Nat} {l : List Int} (h : StAt w B b l) : StAt w.drew B b l := h

theorem field80 (b : Nat) (w : World) : (Instr.fieldAt 80 (.pointer (some ⟨b, 0, none⟩)) 0).run Try.prog w = .ok (.pointer (some ⟨b, 0, none⟩)) w := by kernel_rfl
theorem load78 {b : Nat} {v : Value} {w : World} (h : w.cell? ⟨b, 0, none⟩ = some v) : (Instr.loadAt 78 (.pointer (some ⟨b, 0, none⟩))).run Try.prog w = .ok v w := by
  simp [Instr.loadAt, Instr.sureAddr, loadVar, isAgg, run_underlying Try.underlying78, h]
theorem size78 : (Try.prog.info? 78).map (·.size) = some 1 := by kernel_rfl
theorem exec_append {a : Act} {x y : Operand} {u s : Value} {w w' : World} {v : Value} {d : Option Tmp} {t t2 ty : Nat} {pos : String} {af : Array Edge} {g : Option (Nat × Bool)} (hx : a.eval x = u) (hy : a.eval y = s)
    (h : (Builtin.append_ #[t, t2] ty #[u, s]).run Try.prog w = .ok v w') : (execOp a.eval ⟨d, .call { callee := .builtin .append, args := #[x, y], argTypes := #[t, t2] }, ty, pos, af, g⟩).run Try.prog w = .ok (.value v) w' := by
  simp only [execOp, resolve, invoke, builtin, Sem.run_bind, Sem.run_pure, Result.andThen_ok, List.map_toArray, List.map_cons, List.map_nil, hx, hy, h]
theorem exec_sub3 {a : Act} {x y : Operand} {m n : Int} {w : World} {d : Option Tmp} {ty : Nat} {pos : String} {af : Array Edge} {g : Option (Nat × Bool)} (hx : a.eval x = .int .i64 m) (hy : a.eval y = .int .i64 n) :
    (execOp a.eval ⟨d, .binOp .sub 3 x y 3, ty, pos, af, g⟩).run Try.prog w = .ok (.value (.int .i64 (IntKind.i64.wrap (m - n)))) w := by
  simp [execOp, hx, hy, eqGuard, binOp]
  rfl
theorem exec_mul3 {a : Act} {x y : Operand} {m n : Int} {w : World} {d : Option Tmp} {ty : Nat} {pos : String} {af : Array Edge} {g : Option (Nat × Bool)} (hx : a.eval x = .int .i64 m) (hy : a.eval y = .int .i64 n) :
    (execOp a.eval ⟨d, .binOp .mul 3 x y 3, ty, pos, af, g⟩).run Try.prog w = .ok (.value (.int .i64 (IntKind.i64.wrap (m * n)))) w := by
  simp [execOp, hx, hy, eqGuard, binOp]
  rfl
theorem exec_shr3 {a : Act} {x y : Operand} {m n : Int} {w : World} {d : Option Tmp} {ty : Nat} {pos : String} {af : Array Edge} {g : Option (Nat × Bool)} (hx : a.eval x = .int .i64 m) (hy : a.eval y = .int .i64 n) (hn : 0 ≤ n) :
    (execOp a.eval ⟨d, .binOp .shr 3 x y 3, ty, pos, af, g⟩).run Try.prog w = .ok (.value (.int .i64 (m / 2 ^ min n.toNat 64))) w := by
  simp only [execOp, hx, hy, eqGuard, binOp]
  rw [shift_shr_any _ _ _ _ hn]
  rfl
theorem conv35 (m : Int) (w : World) : (convert 3 5 (.int .i64 m)).run Try.prog w = .ok (.int .u8 (m % 256)) w := by
  have hk : Try.prog.intKind 5 = .u8 := by kernel_rfl
  rw [run_convert_int w 3 5 .i64 m (by rw [Try.underlying3]; rfl) (by rw [hk]; exact Try.underlying5), hk]
  rfl
theorem slice78k (x : Int) (w : World) : (Instr.buildSlice 78 1 #[(0, .int .u8 x)]).run Try.prog w = .ok (.slice (some ⟨w.heap.size, 0, none⟩) 1 1) (w.alloc (.cells #[.int .u8 x] 5)) := by kernel_rfl
theorem exec_conv35 {a : Act} {x : Operand} {m : Int} {w : World} {d : Option Tmp} {ty : Nat} {pos : String} {af : Array Edge} {g : Option (Nat × Bool)} (hx : a.eval x = .int .i64 m) :
    (execOp a.eval ⟨d, .convert 3 5 x, ty, pos, af, g⟩).run Try.prog w = .ok (.value (.int .u8 (m % 256))) w := by
  simp only [execOp, hx]
  exact exec_v (conv35 m w)
theorem exec_bs1 {a : Act} {x : Operand} {m : Int} {w : World} {d : Option Tmp} {ty : Nat} {pos : String} {af : Array Edge} {g : Option (Nat × Bool)} (hx : a.eval x = .int .u8 m) :
    (execOp a.eval ⟨d, .buildSlice 78 1 #[(0, x)], ty, pos, af, g⟩).run Try.prog w = .ok (.value (.slice (some ⟨w.heap.size, 0, none⟩) 1 1)) (w.alloc (.cells #[.int .u8 m] 5)) := by
  simp only [execOp, List.map_toArray, List.map_cons, List.map_nil, hx]
  exact exec_v (slice78k m w)
theorem exec_store78 {a : Act} {x y : Operand} {b : Nat} {u v : Value} {w : World} {d : Option Tmp} {ty : Nat} {pos : String} {af : Array Edge} {gd : Option (Nat × Bool)} (hx : a.eval x = .pointer (some ⟨b, 0, none⟩)) (hy : a.eval y = v) (hv : ∃ a n c, v = .slice a n c)
    (h : w.cell? ⟨b, 0, none⟩ = some u) (hf : w.frozen? ⟨b, 0, none⟩ = false) :
    (execOp a.eval ⟨d, .store 78 x y, ty, pos, af, gd⟩).run Try.prog w = .ok .skip (w.setCell ⟨b, 0, none⟩ v) := by
  obtain ⟨ad, nn, c, rfl⟩ := hv
  have hs := size78
  cases hq : Try.prog.info? 78 with
  | none => simp [hq] at hs
  | some i =>
    have h1 : i.size = 1 := by simpa [hq] using hs
    have e : (⟨b, 0, none⟩ : Addr).add 0 = ⟨b, 0, none⟩ := rfl
    simp [execOp, hx, hy, Instr.storeAt, Instr.sureAddr, storeVar, sizeOf, typeInfo, hq, h1, Value.cells, storeCells, e, store, Sem.run, h, hf]

theorem wrap_i64 (m : Int) (h0 : -9223372036854775808 ≤ m) (h1 : m ≤ 9223372036854775807) : IntKind.i64.wrap m = m := by
  simp [IntKind.wrap, IntKind.bits, IntKind.signed]; omega
theorem numB_at (n : Int) : ∀ (sz k : Nat) (hk : k < sz), (numB sz n)[k]'(by rw [numB_length]; exact hk) = n / 256 ^ (sz - 1 - k) % 256
  | sz + 1, 0, _ => by simp [numB]
  | sz + 1, k + 1, hk => by
    have := numB_at n sz k (by omega)
    simp only [numB, List.getElem_cons_succ]
    rw [this, show sz + 1 - 1 - (k + 1) = sz - 1 - k by omega]
theorem numB_take (n : Int) (sz k : Nat) (hk : k < sz) : (numB sz n).take (k + 1) = (numB sz n).take k ++ [n / 256 ^ (sz - 1 - k) % 256] := by
  rw [List.take_succ_eq_append_getElem (by rw [numB_length]; exact hk), numB_at n sz k hk]

set_option maxRecDepth 100000 in
set_option maxHeartbeats 4000000 in
theorem number_any {w : World} {B b : Nat} {l : List Int} (h : StAt w B b l) (hBw : B ≤ w.heap.size) (hl : l.length ≤ 99999990) (sz : Nat) (hsz : sz ≤ 8) (n : Int) :
    Calls Try.prog 60 #[.pointer (some ⟨b, 0, none⟩), .int .i64 sz, .int .i64 n] w fun e w' => e = .returned (.tuple #[]) ∧ StAt w' B b (l ++ numB sz n) ∧ Below B w w' ∧ Oth b w w' := by
  have HS := hid h
  have HBw := hid hBw
  clear h hBw
  go_enter Try.func60, Try.ntmps60
  go_wp2_with fail
  go_loopw [8] (fun i wr => ∃ k : Nat, k ≤ sz ∧ i = .int .i64 k ∧ StAt wr B b (l ++ (numB sz n).take k) ∧ Below B w wr ∧ Oth b w wr) (fun i _ => sz - (intOf i).toNat)
  case atStart => exact ⟨0, by omega, rfl, by simpa using HS.out, Below.refl _ _, Oth.refl _ _⟩
  case round =>
    obtain ⟨k, hk, rfl, hst, hb, hot⟩ := hrel
    have HB := hid hb
    have HO := hid hot
    clear hot
    have hBr : B ≤ wr.heap.size := Nat.le_trans HBw.out hb.size
    by_cases hlt : k < sz
    · have HE := hid (numB_take n sz k hlt)
      have e1 : IntKind.i64.wrap ((sz : Int) - 1) = (sz : Int) - 1 := wrap_i64 _ (by omega) (by omega)
      have e2 : IntKind.i64.wrap ((sz : Int) - 1 - k) = ((sz - 1 - k : Nat) : Int) := by rw [wrap_i64 _ (by omega) (by omega)]; omega
      have e3 : IntKind.i64.wrap (8 * ((sz - 1 - k : Nat) : Int)) = ((8 * (sz - 1 - k) : Nat) : Int) := by rw [wrap_i64 _ (by omega) (by omega)]; omega
      have e4 : n / 2 ^ min (((8 * (sz - 1 - k) : Nat) : Int)).toNat 64 = n / 256 ^ (sz - 1 - k) := by
        rw [Int.toNat_natCast, Nat.min_eq_left (by omega), Int.pow_mul]; rfl
      obtain ⟨v, v', w', hc, hc2, hrun, hsl, hc3, hf3, hst3, hb3, ho3⟩ := st_append hst.drew (show B ≤ wr.drew.heap.size from hBr) (n / 256 ^ (sz - 1 - k) % 256) (by rw [List.length_append, List.length_take, numB_length]; omega)
      rw [List.append_assoc, ← HE.out] at hst3
      have HS3 := hid hst3
      have HB3 := hid (HB.out.drew.trans hb3)
      have HO3 := hid (HO.out.trans ho3)
      clear hst hb hst3 hb3 ho3
      go_wp2_with fail
      refine wp_region_held_drew (S := fun _ => True) (by kernel_rfl) trivial ?_
      intro _
      refine anyH_take 0 ⟨some 11, .move (.tmp 0), _, _, _, none⟩ (.pointer (some ⟨b, 0, none⟩)) rfl rfl (by kernel_rfl) (by kernel_rfl) (by kernel_rfl) (fun _ _ _ h => h) (fun w _ => rfl) trivial ?_
      simp only [Act.put, List.setIfInBounds_toArray, List.set_cons_zero, List.set_cons_succ]
      refine anyH_take 1 ⟨some 12, .move (.tmp 0), _, _, _, none⟩ (.pointer (some ⟨b, 0, none⟩)) rfl rfl (by kernel_rfl) (by kernel_rfl) (by kernel_rfl) (fun _ _ _ h => h) (fun w _ => rfl) trivial ?_
      simp only [Act.put, List.setIfInBounds_toArray, List.set_cons_zero, List.set_cons_succ]
      refine anyH_take 2 ⟨some 13, .nilCheck (.tmp 12), _, _, _, none⟩ (.pointer (some ⟨b, 0, none⟩)) rfl rfl (by kernel_rfl) (by kernel_rfl) (by kernel_rfl) (fun _ _ _ h => h) (fun w _ => rfl) trivial ?_
      simp only [Act.put, List.setIfInBounds_toArray, List.set_cons_zero, List.set_cons_succ]
      refine anyH_take 3 ⟨some 14, .fieldAddr 80 (.tmp 13) 0, _, _, _, none⟩ (.pointer (some ⟨b, 0, none⟩)) rfl rfl (by kernel_rfl) (by kernel_rfl) (by kernel_rfl) (fun _ _ _ h => h) (fun w _ => exec_v (field80 b w)) trivial ?_
      simp only [Act.put, List.setIfInBounds_toArray, List.set_cons_zero, List.set_cons_succ]
      refine anyH_take 5 ⟨some 16, .move (.tmp 2), _, _, _, none⟩ (.int .i64 n) rfl rfl (by kernel_rfl) (by kernel_rfl) (by kernel_rfl) (fun _ _ _ h => h) (fun w _ => rfl) trivial ?_
      simp only [Act.put, List.setIfInBounds_toArray, List.set_cons_zero, List.set_cons_succ]
      refine anyH_take 6 ⟨some 17, .move (.tmp 1), _, _, _, none⟩ (.int .i64 sz) rfl rfl (by kernel_rfl) (by kernel_rfl) (by kernel_rfl) (fun _ _ _ h => h) (fun w _ => rfl) trivial ?_
      simp only [Act.put, List.setIfInBounds_toArray, List.set_cons_zero, List.set_cons_succ]
      refine anyH_take 7 ⟨some 18, .binOp .sub 3 (.tmp 17) (.const (.int .i64 1)) 3, _, _, _, none⟩ (.int .i64 ((sz : Int) - 1)) rfl rfl (by kernel_rfl) (by kernel_rfl) (by kernel_rfl) (fun _ _ _ h => h) (fun w _ => by rw [exec_sub3 (m := (sz : Int)) (n := 1) rfl rfl, e1]) trivial ?_
      simp only [Act.put, List.setIfInBounds_toArray, List.set_cons_zero, List.set_cons_succ]
      refine anyH_take 8 ⟨some 19, .move (.tmp 6), _, _, _, none⟩ (.int .i64 k) rfl rfl (by kernel_rfl) (by kernel_rfl) (by kernel_rfl) (fun _ _ _ h => h) (fun w _ => rfl) trivial ?_
      simp only [Act.put, List.setIfInBounds_toArray, List.set_cons_zero, List.set_cons_succ]
      refine anyH_take 9 ⟨some 20, .binOp .sub 3 (.tmp 18) (.tmp 19) 3, _, _, _, none⟩ (.int .i64 ((sz - 1 - k : Nat) : Int)) rfl rfl (by kernel_rfl) (by kernel_rfl) (by kernel_rfl) (fun _ _ _ h => h) (fun w _ => by rw [exec_sub3 (m := (sz : Int) - 1) (n := (k : Int)) rfl rfl, e2]) trivial ?_
      simp only [Act.put, List.setIfInBounds_toArray, List.set_cons_zero, List.set_cons_succ]
      refine anyH_take 10 ⟨some 21, .binOp .mul 3 (.const (.int .i64 8)) (.tmp 20) 3, _, _, _, none⟩ (.int .i64 ((8 * (sz - 1 - k) : Nat) : Int)) rfl rfl (by kernel_rfl) (by kernel_rfl) (by kernel_rfl) (fun _ _ _ h => h) (fun w _ => by rw [exec_mul3 (m := 8) (n := ((sz - 1 - k : Nat) : Int)) rfl rfl, e3]) trivial ?_
      simp only [Act.put, List.setIfInBounds_toArray, List.set_cons_zero, List.set_cons_succ]
      refine anyH_take 11 ⟨some 22, .binOp .shr 3 (.tmp 16) (.tmp 21) 3, _, _, _, none⟩ (.int .i64 (n / 256 ^ (sz - 1 - k))) rfl rfl (by kernel_rfl) (by kernel_rfl) (by kernel_rfl) (fun _ _ _ h => h) (fun w _ => by rw [exec_shr3 (m := n) (n := ((8 * (sz - 1 - k) : Nat) : Int)) rfl rfl (by omega), e4]) trivial ?_
      simp only [Act.put, List.setIfInBounds_toArray, List.set_cons_zero, List.set_cons_succ]
      refine anyH_take 12 ⟨some 23, .convert 3 5 (.tmp 22), _, _, _, none⟩ (.int .u8 (n / 256 ^ (sz - 1 - k) % 256)) rfl rfl (by kernel_rfl) (by kernel_rfl) (by kernel_rfl) (fun _ _ _ h => h) (fun w _ => exec_conv35 rfl) trivial ?_
      simp only [Act.put, List.setIfInBounds_toArray, List.set_cons_zero, List.set_cons_succ]
      refine anyH_two 4 13 (by kernel_rfl) ?_ ?_
      · refine wpOp_run (o := ⟨some 15, .load 78 (.tmp 14), _, _, _, none⟩) rfl rfl (exec_v (load78 hc)) ⟨trivial, ?_⟩
        simp only [Act.put, List.setIfInBounds_toArray, List.set_cons_zero, List.set_cons_succ]
        refine anyH_one 13 ⟨some 24, .buildSlice 78 1 #[(0, .tmp 23)], _, _, _, none⟩ (.slice (some ⟨wr.heap.size, 0, none⟩) 1 1) (wr.drew.alloc (.cells #[.int .u8 (n / 256 ^ (sz - 1 - k) % 256)] 5)) (by kernel_rfl) rfl rfl (exec_bs1 (m := (n / 256 ^ (sz - 1 - k) % 256)) rfl) trivial ?_
        simp only [Act.put, List.setIfInBounds_toArray, List.set_cons_zero, List.set_cons_succ]
        refine anyH_one 14 ⟨some 25, .call { callee := .builtin .append, args := #[.tmp 15, .tmp 24], argTypes := #[78, 78] }, _, _, _, none⟩ v' w' (by kernel_rfl) rfl rfl (exec_append (u := v) (s := .slice (some ⟨wr.heap.size, 0, none⟩) 1 1) rfl rfl hrun) trivial ?_
        simp only [Act.put, List.setIfInBounds_toArray, List.set_cons_zero, List.set_cons_succ]
        refine anyH_one 15 ⟨some 26, .nilCheck (.tmp 11), _, _, _, none⟩ (.pointer (some ⟨b, 0, none⟩)) w' (by kernel_rfl) rfl rfl (rfl) trivial ?_
        simp only [Act.put, List.setIfInBounds_toArray, List.set_cons_zero, List.set_cons_succ]
        refine anyH_one 16 ⟨some 27, .fieldAddr 80 (.tmp 26) 0, _, _, _, none⟩ (.pointer (some ⟨b, 0, none⟩)) w' (by kernel_rfl) rfl rfl (exec_v (field80 b _)) trivial ?_
        simp only [Act.put, List.setIfInBounds_toArray, List.set_cons_zero, List.set_cons_succ]
        refine anyH_oneSkip 17 ⟨none, .store 78 (.tmp 27) (.tmp 25), _, _, _, none⟩ (w'.setCell ⟨b, 0, none⟩ v') (by kernel_rfl) rfl rfl (exec_store78 rfl rfl hsl hc3 hf3) trivial ?_
        refine wpAnyH_done (by kernel_rfl) ?_ _
        go_wp2_with fail
        go_roundw
        case rel => exact ⟨k + 1, by omega, by go_num, HS3.out, HB3.out, HO3.out⟩
        case measure => simp [intOf]; omega
      · refine wpOp_run (o := ⟨some 24, .buildSlice 78 1 #[(0, .tmp 23)], _, _, _, none⟩) rfl rfl (exec_bs1 (m := (n / 256 ^ (sz - 1 - k) % 256)) rfl) ⟨trivial, ?_⟩
        simp only [Act.put, List.setIfInBounds_toArray, List.set_cons_zero, List.set_cons_succ]
        refine anyH_one 4 ⟨some 15, .load 78 (.tmp 14), _, _, _, none⟩ v (wr.drew.alloc (.cells #[.int .u8 (n / 256 ^ (sz - 1 - k) % 256)] 5)) (by kernel_rfl) rfl rfl (exec_v (load78 hc2)) trivial ?_
        simp only [Act.put, List.setIfInBounds_toArray, List.set_cons_zero, List.set_cons_succ]
        refine anyH_one 14 ⟨some 25, .call { callee := .builtin .append, args := #[.tmp 15, .tmp 24], argTypes := #[78, 78] }, _, _, _, none⟩ v' w' (by kernel_rfl) rfl rfl (exec_append (u := v) (s := .slice (some ⟨wr.heap.size, 0, none⟩) 1 1) rfl rfl hrun) trivial ?_
        simp only [Act.put, List.setIfInBounds_toArray, List.set_cons_zero, List.set_cons_succ]
        refine anyH_one 15 ⟨some 26, .nilCheck (.tmp 11), _, _, _, none⟩ (.pointer (some ⟨b, 0, none⟩)) w' (by kernel_rfl) rfl rfl (rfl) trivial ?_
        simp only [Act.put, List.setIfInBounds_toArray, List.set_cons_zero, List.set_cons_succ]
        refine anyH_one 16 ⟨some 27, .fieldAddr 80 (.tmp 26) 0, _, _, _, none⟩ (.pointer (some ⟨b, 0, none⟩)) w' (by kernel_rfl) rfl rfl (exec_v (field80 b _)) trivial ?_
        simp only [Act.put, List.setIfInBounds_toArray, List.set_cons_zero, List.set_cons_succ]
        refine anyH_oneSkip 17 ⟨none, .store 78 (.tmp 27) (.tmp 25), _, _, _, none⟩ (w'.setCell ⟨b, 0, none⟩ v') (by kernel_rfl) rfl rfl (exec_store78 rfl rfl hsl hc3 hf3) trivial ?_
        refine wpAnyH_done (by kernel_rfl) ?_ _
        go_wp2_with fail
        go_roundw
        case rel => exact ⟨k + 1, by omega, by go_num, HS3.out, HB3.out, HO3.out⟩
        case measure => simp [intOf]; omega
    · obtain rfl : sz = k := by omega
      go_wp2_with fail
      go_end0
      refine ⟨rfl, ?_, HB.out, HO.out⟩
      have := hst
      rw [List.take_of_length_le (by rw [numB_length]; exact Nat.le_refl _)] at this
      exact this
end Go.Proofs.Ytkipigbfbhecjaa
