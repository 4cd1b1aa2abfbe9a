/- What this text holds: Split, of the program. -/
import Derived.Test.YtkipigbfbhecjaaN15
namespace Go.Proofs.Ytkipigbfbhecjaa
open Go.RowKit
set_option linter.unusedVariables false
set_option linter.unusedSimpArgs false

theorem field26 (b : Nat) (w : World) : (Instr.fieldAt 26 (.pointer (some ⟨b, 0, none⟩)) 1).run Try.prog w = .ok (.pointer (some ⟨b, 1, none⟩)) w ∧ (Instr.fieldAt 26 (.pointer (some ⟨b, 0, none⟩)) 2).run Try.prog w = .ok (.pointer (some ⟨b, 2, none⟩)) w ∧ (Instr.fieldAt 26 (.pointer (some ⟨b, 0, none⟩)) 3).run Try.prog w = .ok (.pointer (some ⟨b, 3, none⟩)) w := ⟨by kernel_rfl, by kernel_rfl, by kernel_rfl⟩
theorem load22 {b k : Nat} {v : Value} {w : World} (h : w.cell? ⟨b, k, none⟩ = some v) : (Instr.loadAt 22 (.pointer (some ⟨b, k, none⟩))).run Try.prog w = .ok v w := by
  simp [Instr.loadAt, Instr.sureAddr, loadVar, isAgg, run_underlying Try.underlying22, h]
theorem load23 {b k : Nat} {v : Value} {w : World} (h : w.cell? ⟨b, k, none⟩ = some v) : (Instr.loadAt 23 (.pointer (some ⟨b, k, none⟩))).run Try.prog w = .ok v w := by
  simp [Instr.loadAt, Instr.sureAddr, loadVar, isAgg, run_underlying Try.underlying23, h]
theorem load24 {b k : Nat} {v : Value} {w : World} (h : w.cell? ⟨b, k, none⟩ = some v) : (Instr.loadAt 24 (.pointer (some ⟨b, k, none⟩))).run Try.prog w = .ok v w := by
  simp [Instr.loadAt, Instr.sureAddr, loadVar, isAgg, run_underlying Try.underlying24, h]
theorem hi22 (b o len cp i : Nat) (w : World) (h : i ≤ cp) : (Instr.sliceAt 22 (.slice (some ⟨b, o, none⟩) len cp) none (some (.int .i64 i)) none).run Try.prog w = .ok (.slice (some ⟨b, o, none⟩) i cp) w := by
  obtain ⟨inf, hin, hz0, hz1, hz2⟩ := info_parts Try.info9
  have e : Try.prog.elem 22 = 9 := by kernel_rfl
  have ht : Try.prog.underlying 22 = some (.slice (Try.prog.elem 22)) := by kernel_rfl
  simp only [Instr.sliceAt, Sem.run_bind, run_underlying ht, Result.andThen_ok]
  have := run_slice_h w 22 (some ⟨b, o, none⟩) len cp ht .i64 i (by omega) (by omega)
  rw [this, e]
  simp [sizeOf, typeInfo, hin, hz1, sliced, Addr.add]
theorem lo22 (b o len cp i : Nat) (w : World) (h : i ≤ len) (hc : i < cp) : (Instr.sliceAt 22 (.slice (some ⟨b, o, none⟩) len cp) (some (.int .i64 i)) none none).run Try.prog w = .ok (.slice (some ⟨b, o + i * 1, none⟩) (len - i) (cp - i)) w := by
  obtain ⟨inf, hin, hz0, hz1, hz2⟩ := info_parts Try.info9
  have e : Try.prog.elem 22 = 9 := by kernel_rfl
  have ht : Try.prog.underlying 22 = some (.slice (Try.prog.elem 22)) := by kernel_rfl
  simp only [Instr.sliceAt, Sem.run_bind, run_underlying ht, Result.andThen_ok]
  have := run_slice_l w 22 (some ⟨b, o, none⟩) len cp ht .i64 (i : Int) (by omega) (by omega)
  rw [this, e, Int.toNat_natCast]
  have hcc : cp ≠ i := by omega
  simp [sizeOf, typeInfo, hin, hz1, sliced, hcc, Addr.add_mid]
theorem hi23 (b o len cp i : Nat) (w : World) (h : i ≤ cp) : (Instr.sliceAt 23 (.slice (some ⟨b, o, none⟩) len cp) none (some (.int .i64 i)) none).run Try.prog w = .ok (.slice (some ⟨b, o, none⟩) i cp) w := by
  obtain ⟨inf, hin, hz0, hz1, hz2⟩ := info_parts Try.info51
  have e : Try.prog.elem 23 = 51 := by kernel_rfl
  have ht : Try.prog.underlying 23 = some (.slice (Try.prog.elem 23)) := by kernel_rfl
  simp only [Instr.sliceAt, Sem.run_bind, run_underlying ht, Result.andThen_ok]
  have := run_slice_h w 23 (some ⟨b, o, none⟩) len cp ht .i64 i (by omega) (by omega)
  rw [this, e]
  simp [sizeOf, typeInfo, hin, hz1, sliced, Addr.add]
theorem lo23 (b o len cp i : Nat) (w : World) (h : i ≤ len) (hc : i < cp) : (Instr.sliceAt 23 (.slice (some ⟨b, o, none⟩) len cp) (some (.int .i64 i)) none none).run Try.prog w = .ok (.slice (some ⟨b, o + i * 3, none⟩) (len - i) (cp - i)) w := by
  obtain ⟨inf, hin, hz0, hz1, hz2⟩ := info_parts Try.info51
  have e : Try.prog.elem 23 = 51 := by kernel_rfl
  have ht : Try.prog.underlying 23 = some (.slice (Try.prog.elem 23)) := by kernel_rfl
  simp only [Instr.sliceAt, Sem.run_bind, run_underlying ht, Result.andThen_ok]
  have := run_slice_l w 23 (some ⟨b, o, none⟩) len cp ht .i64 (i : Int) (by omega) (by omega)
  rw [this, e, Int.toNat_natCast]
  have hcc : cp ≠ i := by omega
  simp [sizeOf, typeInfo, hin, hz1, sliced, hcc, Addr.add_mid]
theorem hi24 (b o len cp i : Nat) (w : World) (h : i ≤ cp) : (Instr.sliceAt 24 (.slice (some ⟨b, o, none⟩) len cp) none (some (.int .i64 i)) none).run Try.prog w = .ok (.slice (some ⟨b, o, none⟩) i cp) w := by
  obtain ⟨inf, hin, hz0, hz1, hz2⟩ := info_parts Try.info3
  have e : Try.prog.elem 24 = 3 := by kernel_rfl
  have ht : Try.prog.underlying 24 = some (.slice (Try.prog.elem 24)) := by kernel_rfl
  simp only [Instr.sliceAt, Sem.run_bind, run_underlying ht, Result.andThen_ok]
  have := run_slice_h w 24 (some ⟨b, o, none⟩) len cp ht .i64 i (by omega) (by omega)
  rw [this, e]
  simp [sizeOf, typeInfo, hin, hz1, sliced, Addr.add]
theorem lo24 (b o len cp i : Nat) (w : World) (h : i ≤ len) (hc : i < cp) : (Instr.sliceAt 24 (.slice (some ⟨b, o, none⟩) len cp) (some (.int .i64 i)) none none).run Try.prog w = .ok (.slice (some ⟨b, o + i * 1, none⟩) (len - i) (cp - i)) w := by
  obtain ⟨inf, hin, hz0, hz1, hz2⟩ := info_parts Try.info3
  have e : Try.prog.elem 24 = 3 := by kernel_rfl
  have ht : Try.prog.underlying 24 = some (.slice (Try.prog.elem 24)) := by kernel_rfl
  simp only [Instr.sliceAt, Sem.run_bind, run_underlying ht, Result.andThen_ok]
  have := run_slice_l w 24 (some ⟨b, o, none⟩) len cp ht .i64 (i : Int) (by omega) (by omega)
  rw [this, e, Int.toNat_natCast]
  have hcc : cp ≠ i := by omega
  simp [sizeOf, typeInfo, hin, hz1, sliced, hcc, Addr.add_mid]

theorem exec_call45 {a : Act} {x y : Operand} {X Y : Value} {w : World} {d : Option Tmp} {ty : Nat} {ts : Array Nat} {pos : String} {af : Array Edge} {g : Option (Nat × Bool)} (hx : a.eval x = X) (hy : a.eval y = Y) :
    (execOp a.eval ⟨d, .call { callee := .value (.func 45), args := #[x, y], argTypes := ts }, ty, pos, af, g⟩).run Try.prog w = .ok (.enter 45 #[X, Y]) w := by
  simp only [execOp, resolve, List.map_toArray, List.map_cons, List.map_nil, hx, hy]
  kernel_rfl
theorem exec_call46 {a : Act} {x y : Operand} {X Y : Value} {w : World} {d : Option Tmp} {ty : Nat} {ts : Array Nat} {pos : String} {af : Array Edge} {g : Option (Nat × Bool)} (hx : a.eval x = X) (hy : a.eval y = Y) :
    (execOp a.eval ⟨d, .call { callee := .value (.func 46), args := #[x, y], argTypes := ts }, ty, pos, af, g⟩).run Try.prog w = .ok (.enter 46 #[X, Y]) w := by
  simp only [execOp, resolve, List.map_toArray, List.map_cons, List.map_nil, hx, hy]
  kernel_rfl
theorem exec_store26 {a : Act} {x y : Operand} {R : Nat} {x0 x1 x2 x3 : Value} {l : Bool} {a1 a2 a3 : Option Addr} {n1 n2 n3 c1 c2 c3 : Nat} {w : World} {d : Option Tmp} {ty : Nat} {pos : String} {af : Array Edge} {gd : Option (Nat × Bool)} (hx : a.eval x = .pointer (some ⟨R, 0, none⟩)) (hy : a.eval y = .agg #[.bool l, .slice a1 n1 c1, .slice a2 n2 c2, .slice a3 n3 c3])
    (h : w.heap[R]? = some (.cells #[x0, x1, x2, x3] 26 (0, 0))) :
    (execOp a.eval ⟨d, .store 26 x y, ty, pos, af, gd⟩).run Try.prog w = .ok .skip (w.setRow R #[.bool l, .slice a1 n1 c1, .slice a2 n2 c2, .slice a3 n3 c3]) := by
  have hs := sizeOf26
  cases hq : Try.prog.info? 26 with
  | none => simp [hq] at hs
  | some i =>
    have h1 : i.size = 4 := by simpa [hq] using hs
    have hst := run_storeCells_at Try.prog R 0 26 [.bool l, .slice a1 n1 c1, .slice a2 n2 c2, .slice a3 n3 c3] 0 #[x0, x1, x2, x3] w h (by simp) (by simp [Value.oneCell'])
    simp at hst
    simp [execOp, hx, hy, Instr.storeAt, Instr.sureAddr, storeVar, sizeOf, typeInfo, hq, h1, Value.cells, hst]
theorem results4 {fn : Func} {p q u v : Tmp} (h : fn.results = #[.cell p 26, .tmp u, .cell q 26, .tmp v]) {tmps : Array Value} {w : World} {R Q : Nat} {x0 x1 x2 x3 y0 y1 y2 y3 : Value} (hp : tmps.getD p undef = .pointer (some ⟨R, 0, none⟩)) (hq : tmps.getD q undef = .pointer (some ⟨Q, 0, none⟩))
    (hx : w.heap[R]? = some (.cells #[x0, x1, x2, x3] 26 (0, 0))) (hy : w.heap[Q]? = some (.cells #[y0, y1, y2, y3] 26 (0, 0))) :
    (results fn tmps).run Try.prog w = .ok (.tuple #[.agg #[x0, x1, x2, x3], tmps.getD u undef, .agg #[y0, y1, y2, y3], tmps.getD v undef]) w := by
  have e : (results fn tmps).run Try.prog w = ((asAddr (tmps.getD p undef)).run Try.prog w).andThen fun a w₁ => ((loadVar 26 a).run Try.prog w₁).andThen fun X w₂ => ((asAddr (tmps.getD q undef)).run Try.prog w₂).andThen fun b w₃ => ((loadVar 26 b).run Try.prog w₃).andThen fun Y w₄ => .ok (.tuple #[X, tmps.getD u undef, Y, tmps.getD v undef]) w₄ := by
    simp only [results, h]
    simp [Sem.run_bind, Result.andThen]
  refine e.trans ?_
  generalize tmps.getD p undef = P at hp
  generalize tmps.getD q undef = Q' at hq
  subst hp hq
  have ha : ∀ R : Nat, (asAddr (.pointer (some ⟨R, 0, none⟩))).run Try.prog w = .ok ⟨R, 0, none⟩ w := fun R => by simp [asAddr]
  simp only [ha, Result.andThen_ok, load26 hx, load26 hy]

def plain : Value → Bool
  | .string _ => true
  | .int _ _ => true
  | _ => false
theorem kc_plain (l : List ByteArray) : ∀ v ∈ kc l, plain v = true := by
  intro v hv; simp only [kc, List.mem_map] at hv; obtain ⟨x, _, rfl⟩ := hv; rfl
theorem dc_plain (l : List Int) : ∀ v ∈ dc l, plain v = true := by
  intro v hv; simp only [dc, List.mem_map] at hv; obtain ⟨x, _, rfl⟩ := hv; rfl
theorem ic_plain (l : List It) : ∀ v ∈ ic l, plain v = true := by
  intro v hv
  simp only [ic, itc, List.mem_flatMap, List.mem_cons, List.not_mem_nil, or_false] at hv
  obtain ⟨x, _, h | h | h⟩ := hv <;> subst h <;> rfl
section
variable {w : World} {R : Nat} {l : Bool} {a1 a2 a3 : Option Addr} {n1 n2 n3 c1 c2 c3 : Nat}
theorem At.setRow {a : Option Addr} {cs : List Value} (h : At w a cs) (hp : ∀ v ∈ cs, plain v = true) (hR : w.heap[R]? = some (.cells #[.bool l, .slice a1 n1 c1, .slice a2 n2 c2, .slice a3 n3 c3] 26 (0, 0))) (ys : Array Value) : At (w.setRow R ys) a cs := by
  rcases h with h | ⟨b, o, rfl, h⟩
  · exact .inl h
  · refine .inr ⟨b, o, rfl, fun j v hv => ?_⟩
    have hc := h j v hv
    have hb : b ≠ R := by
      intro e
      subst e
      have hpv := hp v (List.mem_of_getElem? hv)
      simp only [World.cell?, hR] at hc
      rcases hh : o + j with _ | _ | _ | _ | k
      all_goals rw [hh] at hc
      all_goals simp at hc
      all_goals subst hc
      all_goals simp [plain] at hpv
    exact (World.cell?_of_block (w := w) (setRow_other w R b _ hb)).trans hc
theorem NAt.setRow {v : Value} {n : Nd} (h : NAt w v n) (hR : w.heap[R]? = some (.cells #[.bool l, .slice a1 n1 c1, .slice a2 n2 c2, .slice a3 n3 c3] 26 (0, 0))) (ys : Array Value) : NAt (w.setRow R ys) v n := by
  obtain ⟨ka, kp, ia, ep, da, dp, e, h1, h2, h3, r⟩ := h.at_
  exact ⟨⟨ka, kp, ia, ep, da, dp, e, h1.setRow (kc_plain _) hR ys, h2.setRow (ic_plain _) hR ys, h3.setRow (dc_plain _) hR ys, r⟩, h.ks, h.is_⟩
theorem below_setRow {B : Nat} (hB : B ≤ R) (ys : Array Value) : Below B w (w.setRow R ys) :=
  ⟨rfl, rfl, rfl, by simp, fun k hk => setRow_other w R k _ (by omega)⟩
end
theorem At.takeC {w : World} {a : Option Addr} {cs : List Value} (h : At w a cs) (k : Nat) : At w a (cs.take k) := by
  rcases h with h | ⟨b, o, e, h⟩
  · exact .inl (by rw [h]; simp)
  · exact .inr ⟨b, o, e, fun j v hv => h j v (by rw [List.getElem?_take] at hv; split at hv; exact hv; cases hv)⟩
theorem At.dropC {w : World} {b o : Nat} {cs : List Value} (h : At w (some ⟨b, o, none⟩) cs) (k : Nat) : At w (some ⟨b, o + k, none⟩) (cs.drop k) := by
  rcases h with h | ⟨b', o', e, h⟩
  · exact .inl (by rw [h]; simp)
  · simp only [Option.some.injEq, Addr.mk.injEq, and_true] at e
    obtain ⟨rfl, rfl⟩ := e
    exact .inr ⟨b, o + k, rfl, fun j v hv => by rw [List.getElem?_drop] at hv; have := h _ v hv; rw [Nat.add_assoc]; exact this⟩
theorem kc_take (l : List ByteArray) (i : Nat) : kc (l.take i) = (kc l).take i := by simp [kc]
theorem kc_drop (l : List ByteArray) (i : Nat) : kc (l.drop i) = (kc l).drop i := by simp [kc]
theorem dc_take (l : List Int) (i : Nat) : dc (l.take i) = (dc l).take i := by simp [dc]
theorem dc_drop (l : List Int) (i : Nat) : dc (l.drop i) = (dc l).drop i := by simp [dc]
theorem ic_take : ∀ (l : List It) (i : Nat), ic (l.take i) = (ic l).take (i * 3)
  | [], i => by simp [ic]
  | x :: l, 0 => by simp [ic]
  | x :: l, i + 1 => by
    rw [List.take_succ_cons, ic_cons, ic_cons, ic_take l i, show (i + 1) * 3 = i * 3 + 1 + 1 + 1 by omega]
    simp
theorem ic_drop : ∀ (l : List It) (i : Nat), ic (l.drop i) = (ic l).drop (i * 3)
  | [], i => by simp [ic]
  | x :: l, 0 => by simp [ic]
  | x :: l, i + 1 => by
    rw [List.drop_succ_cons, ic_cons, ic_drop l i, show (i + 1) * 3 = i * 3 + 1 + 1 + 1 by omega]
    simp

def leastN (n : Nd) : Nat := if n.leaf then 2 else 3
def cutA (n : Nd) (i : Nat) : Nd := if n.leaf then ⟨true, n.keys.take i, n.items.take i, []⟩ else ⟨false, n.keys.take i, [], n.kids.take (i + 1)⟩
def cutB (n : Nd) (i : Nat) : Nd := if n.leaf then ⟨true, n.keys.drop i, n.items.drop i, []⟩ else ⟨false, n.keys.drop (i + 1), [], n.kids.drop (i + 1)⟩
/-- May a node be cut? -/
def splitB (n : Nd) : Bool := rightB n && decide (leastN n ≤ n.keys.length)
/-- What Split ends in. -/
def SplitP (w : World) (n : Nd) (e : Ending) (w' : World) : Prop :=
  (splitB n = false ∧ (∃ va vb, e = .returned (.tuple #[va, .string ⟨#[]⟩, vb, .int .i64 2]) ∧ NAt w' va ⟨false, [], [], []⟩ ∧ NAt w' vb ⟨false, [], [], []⟩) ∧ Below w.heap.size w w') ∨
  (splitB n = true ∧ ∃ i va vb, HalfAt n (n.keys.length - leastN n + 1) i ∧ e = .returned (.tuple #[va, .string (n.key i), vb, .int .i64 0]) ∧ NAt w' va (cutA n i) ∧ NAt w' vb (cutB n i) ∧ Below w.heap.size w w')
theorem nat_zero (w : World) : NAt w (.agg #[.bool false, .slice none 0 0, .slice none 0 0, .slice none 0 0]) ⟨false, [], [], []⟩ :=
  ⟨⟨none, 0, none, 0, none, 0, rfl, .inl rfl, .inl rfl, .inl rfl, ⟨Nat.le_refl _, Nat.zero_le _⟩, ⟨Nat.le_refl _, Nat.zero_le _⟩, ⟨Nat.le_refl _, Nat.zero_le _⟩⟩, (fun k hk => by cases hk), (fun x hx => by cases hx)⟩
end Go.Proofs.Ytkipigbfbhecjaa
