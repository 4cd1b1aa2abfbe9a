/- What this text holds: a name's parts: the document's answer. -/
import Derived.Test.YtkmggkcipgfhdaaDoorJ1
namespace Go.Proofs.YtkmggkcipgfhdaaDoor
open Go.RowKit
set_option linter.unusedVariables false
set_option linter.unusedSimpArgs false

theorem size9 : (Tryd.prog.info? 9).map (·.size) = some 1 := by kernel_rfl
theorem index32 (g n c i : Nat) (w : World) (hi : i < n) : (Instr.indexAt 32 (.slice (some ⟨g, 0, none⟩) n c) (.int .i64 i)).run Tryd.prog w = .ok (.pointer (some ⟨g, i, none⟩)) w := by
  have hs := size9
  cases hq : Tryd.prog.info? 9 with
  | none => simp [hq] at hs
  | some j =>
    have h1 : j.size = 1 := by simpa [hq] using hs
    rw [run_indexAt_slice _ _ _ _ _ _ _ (by kernel_rfl)]
    have he : Tryd.prog.elem 32 = 9 := by kernel_rfl
    have e : (⟨g, 0, none⟩ : Addr).add i = ⟨g, i, none⟩ := by rw [Addr.add_mid, Nat.zero_add]
    simp [he, sizeOf, typeInfo, hq, h1, hi, e]
theorem load9 {b k : Nat} {v : Value} {w : World} (h : w.cell? ⟨b, k, none⟩ = some v) : (Instr.loadAt 9 (.pointer (some ⟨b, k, none⟩))).run Tryd.prog w = .ok v w := by
  simp [Instr.loadAt, Instr.sureAddr, loadVar, isAgg, run_underlying Tryd.underlying9, h]
theorem exec_store9 {a : Act} {x y : Operand} {b k : Nat} {s : ByteArray} {u : Value} {w : World} {d : Option Tmp} {ty : Nat} {pos : String} {af : Array Edge} {gd : Option (Nat × Bool)} (hx : a.eval x = .pointer (some ⟨b, k, none⟩)) (hy : a.eval y = .string s)
    (h : w.cell? ⟨b, k, none⟩ = some u) (hf : w.frozen? ⟨b, k, none⟩ = false) : (execOp a.eval ⟨d, .store 9 x y, ty, pos, af, gd⟩).run Tryd.prog w = .ok .skip (w.setCell ⟨b, k, none⟩ (.string s)) := by
  have hs := size9
  cases hq : Tryd.prog.info? 9 with
  | none => simp [hq] at hs
  | some i =>
    have h1 : i.size = 1 := by simpa [hq] using hs
    have e : (⟨b, k, none⟩ : Addr).add 0 = ⟨b, k, none⟩ := by simp [Addr.add]
    simp [execOp, hx, hy, Instr.storeAt, Instr.sureAddr, storeVar, sizeOf, typeInfo, hq, h1, Value.cells, storeCells, e, store, Sem.run, h, hf]
theorem exec_len32 {a : Act} {x : Operand} {p : Option Addr} {n c : Nat} {w : World} {d : Option Tmp} {ty : Nat} {pos : String} {af : Array Edge} {gd : Option (Nat × Bool)} (hx : a.eval x = .slice p n c) :
    (execOp a.eval ⟨d, .call { callee := .builtin .len, args := #[x], argTypes := #[32] }, ty, pos, af, gd⟩).run Tryd.prog w = .ok (.value (.int .i64 n)) w := by
  simp [execOp, resolve, invoke, builtin, hx, Builtin.len_, run_underlying Tryd.underlying32, goInt]
theorem exec_sub3 {a : Act} {x y : Operand} {m n k : Int} {w : World} {d : Option Tmp} {ty : Nat} {pos : String} {af : Array Edge} {g : Option (Nat × Bool)} (hx : a.eval x = .int .i64 m) (hy : a.eval y = .int .i64 n) (hk : IntKind.i64.wrap (m - n) = k) :
    (execOp a.eval ⟨d, .binOp .sub 3 x y 3, ty, pos, af, g⟩).run Tryd.prog w = .ok (.value (.int .i64 k)) w := by
  subst hk
  simp [execOp, hx, hy, eqGuard, binOp]
  rfl
theorem exec_add3 {a : Act} {x y : Operand} {m n k : Int} {w : World} {d : Option Tmp} {ty : Nat} {pos : String} {af : Array Edge} {g : Option (Nat × Bool)} (hx : a.eval x = .int .i64 m) (hy : a.eval y = .int .i64 n) (hk : IntKind.i64.wrap (m + n) = k) :
    (execOp a.eval ⟨d, .binOp .add 3 x y 3, ty, pos, af, g⟩).run Tryd.prog w = .ok (.value (.int .i64 k)) w := by
  subst hk
  simp [execOp, hx, hy, eqGuard, binOp]
  rfl
theorem exec_slice9 {a : Act} {x y z : Operand} {s : ByteArray} {m n : Nat} {w : World} {d : Option Tmp} {ty : Nat} {pos : String} {af : Array Edge} {g : Option (Nat × Bool)} (hx : a.eval x = .string s) (hy : a.eval y = .int .i64 m) (hz : a.eval z = .int .i64 n) (h1 : m ≤ n) (h2 : n ≤ s.size) (h3 : s.size ≤ 100000) :
    (execOp a.eval ⟨d, .slice 9 x (some y) (some z) none, ty, pos, af, g⟩).run Tryd.prog w = .ok (.value (.string (s.extract m n))) w := by
  have e : (Instr.slice 9 (.string s) (some (.int .i64 m)) (some (.int .i64 n)) none).run Tryd.prog w = .ok (.string (s.extract m n)) w := by
    have a1 : (m : Int) ≤ n := by omega
    have a2 : (n : Int) ≤ s.size := by omega
    have u := Tryd.underlying9
    simp [go_sem, u, a1, a2]
  simp only [execOp, Option.map, hx, hy, hz]
  exact exec_v e

theorem parts_snoc (l : List UInt8) (c : UInt8) (hc : c ≠ 47) : parts (l ++ [c]) = (parts l).dropLast ++ [(parts l).getLastD [] ++ [c]] := by
  induction l with
  | nil => simp [parts, hc]
  | cons b l ih =>
    by_cases hb : b = 47
    · subst hb
      obtain ⟨p, ps, hp⟩ := parts_some l
      rw [List.cons_append, parts_slash, parts_slash, ih, hp]
      rfl
    · obtain ⟨p, ps, hp⟩ := parts_some l
      rw [hp] at ih
      rw [List.cons_append, parts_cons hb hp]
      cases ps with
      | nil =>
        have e : parts (l ++ [c]) = (p ++ [c]) :: [] := by rw [ih]; rfl
        rw [parts_cons hb e]
        rfl
      | cons q qs =>
        have e : parts (l ++ [c]) = p :: ((q :: qs).dropLast ++ [(q :: qs).getLastD [] ++ [c]]) := by rw [ih]; rfl
        rw [parts_cons hb e]
        rfl
/-- A string of one's own is written anew. -/
theorem so_set {w : World} {B g n c : Nat} {l : List (List UInt8)} (h : SO w B (.slice (some ⟨g, 0, none⟩) n c) l) (hn : l.length = n) (k : Nat) (hk : k < l.length) (x : List UInt8) :
    w.cell? ⟨g, k, none⟩ = some (.string (str l[k])) ∧ w.frozen? ⟨g, k, none⟩ = false ∧ SO (w.setCell ⟨g, k, none⟩ (.string (str x))) B (.slice (some ⟨g, 0, none⟩) n c) (l.set k x) ∧ B ≤ g := by
  have hcell := World.ownsRow.cells h rfl k (.string (str l[k])) (by simp [sc, hk])
  rw [Addr.add_mid, Nat.zero_add] at hcell
  rcases id h.2 with ⟨e, _⟩ | ⟨g', cap, cur, e, hB, hg, h1, h2, h3, h4⟩
  · cases e
  · cases e
    refine ⟨hcell, by simp [World.frozen?, hg], ⟨by simp [sc], .inr ⟨g, c, cur.setIfInBounds k (.string (str x)), by rw [List.length_set], hB, ?_, by rw [List.length_set]; exact h1, h2, by rw [Array.size_setIfInBounds]; exact h3, ?_⟩⟩, hB⟩
    · rw [heap_setCell_same _ _ _ _ _ _ hg]
    · rw [List.length_set, Array.toList_setIfInBounds, Nat.mul_one] at *
      rw [List.take_set, h4]
      unfold sc
      rw [List.map_set]
end Go.Proofs.YtkmggkcipgfhdaaDoor
