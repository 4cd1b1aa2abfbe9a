/- What this text holds: lists of texts of one's own; the document's blank. -/
import Derived.Test.YtnjdgbbdjkhpoaaDoorR9
namespace Go.Proofs.YtnjdgbbdjkhpoaaDoor
open Go.RowKit
set_option linter.unusedVariables false
set_option linter.unusedSimpArgs false

def sc (l : List Bs) : List Value := l.map fun p => .string (str p)
def SAt (w : World) (g o : Nat) (l : List Bs) : Prop := ∀ j p, l[j]? = some p → w.cell? ⟨g, o + j, none⟩ = some (.string (str p))
def SL (w : World) (v : Value) (l : List Bs) : Prop := ∃ a c, v = .slice a l.length c ∧ l.length ≤ c ∧ (l = [] ∨ ∃ g o, a = some ⟨g, o, none⟩ ∧ SAt w g o l)
theorem Tryd.info9 : (Tryd.prog.info? 9).map (fun i => (i.zero, i.size, i.bytes)) = some (some (.string ⟨#[]⟩), 1, 16) := by kernel_rfl
theorem sc_oneCell (l : List (List UInt8)) : ∀ v ∈ sc l, v.oneCell' = true := by
  intro v hv
  simp only [sc, List.mem_map] at hv
  obtain ⟨x, _, rfl⟩ := hv
  rfl
theorem sc_append (l m : List (List UInt8)) : sc (l ++ m) = sc l ++ sc m := by simp [sc]
/-- A slice of strings of one's own. -/
def SO (w : World) (B : Nat) (v : Value) (l : List (List UInt8)) : Prop := w.ownsRow B 9 1 v l.length (sc l)
theorem SO.sl {w : World} {B : Nat} {v : Value} {l : List (List UInt8)} (h : SO w B v l) : SL w v l := by
  rcases id h.2 with ⟨rfl, h0⟩ | ⟨g, cap, cur, rfl, _, hg, hc, _⟩
  · have := List.eq_nil_of_length_eq_zero h0
    subst this
    exact ⟨none, 0, rfl, by simp, .inl rfl⟩
  · refine ⟨_, cap, rfl, hc, .inr ⟨g, 0, rfl, fun j p hp => ?_⟩⟩
    have := World.ownsRow.cells h rfl j (.string (str p)) (by simp [sc, hp])
    rw [Addr.add_mid] at this
    exact this
/-- More strings. -/
theorem so_more {w : World} {B : Nat} {v : Value} {l : List (List UInt8)} (h : SO w B v l) (hBw : B ≤ w.heap.size) {u : Value} {m : List (List UInt8)} (hu : SL w u m) (hl : l.length ≤ 1000000) (hm : m.length ≤ 1000000) (hne : m ≠ []) :
    ∃ v' w', (Builtin.append_ #[64, 64] 64 #[v, u]).run Tryd.prog w = .ok v' w' ∧ SO w' B v' (l ++ m) ∧ Below B w w' := by
  obtain ⟨i, hi, hz0, hz1, hz2⟩ := info_parts Tryd.info9
  obtain ⟨a, c, rfl, hc, hs⟩ := hu
  rcases hs with hs | ⟨g, o, rfl, hs⟩
  · exact absurd hs hne
  · obtain ⟨v', w', hr, ho', hg, _, _⟩ := run_append_own_at (P := Tryd.prog) w B 64 64 9 i _ 1 16 Tryd.underlying64 hi hz0 hz1 hz2 rfl (by omega) v l.length (sc l) h
      ⟨g, o, none⟩ m.length c (sc m) (by simp [sc]) (fun j x hx => by
        rw [Addr.add_mid]
        simp only [sc, List.getElem?_map, Option.map_eq_some_iff] at hx
        obtain ⟨p, hp, rfl⟩ := hx
        exact hs j p hp) (sc_oneCell m) (by unfold maxLen; omega) (by omega) hBw
    rw [← sc_append, show l.length + m.length = (l ++ m).length by simp] at ho'
    exact ⟨v', w', hr, ho', (Below.refl B w).grown hg hBw (fun k hk => (World.ownsRow.lt h k hk).1)⟩
theorem SO.later {w w' : World} {B : Nat} {v : Value} {l : List (List UInt8)} (h : SO w B v l) (hb : Below w.heap.size w w') : SO w' B v l :=
  ownsRow_block h (fun k hk => hb.block k (World.ownsRow.lt h k hk).2)
theorem SO.slice {w : World} {B : Nat} {v : Value} {l : List (List UInt8)} (h : SO w B v l) : ∃ a c, v = .slice a l.length c := by
  obtain ⟨a, c, h, _⟩ := h.sl
  exact ⟨a, c, h⟩
theorem sl_one (w : World) (p : List UInt8) : SL (w.alloc (.cells #[.string (str p)] 9)) (.slice (some ⟨w.heap.size, 0, none⟩) 1 1) [p] := by
  refine ⟨_, 1, rfl, by simp, .inr ⟨_, 0, rfl, fun j q hq => ?_⟩⟩
  simp only [World.cell?, heap_alloc_new, Nat.zero_add]
  cases j with
  | zero => simp at hq; subst hq; rfl
  | succ j => simp at hq

theorem size9 : (Tryd.prog.info? 9).map (·.size) = some 1 := by kernel_rfl
theorem index64 (g n c i : Nat) (w : World) (hi : i < n) : (Instr.indexAt 64 (.slice (some ⟨g, 0, none⟩) n c) (.int .i64 i)).run Tryd.prog w = .ok (.pointer (some ⟨g, i, none⟩)) w := by
  have hs := size9
  cases hq : Tryd.prog.info? 9 with
  | none => simp [hq] at hs
  | some j =>
    have h1 : j.size = 1 := by simpa [hq] using hs
    rw [run_indexAt_slice _ _ _ _ _ _ _ (by kernel_rfl)]
    have he : Tryd.prog.elem 64 = 9 := by kernel_rfl
    have e : (⟨g, 0, none⟩ : Addr).add i = ⟨g, i, none⟩ := by rw [Addr.add_mid, Nat.zero_add]
    simp [he, sizeOf, typeInfo, hq, h1, hi, e]
theorem load9 {b k : Nat} {v : Value} {w : World} (h : w.cell? ⟨b, k, none⟩ = some v) : (Instr.loadAt 9 (.pointer (some ⟨b, k, none⟩))).run Tryd.prog w = .ok v w := by
  simp [Instr.loadAt, Instr.sureAddr, loadVar, isAgg, run_underlying Tryd.underlying9, h]
theorem exec_store9 {a : Act} {x y : Operand} {b k : Nat} {s : ByteArray} {u : Value} {w : World} {d : Option Tmp} {ty : Nat} {pos : String} {af : Array Edge} {gd : Option (Nat × Bool)} (hx : a.eval x = .pointer (some ⟨b, k, none⟩)) (hy : a.eval y = .string s)
    (h : w.cell? ⟨b, k, none⟩ = some u) (hf : w.frozen? ⟨b, k, none⟩ = false) : (execOp a.eval ⟨d, .store 9 x y, ty, pos, af, gd⟩).run Tryd.prog w = .ok .skip (w.setCell ⟨b, k, none⟩ (.string s)) := by
  have hs := size9
  cases hq : Tryd.prog.info? 9 with
  | none => simp [hq] at hs
  | some i =>
    have h1 : i.size = 1 := by simpa [hq] using hs
    have e : (⟨b, k, none⟩ : Addr).add 0 = ⟨b, k, none⟩ := by simp [Addr.add]
    simp [execOp, hx, hy, Instr.storeAt, Instr.sureAddr, storeVar, sizeOf, typeInfo, hq, h1, Value.cells, storeCells, e, store, Sem.run, h, hf]
theorem exec_len64 {a : Act} {x : Operand} {p : Option Addr} {n c : Nat} {w : World} {d : Option Tmp} {ty : Nat} {pos : String} {af : Array Edge} {gd : Option (Nat × Bool)} (hx : a.eval x = .slice p n c) :
    (execOp a.eval ⟨d, .call { callee := .builtin .len, args := #[x], argTypes := #[64] }, ty, pos, af, gd⟩).run Tryd.prog w = .ok (.value (.int .i64 n)) w := by
  simp [execOp, resolve, invoke, builtin, hx, Builtin.len_, run_underlying Tryd.underlying64, goInt]
theorem exec_sub3 {a : Act} {x y : Operand} {m n k : Int} {w : World} {d : Option Tmp} {ty : Nat} {pos : String} {af : Array Edge} {g : Option (Nat × Bool)} (hx : a.eval x = .int .i64 m) (hy : a.eval y = .int .i64 n) (hk : IntKind.i64.wrap (m - n) = k) :
    (execOp a.eval ⟨d, .binOp .sub 3 x y 3, ty, pos, af, g⟩).run Tryd.prog w = .ok (.value (.int .i64 k)) w := by
  subst hk
  simp [execOp, hx, hy, eqGuard, binOp]
  rfl
theorem exec_add3 {a : Act} {x y : Operand} {m n k : Int} {w : World} {d : Option Tmp} {ty : Nat} {pos : String} {af : Array Edge} {g : Option (Nat × Bool)} (hx : a.eval x = .int .i64 m) (hy : a.eval y = .int .i64 n) (hk : IntKind.i64.wrap (m + n) = k) :
    (execOp a.eval ⟨d, .binOp .add 3 x y 3, ty, pos, af, g⟩).run Tryd.prog w = .ok (.value (.int .i64 k)) w := by
  subst hk
  simp [execOp, hx, hy, eqGuard, binOp]
  rfl
set_option maxRecDepth 100000 in
theorem exec_slice9 {a : Act} {x y z : Operand} {s : ByteArray} {m n : Nat} {w : World} {d : Option Tmp} {ty : Nat} {pos : String} {af : Array Edge} {g : Option (Nat × Bool)} (hx : a.eval x = .string s) (hy : a.eval y = .int .i64 m) (hz : a.eval z = .int .i64 n) (h1 : m ≤ n) (h2 : n ≤ s.size) (h3 : s.size ≤ 100000) :
    (execOp a.eval ⟨d, .slice 9 x (some y) (some z) none, ty, pos, af, g⟩).run Tryd.prog w = .ok (.value (.string (s.extract m n))) w := by
  have e : (Instr.slice 9 (.string s) (some (.int .i64 m)) (some (.int .i64 n)) none).run Tryd.prog w = .ok (.string (s.extract m n)) w := by
    have a1 : (m : Int) ≤ n := by omega
    have a2 : (n : Int) ≤ s.size := by omega
    have u := Tryd.underlying9
    simp [go_sem, u, a1, a2]
  simp only [execOp, Option.map, hx, hy, hz]
  exact exec_v (P := Tryd.prog) e

/-- A string of one's own is written anew. -/
theorem so_set {w : World} {B g n c : Nat} {l : List (List UInt8)} (h : SO w B (.slice (some ⟨g, 0, none⟩) n c) l) (hn : l.length = n) (k : Nat) (hk : k < l.length) (x : List UInt8) :
    w.cell? ⟨g, k, none⟩ = some (.string (str l[k])) ∧ w.frozen? ⟨g, k, none⟩ = false ∧ SO (w.setCell ⟨g, k, none⟩ (.string (str x))) B (.slice (some ⟨g, 0, none⟩) n c) (l.set k x) ∧ B ≤ g := by
  have hcell := World.ownsRow.cells h rfl k (.string (str l[k])) (by simp [sc, hk])
  rw [Addr.add_mid, Nat.zero_add] at hcell
  rcases id h.2 with ⟨e, _⟩ | ⟨g', cap, cur, e, hB, hg, h1, h2, h3, h4⟩
  · cases e
  · cases e
    refine ⟨hcell, by simp [World.frozen?, hg], ⟨by simp [sc], .inr ⟨g, c, cur.setIfInBounds k (.string (str x)), by rw [List.length_set], hB, ?_, by rw [List.length_set]; exact h1, h2, by rw [Array.size_setIfInBounds]; exact h3, ?_⟩⟩, hB⟩
    · rw [heap_setCell_same _ _ _ _ _ _ hg]
    · rw [List.length_set, Array.toList_setIfInBounds, Nat.mul_one] at *
      rw [List.take_set, h4]
      unfold sc
      rw [List.map_set]
theorem exec_append {a : Act} {x y : Operand} {u s : Value} {w w' : World} {v : Value} {d : Option Tmp} {t t2 ty : Nat} {pos : String} {af : Array Edge} {g : Option (Nat × Bool)} (hx : a.eval x = u) (hy : a.eval y = s)
    (h : (Builtin.append_ #[t, t2] ty #[u, s]).run Tryd.prog w = .ok v w') : (execOp a.eval ⟨d, .call { callee := .builtin .append, args := #[x, y], argTypes := #[t, t2] }, ty, pos, af, g⟩).run Tryd.prog w = .ok (.value v) w' := by
  simp only [execOp, resolve, invoke, builtin, Sem.run_bind, Sem.run_pure, Result.andThen_ok, List.map_toArray, List.map_cons, List.map_nil, hx, hy, h]
theorem wpList_append_run {ops : Array Oper} {rest : List Oper} {Q : Exit → Act → World → Prop} {a : Act} {x y : Operand} {u s : Value} {w w' : World} {v : Value} {d : Option Tmp} {t t2 ty : Nat} {pos : String} {af : Array Edge} (hx : a.eval x = u) (hy : a.eval y = s)
    (hrun : (Builtin.append_ #[t, t2] ty #[u, s]).run Tryd.prog w = .ok v w') (h : wpList Tryd.prog ops Q rest (a.put d v) w') : wpList Tryd.prog ops Q (⟨d, .call { callee := .builtin .append, args := #[x, y], argTypes := #[t, t2] }, ty, pos, af, none⟩ :: rest) a w := by
  refine wpList_plain rfl fun K hK => ?_
  unfold Oper.wp
  rw [exec_append hx hy hrun]
  exact hK _ _ h

theorem last_at {L : List (List UInt8)} {n : Nat} (hn : L.length = n) (h : 1 ≤ n) (hk : n - 1 < L.length) (x : List UInt8) : L.set (n - 1) x = L.dropLast ++ [x] ∧ L[n - 1] = L.getLastD [] := by
  subst hn
  constructor
  · rw [List.set_eq_take_append_cons_drop, if_pos hk, List.dropLast_eq_take, List.drop_eq_nil_of_le (by omega)]
  · rw [List.getLastD_eq_getLast?, List.getLast?_eq_getElem?, List.getElem?_eq_getElem hk]
    rfl
theorem SO.some {w : World} {B : Nat} {v : Value} {l : List (List UInt8)} (h : SO w B v l) (hne : l ≠ []) : ∃ g n c, v = .slice (some ⟨g, 0, none⟩) n c ∧ l.length = n := by
  rcases h.2 with ⟨_, h0⟩ | ⟨g, cap, cur, e, _⟩
  · exact absurd (List.eq_nil_of_length_eq_zero h0) hne
  · exact ⟨g, _, cap, e, rfl⟩

theorem blank_of {c : UInt8} {k : Nat} (hk : k < 256) : ((c.toNat : Int) == (k : Int)) = (c == UInt8.ofNat k) := by
  rw [u8_int c k hk]
  rfl
set_option maxRecDepth 100000 in
set_option maxHeartbeats 1000000 in
theorem rblank_any (c : UInt8) (w : World) : Calls Tryd.prog 70 #[.int .u8 c.toNat] w fun e w' => e = .returned (.bool (blankB c)) ∧ w' = w := by
  have HV : Hid (blankB c = (c == 32 || c == 9 || c == 13 || c == 10)) := rfl
  have e9 : ((c.toNat : Int) == 9) = (c == 9) := blank_of (k := 9) (by omega)
  have e10 : ((c.toNat : Int) == 10) = (c == 10) := blank_of (k := 10) (by omega)
  have e13 : ((c.toNat : Int) == 13) = (c == 13) := blank_of (k := 13) (by omega)
  have e32 : ((c.toNat : Int) == 32) = (c == 32) := blank_of (k := 32) (by omega)
  rcases Bool.eq_false_or_eq_true (c == 9) with h | h <;> rw [h] at e9 HV <;>
  rcases Bool.eq_false_or_eq_true (c == 10) with h' | h' <;> rw [h'] at e10 HV <;>
  rcases Bool.eq_false_or_eq_true (c == 13) with h2 | h2 <;> rw [h2] at e13 HV <;>
  rcases Bool.eq_false_or_eq_true (c == 32) with h3 | h3 <;> rw [h3] at e32 HV <;> clear h h' h2 h3
  all_goals
    go_enter Tryd.func70, Tryd.ntmps70
    go_wp2_with fail
    go_ret
    rw [HV.out]
    exact ⟨rfl, rfl⟩
end Go.Proofs.YtnjdgbbdjkhpoaaDoor
