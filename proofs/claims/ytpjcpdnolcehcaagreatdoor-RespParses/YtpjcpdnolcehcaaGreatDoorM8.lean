/- What this text holds: values that are made; a value laid into a block. -/
import Derived.Test.YtpjcpdnolcehcaaGreatDoorM7
namespace Go.Proofs.YtpjcpdnolcehcaaGreatDoor
open Go.RowKit
set_option linter.unusedVariables false
set_option linter.unusedSimpArgs false

/-- A value lies in a block. -/
def V5 (w : World) (A : Nat) (r : Rw) : Prop := w.heap[A]? = some (.cells r.c.toArray 43 (0, 0))
theorem V5.cs {w : World} {A : Nat} {r : Rw} (h : V5 w A r) : w.cell? ⟨A, 0, none⟩ = some (.int .i64 r.k) ∧ w.cell? ⟨A, 1, none⟩ = some (.string (str r.x)) ∧ w.cell? ⟨A, 2, none⟩ = some (.int .i64 r.n) ∧ w.cell? ⟨A, 3, none⟩ = some (Sl.v r.kids) ∧ w.cell? ⟨A, 4, none⟩ = some (Sl.v r.frm) := by
  simp [World.cell?, show w.heap[A]? = _ from h, Rw.c]
theorem V5.fz {w : World} {A : Nat} {r : Rw} (h : V5 w A r) (j : Nat) : w.frozen? ⟨A, j, none⟩ = false := by simp [World.frozen?, show w.heap[A]? = _ from h]
theorem V5.lt {w : World} {A : Nat} {r : Rw} (h : V5 w A r) : A < w.heap.size := lt_of_some h
theorem V5.kept {w w' : World} {A : Nat} {r : Rw} {S : List Nat} (h : V5 w A r) (hk : Kept S w w') (hA : A ∉ S) : V5 w' A r := (hk.block A (lt_of_some h) hA).trans h
def zR : Rw := ⟨0, [], 0, (none, 0, 0), (none, 0, 0)⟩
theorem V5.new (w : World) (r : Rw) : V5 (w.alloc (.cells r.c.toArray 43)) w.heap.size r := heap_alloc_new _ _
theorem resV {f : Func} {k A : Nat} {r : Rw} {w : World} {tmps : Array Value} (hf : f.results = #[.cell k 43]) (ht : tmps[k]? = some (.pointer (some ⟨A, 0, none⟩))) (hA : V5 w A r) : (results f tmps).run Tryz.prog w = .ok (vV r) w := by
  obtain ⟨x0, x1, x2, x3, x4⟩ := hA.cs
  simp [results, hf, go_sem, ht, x0, x1, x2, x3, x4, vV, Rw.c]
def row5 (w : World) (A : Nat) (r : Rw) : World := w.setRow A r.c.toArray
theorem row5_is {w : World} {A : Nat} {r' : Rw} (h : V5 w A r') (r : Rw) : V5 (row5 w A r) A r := setRow_heap w A _ _ 43 _ h
theorem row5_self (w : World) (A : Nat) (r : Rw) : Kept [A] w (row5 w A r) := ⟨rfl, rfl, rfl, by simp [row5], fun k _ hk => setRow_other w A k _ (fun e => hk (by simp [e]))⟩
theorem exec_store43 {a : Act} {x y : Operand} {A : Nat} {r r' : Rw} {w : World} {ds : Option Tmp} {ty : Nat} {pos : String} {af : Array Edge} {gd : Option (Nat × Bool)}
    (hx : a.eval x = .pointer (some ⟨A, 0, none⟩)) (hy : a.eval y = vV r) (hA : V5 w A r') :
    (execOp a.eval ⟨ds, .store 43 x y, ty, pos, af, gd⟩).run Tryz.prog w = .ok .skip (row5 w A r) := by
  have h := run_storeVar_row (P := Tryz.prog) w A 43 43 _ r.c.toArray hA (by kernel_rfl) rfl (by simp [Rw.c, Value.oneCell', Sl.v])
  simp [execOp, hx, hy, Instr.storeAt, Instr.sureAddr, vV, h, row5]
theorem wpList_store43 {ops : Array Oper} {rest : List Oper} {Q : Exit → Act → World → Prop} {a : Act} {x y : Operand} {A : Nat} {r r' : Rw} {w : World} {ty : Nat} {pos : String} {af : Array Edge}
    (hx : a.eval x = .pointer (some ⟨A, 0, none⟩)) (hy : a.eval y = vV r) (hA : V5 w A r')
    (h : wpList Tryz.prog ops Q rest a (row5 w A r)) : wpList Tryz.prog ops Q (⟨none, .store 43 x y, ty, pos, af, none⟩ :: rest) a w := by
  refine wpList_plain rfl fun K hK => ?_
  unfold Oper.wp
  rw [exec_store43 hx hy hA]
  exact hK _ _ h
set_option maxRecDepth 100000 in
theorem nilv_any (w : World) : Calls Tryz.prog 23 #[] w fun e w' => e = .returned (vV ⟨0, [], 0, (none, 0, 0), (none, 0, 0)⟩) ∧ Below w.heap.size w w' := by
  go_enter Tryz.func23, Tryz.ntmps23
  go_wp2_with fail
  exact bodyPost_ret (resV rfl rfl (V5.new w ⟨0, [], 0, (none, 0, 0), (none, 0, 0)⟩)) rfl ⟨rfl, (Below.refl _ _).alloc (Nat.le_refl _) _⟩
set_option maxRecDepth 100000 in
theorem numv_any (n : Int) (w : World) : Calls Tryz.prog 24 #[.int .i64 n] w fun e w' => e = .returned (vV ⟨1, [], n, (none, 0, 0), (none, 0, 0)⟩) ∧ Below w.heap.size w w' := by
  go_enter Tryz.func24, Tryz.ntmps24
  go_wp2_with fail
  exact bodyPost_ret (resV rfl rfl (V5.new w ⟨1, [], n, (none, 0, 0), (none, 0, 0)⟩)) rfl ⟨rfl, (Below.refl _ _).alloc (Nat.le_refl _) _⟩
set_option maxRecDepth 100000 in
theorem atomv_any (s : Bs) (w : World) : Calls Tryz.prog 25 #[.string (str s)] w fun e w' => e = .returned (vV ⟨2, s, 0, (none, 0, 0), (none, 0, 0)⟩) ∧ Below w.heap.size w w' := by
  go_enter Tryz.func25, Tryz.ntmps25
  go_wp2_with fail
  exact bodyPost_ret (resV rfl rfl (V5.new w ⟨2, s, 0, (none, 0, 0), (none, 0, 0)⟩)) rfl ⟨rfl, (Below.refl _ _).alloc (Nat.le_refl _) _⟩
set_option maxRecDepth 100000 in
theorem textv_any (s : Bs) (w : World) : Calls Tryz.prog 26 #[.string (str s)] w fun e w' => e = .returned (vV ⟨3, s, 0, (none, 0, 0), (none, 0, 0)⟩) ∧ Below w.heap.size w w' := by
  go_enter Tryz.func26, Tryz.ntmps26
  go_wp2_with fail
  exact bodyPost_ret (resV rfl rfl (V5.new w ⟨3, s, 0, (none, 0, 0), (none, 0, 0)⟩)) rfl ⟨rfl, (Below.refl _ _).alloc (Nat.le_refl _) _⟩
end Go.Proofs.YtpjcpdnolcehcaaGreatDoor
