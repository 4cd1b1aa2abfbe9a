/- What this text holds: operations of regions that are walked by hand, by their runs. -/
import Derived.Test.YtgolcmafbenjbaaGreatDoorN12
namespace Go.Proofs.YtgolcmafbenjbaaGreatDoor
open Go.RowKit
set_option linter.unusedVariables false
set_option linter.unusedSimpArgs false

theorem fieldk62 (r k : Nat) (w : World) (hk : k < 2) : (Instr.fieldAt 62 (.pointer (some ⟨r, 0, none⟩)) k).run Tryz.prog w = .ok (.pointer (some ⟨r, k, none⟩)) w := by
  rcases (by omega : k = 0 ∨ k = 1) with rfl | rfl <;> kernel_rfl
theorem loadk3 {b k : Nat} {v : Value} {w : World} (h : w.cell? ⟨b, k, none⟩ = some v) : (Instr.loadAt 3 (.pointer (some ⟨b, k, none⟩))).run Tryz.prog w = .ok v w := by
  simp [Instr.loadAt, Instr.sureAddr, loadVar, isAgg, run_underlying Tryz.underlying3, h]
theorem loadk9 {b k : Nat} {v : Value} {w : World} (h : w.cell? ⟨b, k, none⟩ = some v) : (Instr.loadAt 9 (.pointer (some ⟨b, k, none⟩))).run Tryz.prog w = .ok v w := by
  simp [Instr.loadAt, Instr.sureAddr, loadVar, isAgg, run_underlying Tryz.underlying9, h]
theorem exec_add3 {a : Act} {x y : Operand} {m n k : Int} {w : World} {d : Option Tmp} {ty : Nat} {pos : String} {af : Array Edge} {g : Option (Nat × Bool)} (hx : a.eval x = .int .i64 m) (hy : a.eval y = .int .i64 n) (hk : IntKind.i64.wrap (m + n) = k) :
    (execOp a.eval ⟨d, .binOp .add 3 x y 3, ty, pos, af, g⟩).run Tryz.prog w = .ok (.value (.int .i64 k)) w := by
  subst hk
  simp [execOp, hx, hy, eqGuard, binOp]
  rfl
theorem exec_lenS {a : Act} {x : Operand} {s : ByteArray} {n : Nat} {w : World} {d : Option Tmp} {ty : Nat} {pos : String} {af : Array Edge} {g : Option (Nat × Bool)} (hx : a.eval x = .string s) (hn : s.size = n) :
    (execOp a.eval ⟨d, .call { callee := .builtin .len, args := #[x], argTypes := #[9] }, ty, pos, af, g⟩).run Tryz.prog w = .ok (.value (.int .i64 n)) w := by
  subst hn
  simp only [execOp, resolve, invoke, builtin, Sem.run_bind, Sem.run_pure, Result.andThen_ok, List.map_toArray, List.map_cons, List.map_nil, hx]
  simp [Builtin.len_, run_underlying Tryz.underlying9]
  rfl
theorem exec_alloc33 {a : Act} (w : World) {d : Option Tmp} {ty : Nat} {pos : String} {af : Array Edge} {gd : Option (Nat × Bool)} : (execOp a.eval ⟨d, .alloc 33, ty, pos, af, gd⟩).run Tryz.prog w = .ok (.value (.pointer (some ⟨w.heap.size, 0, none⟩))) (w.alloc (.cells #[.string ⟨#[]⟩, .string ⟨#[]⟩, .slice none 0 0, .slice none 0 0, .slice none 0 0, .string ⟨#[]⟩, .int .i64 0, .int .i64 0, .int .i64 0, .int .i64 0, .slice none 0 0] 33)) := by kernel_rfl
/-- A part laid into a block as a whole. -/
def row11 (w : World) (A : Nat) (d : Pd) (vp vi vd vk : Value) : World := w.setRow A (ptC d vp vi vd vk)
theorem row11_is {w : World} {A : Nat} {d' : Pd} {vp' vi' vd' vk' : Value} (h : D11 w A d' vp' vi' vd' vk') (d : Pd) (vp vi vd vk : Value) : D11 (row11 w A d vp vi vd vk) A d vp vi vd vk := setRow_heap w A _ _ 33 _ h
theorem row11_self (w : World) (A : Nat) (d : Pd) (vp vi vd vk : Value) : Kept [A] w (row11 w A d vp vi vd vk) := ⟨rfl, rfl, rfl, by simp [row11], fun k _ hk => setRow_other w A k _ (fun e => hk (by simp [e]))⟩
theorem row11_below {w w' : World} {B : Nat} (A : Nat) (d : Pd) (vp vi vd vk : Value) (h : Below B w w') (hA : B ≤ A) (hB : B ≤ w'.heap.size) : Below B w (row11 w' A d vp vi vd vk) := below_kept h (row11_self w' A d vp vi vd vk) (by simp; exact hA) hB
theorem exec_store33 {a : Act} {x y : Operand} {A : Nat} {d d' : Pd} {vp' vi' vd' vk' : Value} {pa ia da ka : Option Addr} {pn pc n1 c1 n2 c2 kn kc : Nat} {w : World} {ds : Option Tmp} {ty : Nat} {pos : String} {af : Array Edge} {gd : Option (Nat × Bool)}
    (hx : a.eval x = .pointer (some ⟨A, 0, none⟩)) (hy : a.eval y = ptV d (.slice pa pn pc) (.slice ia n1 c1) (.slice da n2 c2) (.slice ka kn kc)) (hA : D11 w A d' vp' vi' vd' vk') :
    (execOp a.eval ⟨ds, .store 33 x y, ty, pos, af, gd⟩).run Tryz.prog w = .ok .skip (row11 w A d (.slice pa pn pc) (.slice ia n1 c1) (.slice da n2 c2) (.slice ka kn kc)) := by
  have h := run_storeVar_row (P := Tryz.prog) w A 33 33 _ (ptC d (.slice pa pn pc) (.slice ia n1 c1) (.slice da n2 c2) (.slice ka kn kc)) hA (by kernel_rfl) rfl (by simp [ptC, Value.oneCell'])
  simp [execOp, hx, hy, Instr.storeAt, Instr.sureAddr, ptV, h, row11]
theorem exec_build33 {a : Act} {x3 x4 x6 x7 x8 x9 : Operand} {ia da : Option Addr} {n1 c1 n2 c2 : Nat} {i6 i7 i8 i9 : Int} {w : World} {ds : Option Tmp} {ty : Nat} {pos : String} {af : Array Edge} {gd : Option (Nat × Bool)}
    (h3 : a.eval x3 = .slice ia n1 c1) (h4 : a.eval x4 = .slice da n2 c2) (h6 : a.eval x6 = .int .i64 i6) (h7 : a.eval x7 = .int .i64 i7) (h8 : a.eval x8 = .int .i64 i8) (h9 : a.eval x9 = .int .i64 i9) :
    (execOp a.eval ⟨ds, .build 33 #[(3, x3), (4, x4), (5, .const (.string ⟨#[55, 98, 105, 116]⟩)), (6, x6), (7, x7), (8, x8), (9, x9)], ty, pos, af, gd⟩).run Tryz.prog w = .ok (.value (.agg #[.string ⟨#[]⟩, .string ⟨#[]⟩, .slice none 0 0, .slice ia n1 c1, .slice da n2 c2, .string ⟨#[55, 98, 105, 116]⟩, .int .i64 i6, .int .i64 i7, .int .i64 i8, .int .i64 i9, .slice none 0 0])) w := by
  have h5 : a.eval (.const (.string ⟨#[55, 98, 105, 116]⟩)) = .string ⟨#[55, 98, 105, 116]⟩ := rfl
  simp only [execOp, List.map_toArray, List.map_cons, List.map_nil, h3, h4, h5, h6, h7, h8, h9]
  exact exec_v (by kernel_rfl)
theorem wpList_store33 {ops : Array Oper} {rest : List Oper} {Q : Exit → Act → World → Prop} {a : Act} {x y : Operand} {A : Nat} {d d' : Pd} {vp' vi' vd' vk' : Value} {pa ia da ka : Option Addr} {pn pc n1 c1 n2 c2 kn kc : Nat} {w : World} {ty : Nat} {pos : String} {af : Array Edge}
    (hx : a.eval x = .pointer (some ⟨A, 0, none⟩)) (hy : a.eval y = ptV d (.slice pa pn pc) (.slice ia n1 c1) (.slice da n2 c2) (.slice ka kn kc)) (hA : D11 w A d' vp' vi' vd' vk')
    (h : wpList Tryz.prog ops Q rest a (row11 w A d (.slice pa pn pc) (.slice ia n1 c1) (.slice da n2 c2) (.slice ka kn kc))) : wpList Tryz.prog ops Q (⟨none, .store 33 x y, ty, pos, af, none⟩ :: rest) a w := by
  refine wpList_plain rfl fun K hK => ?_
  unfold Oper.wp
  rw [exec_store33 hx hy hA]
  exact hK _ _ h
end Go.Proofs.YtgolcmafbenjbaaGreatDoor
