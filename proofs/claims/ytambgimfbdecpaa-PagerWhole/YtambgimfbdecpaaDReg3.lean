/- What this text holds: more small moves for a region that leaves its order open, for operations that stand behind a guard, and for calls. -/
import Derived.Test.YtambgimfbdecpaaDPlain
namespace Go.Proofs.Ytambgimfbdecpaa
open Go.RowKit
set_option linter.unusedVariables false

section
variable {P : Program} {ops : Array Oper} {Q : Exit → Act → World → Prop} {md : Region.Mode} {S : World → Prop}

theorem anyH_takeW (i : Nat) (o : Oper) (v : Value) {fuel : Nat} {listed : Array Bool} {a : Act} {w : World} (hi : ops[i]? = some o) (hw : Region.wanted o (yielded ops a.tmps) = true)
    (hs : Region.noSelect ops = true) (hf : Region.free md ops listed i = true) (hr : (Region.ready md ops listed).contains i = true)
    (hQ : ∀ c a w, Q (.panic c) (a.put o.dst v) w → Q (.panic c) a w) (hrun : ∀ w, S w → (execOp a.eval o).run P w = .ok (.value v) w) (hS : S w)
    (h : wpAnyH P md ops Q S fuel (listed.setIfInBounds i true) (a.put o.dst v) w) : wpAnyH P md ops Q S (fuel + 1) listed a w :=
  wpAnyH_take hi hs hf hr hQ (.inl ⟨hw, hrun⟩) hS h

theorem wpOp_runW {i : Nat} {o : Oper} {K : Act → World → Prop} {a : Act} {w w' : World} {v : Value} (ho : ops[i]? = some o) (hw : Region.wanted o (yielded ops a.tmps) = true) (hrun : (execOp a.eval o).run P w = .ok (.value v) w')
    (h : K (a.put o.dst v) w') : wpOp P ops Q i K a w := by
  refine wpOp_step ho fun K' hK => ?_
  rw [if_pos hw]
  unfold Oper.wp
  rw [hrun]
  exact hK _ _ h
theorem wpOp_callW {i : Nat} {o : Oper} {K : Act → World → Prop} {a : Act} {w : World} {f : FuncId} {args : Array Value} (ho : ops[i]? = some o) (hw : Region.wanted o (yielded ops a.tmps) = true) (hrun : (execOp a.eval o).run P w = .ok (.enter f args) w)
    (h : Calls P f args w fun e w' => ∃ v, e = .returned v ∧ K (a.put o.dst v) w') : wpOp P ops Q i K a w := by
  refine wpOp_step ho fun K' hK => ?_
  rw [if_pos hw]
  unfold Oper.wp
  rw [hrun]
  refine Calls.mono h fun e w' he => ?_
  obtain ⟨v, rfl, hv⟩ := he
  exact hK _ _ hv

theorem anyH_oneW (i : Nat) (o : Oper) (v : Value) (w' : World) {fuel : Nat} {listed : Array Bool} {a : Act} {w : World} (hr : Region.ready md ops listed = [i]) (hi : ops[i]? = some o) (hw : Region.wanted o (yielded ops a.tmps) = true)
    (hrun : (execOp a.eval o).run P w = .ok (.value v) w') (hS : S w')
    (h : wpAnyH P md ops Q S fuel (listed.setIfInBounds i true) (a.put o.dst v) w') : wpAnyH P md ops Q S (fuel + 1) listed a w := by
  refine wpAnyH_all hr (by simp) fun j hj => ?_
  obtain rfl := List.mem_singleton.1 hj
  exact wpOp_runW hi hw hrun ⟨hS, h⟩

theorem anyH_callW (i : Nat) (o : Oper) (f : FuncId) (args : Array Value) {fuel : Nat} {listed : Array Bool} {a : Act} {w : World} (hr : Region.ready md ops listed = [i]) (hi : ops[i]? = some o) (hw : Region.wanted o (yielded ops a.tmps) = true)
    (hrun : (execOp a.eval o).run P w = .ok (.enter f args) w)
    (h : Calls P f args w fun e w' => ∃ v, e = .returned v ∧ S w' ∧ wpAnyH P md ops Q S fuel (listed.setIfInBounds i true) (a.put o.dst v) w') : wpAnyH P md ops Q S (fuel + 1) listed a w := by
  refine wpAnyH_all hr (by simp) fun j hj => ?_
  obtain rfl := List.mem_singleton.1 hj
  exact wpOp_callW hi hw hrun h
end

theorem exec_eqlStr {a : Act} {x y : Operand} {s t : ByteArray} {w : World} {d : Option Tmp} {T ty T2 : Nat} {pos : String} {af : Array Edge} {g : Option (Nat × Bool)} (hx : a.eval x = .string s) (hy : a.eval y = .string t) (h : s = t) :
    (execOp a.eval ⟨d, .binOp .eql T x y T2, ty, pos, af, g⟩).run Try.prog w = .ok (.value (.bool true)) w := by
  subst h
  simp [execOp, hx, hy, eqGuard, binOp, Op.stringOp]
theorem exec_addStr {a : Act} {x y : Operand} {s t : ByteArray} {w : World} {d : Option Tmp} {T ty T2 : Nat} {pos : String} {af : Array Edge} {g : Option (Nat × Bool)} (hx : a.eval x = .string s) (hy : a.eval y = .string t) (hl : s.size + t.size ≤ 1000000) :
    (execOp a.eval ⟨d, .binOp .add T x y T2, ty, pos, af, g⟩).run Try.prog w = .ok (.value (.string (s ++ t))) w := by
  simp [execOp, hx, hy, eqGuard, binOp, Op.stringOp]
  omega
theorem slice40 (b : Nat) (w : World) : (Instr.sliceAt 46 (.slice (some ⟨b, 0, none⟩) 512 512) (some (.int .i64 3)) none none).run Try.prog w = .ok (.slice (some ⟨b, 3, none⟩) 509 509) w := by kernel_rfl
theorem exec_call11 {a : Act} {x : Operand} {v : Value} {w : World} {d : Option Tmp} {ty : Nat} {ts : Array Nat} {pos : String} {af : Array Edge} {g : Option (Nat × Bool)} (hx : a.eval x = v) :
    (execOp a.eval ⟨d, .call { callee := .value (.func 11), args := #[x], argTypes := ts }, ty, pos, af, g⟩).run Try.prog w = .ok (.enter 11 #[v]) w := by
  simp only [execOp, resolve, List.map_toArray, List.map_cons, List.map_nil, hx]
  kernel_rfl
theorem exec_call23 {a : Act} {x : Operand} {v : Value} {w : World} {d : Option Tmp} {ty : Nat} {ts : Array Nat} {pos : String} {af : Array Edge} {g : Option (Nat × Bool)} (hx : a.eval x = v) :
    (execOp a.eval ⟨d, .call { callee := .value (.func 92), args := #[x], argTypes := ts }, ty, pos, af, g⟩).run Try.prog w = .ok (.enter 92 #[v]) w := by
  simp only [execOp, resolve, List.map_toArray, List.map_cons, List.map_nil, hx]
  kernel_rfl
end Go.Proofs.Ytambgimfbdecpaa
