/- What this text holds: Join, of the program. -/
import Derived.Test.YtkipigbfbhecjaaN35
import Derived.Test.YtkipigbfbhecjaaN16
namespace Go.Proofs.Ytkipigbfbhecjaa
open Go.RowKit
set_option linter.unusedVariables false
set_option linter.unusedSimpArgs false

theorem bs99_2 (a0 : Option Addr) (n0 c0 : Nat) (a1 : Option Addr) (n1 c1 : Nat) (w : World) : (Instr.buildSlice 99 2 #[(0, .slice a0 n0 c0), (1, .slice a1 n1 c1)]).run Try.prog w = .ok (.slice (some ⟨w.heap.size, 0, none⟩) 2 2) (w.alloc (.cells #[.slice a0 n0 c0, .slice a1 n1 c1] 22)) := by kernel_rfl
theorem bs99_3 (a0 : Option Addr) (n0 c0 : Nat) (a1 : Option Addr) (n1 c1 : Nat) (a2 : Option Addr) (n2 c2 : Nat) (w : World) : (Instr.buildSlice 99 3 #[(0, .slice a0 n0 c0), (1, .slice a1 n1 c1), (2, .slice a2 n2 c2)]).run Try.prog w = .ok (.slice (some ⟨w.heap.size, 0, none⟩) 3 3) (w.alloc (.cells #[.slice a0 n0 c0, .slice a1 n1 c1, .slice a2 n2 c2] 22)) := by kernel_rfl
theorem bs101_2 (a0 : Option Addr) (n0 c0 : Nat) (a1 : Option Addr) (n1 c1 : Nat) (w : World) : (Instr.buildSlice 101 2 #[(0, .slice a0 n0 c0), (1, .slice a1 n1 c1)]).run Try.prog w = .ok (.slice (some ⟨w.heap.size, 0, none⟩) 2 2) (w.alloc (.cells #[.slice a0 n0 c0, .slice a1 n1 c1] 23)) := by kernel_rfl
theorem bs103_2 (a0 : Option Addr) (n0 c0 : Nat) (a1 : Option Addr) (n1 c1 : Nat) (w : World) : (Instr.buildSlice 103 2 #[(0, .slice a0 n0 c0), (1, .slice a1 n1 c1)]).run Try.prog w = .ok (.slice (some ⟨w.heap.size, 0, none⟩) 2 2) (w.alloc (.cells #[.slice a0 n0 c0, .slice a1 n1 c1] 24)) := by kernel_rfl
theorem bs22_1 (x : ByteArray) (w : World) : (Instr.buildSlice 22 1 #[(0, .string x)]).run Try.prog w = .ok (.slice (some ⟨w.heap.size, 0, none⟩) 1 1) (w.alloc (.cells #[.string x] 9)) := by kernel_rfl
theorem exec_lay1 {a : Act} {x0 : Operand} {X0 : Value} {w w' : World} {v : Value} {d : Option Tmp} {t n ty : Nat} {pos : String} {af : Array Edge} {g : Option (Nat × Bool)} (h0 : a.eval x0 = X0)
    (h : (Instr.buildSlice t n #[(0, X0)]).run Try.prog w = .ok v w') : (execOp a.eval ⟨d, .buildSlice t n #[(0, x0)], ty, pos, af, g⟩).run Try.prog w = .ok (.value v) w' := by
  simp only [execOp, List.map_toArray, List.map_cons, List.map_nil, h0]
  exact exec_v h
theorem exec_lay2 {a : Act} {x0 : Operand} {X0 : Value} {x1 : Operand} {X1 : Value} {w w' : World} {v : Value} {d : Option Tmp} {t n ty : Nat} {pos : String} {af : Array Edge} {g : Option (Nat × Bool)} (h0 : a.eval x0 = X0) (h1 : a.eval x1 = X1)
    (h : (Instr.buildSlice t n #[(0, X0), (1, X1)]).run Try.prog w = .ok v w') : (execOp a.eval ⟨d, .buildSlice t n #[(0, x0), (1, x1)], ty, pos, af, g⟩).run Try.prog w = .ok (.value v) w' := by
  simp only [execOp, List.map_toArray, List.map_cons, List.map_nil, h0, h1]
  exact exec_v h
theorem exec_lay3 {a : Act} {x0 : Operand} {X0 : Value} {x1 : Operand} {X1 : Value} {x2 : Operand} {X2 : Value} {w w' : World} {v : Value} {d : Option Tmp} {t n ty : Nat} {pos : String} {af : Array Edge} {g : Option (Nat × Bool)} (h0 : a.eval x0 = X0) (h1 : a.eval x1 = X1) (h2 : a.eval x2 = X2)
    (h : (Instr.buildSlice t n #[(0, X0), (1, X1), (2, X2)]).run Try.prog w = .ok v w') : (execOp a.eval ⟨d, .buildSlice t n #[(0, x0), (1, x1), (2, x2)], ty, pos, af, g⟩).run Try.prog w = .ok (.value v) w' := by
  simp only [execOp, List.map_toArray, List.map_cons, List.map_nil, h0, h1, h2]
  exact exec_v h
theorem exec_call48 {a : Act} {x : Operand} {X : Value} {w : World} {d : Option Tmp} {ty : Nat} {ts : Array Nat} {pos : String} {af : Array Edge} {g : Option (Nat × Bool)} (hx : a.eval x = X) :
    (execOp a.eval ⟨d, .call { callee := .value (.func 48), args := #[x], argTypes := ts }, ty, pos, af, g⟩).run Try.prog w = .ok (.enter 48 #[X]) w := by
  simp only [execOp, resolve, List.map_toArray, List.map_cons, List.map_nil, hx]
  kernel_rfl
theorem exec_call49 {a : Act} {x : Operand} {X : Value} {w : World} {d : Option Tmp} {ty : Nat} {ts : Array Nat} {pos : String} {af : Array Edge} {g : Option (Nat × Bool)} (hx : a.eval x = X) :
    (execOp a.eval ⟨d, .call { callee := .value (.func 49), args := #[x], argTypes := ts }, ty, pos, af, g⟩).run Try.prog w = .ok (.enter 49 #[X]) w := by
  simp only [execOp, resolve, List.map_toArray, List.map_cons, List.map_nil, hx]
  kernel_rfl
theorem exec_call50 {a : Act} {x : Operand} {X : Value} {w : World} {d : Option Tmp} {ty : Nat} {ts : Array Nat} {pos : String} {af : Array Edge} {g : Option (Nat × Bool)} (hx : a.eval x = X) :
    (execOp a.eval ⟨d, .call { callee := .value (.func 50), args := #[x], argTypes := ts }, ty, pos, af, g⟩).run Try.prog w = .ok (.enter 50 #[X]) w := by
  simp only [execOp, resolve, List.map_toArray, List.map_cons, List.map_nil, hx]
  kernel_rfl
theorem exec_mv {a : Act} {x : Operand} {X : Value} {w : World} {d : Option Tmp} {ty : Nat} {pos : String} {af : Array Edge} {g : Option (Nat × Bool)} (hx : a.eval x = X) :
    (execOp a.eval ⟨d, .move x, ty, pos, af, g⟩).run Try.prog w = .ok (.value X) w := by
  simp only [execOp, hx]
  rfl
theorem build26a (a1 a2 : Option Addr) (n1 n2 c1 c2 : Nat) (w : World) : (Instr.build 26 #[(0, .bool true), (1, .slice a1 n1 c1), (2, .slice a2 n2 c2)]).run Try.prog w = .ok (.agg #[.bool true, .slice a1 n1 c1, .slice a2 n2 c2, .slice none 0 0]) w := by kernel_rfl
theorem build26b (a1 a2 : Option Addr) (n1 n2 c1 c2 : Nat) (w : World) : (Instr.build 26 #[(1, .slice a1 n1 c1), (3, .slice a2 n2 c2)]).run Try.prog w = .ok (.agg #[.bool false, .slice a1 n1 c1, .slice none 0 0, .slice a2 n2 c2]) w := by kernel_rfl
theorem exec_build26a {a : Act} {x y : Operand} {X Y v : Value} {w w' : World} {d : Option Tmp} {ty : Nat} {pos : String} {af : Array Edge} {g : Option (Nat × Bool)} (hx : a.eval x = X) (hy : a.eval y = Y)
    (h : (Instr.build 26 #[(0, .bool true), (1, X), (2, Y)]).run Try.prog w = .ok v w') : (execOp a.eval ⟨d, .build 26 #[(0, .const (.bool true)), (1, x), (2, y)], ty, pos, af, g⟩).run Try.prog w = .ok (.value v) w' := by
  simp only [execOp, List.map_toArray, List.map_cons, List.map_nil, hx, hy]
  exact exec_v h
theorem exec_build26b {a : Act} {x y : Operand} {X Y v : Value} {w w' : World} {d : Option Tmp} {ty : Nat} {pos : String} {af : Array Edge} {g : Option (Nat × Bool)} (hx : a.eval x = X) (hy : a.eval y = Y)
    (h : (Instr.build 26 #[(1, X), (3, Y)]).run Try.prog w = .ok v w') : (execOp a.eval ⟨d, .build 26 #[(1, x), (3, y)], ty, pos, af, g⟩).run Try.prog w = .ok (.value v) w' := by
  simp only [execOp, List.map_toArray, List.map_cons, List.map_nil, hx, hy]
  exact exec_v h
theorem alloc_cell {w : World} {cs : Array Value} {t : TypeId} {j : Nat} {v : Value} (h : cs[j]? = some v) : (w.alloc (.cells cs t)).cell? ⟨w.heap.size, j, none⟩ = some v := by
  simp only [World.cell?, heap_alloc_new w (.cells cs t)]
  exact h
/-- Both nodes' boxes. -/
def Boxes (b0 b1 : Nat) (A B : Array Value) (w : World) : Prop := w.heap[b0]? = some (.cells A 26 (0, 0)) ∧ w.heap[b1]? = some (.cells B 26 (0, 0))
theorem Boxes.later {b0 b1 : Nat} {A B : Array Value} {w w' : World} (h : Boxes b0 b1 A B w) (hb : Below w.heap.size w w') : Boxes b0 b1 A B w' := by
  have hlt : ∀ k o, w.heap[k]? = some o → k < w.heap.size := fun k o hh => by
    rw [Array.getElem?_eq_some_iff] at hh
    exact hh.1
  exact ⟨(hb.block _ (hlt _ _ h.1)).trans h.1, (hb.block _ (hlt _ _ h.2)).trans h.2⟩
theorem kc_app (x y : List ByteArray) : kc (x ++ y) = kc x ++ kc y := by simp [kc]
theorem ic_app (x y : List It) : ic (x ++ y) = ic x ++ ic y := by simp [ic]
theorem dc_app (x y : List Int) : dc (x ++ y) = dc x ++ dc y := by simp [dc]

set_option maxRecDepth 100000 in
set_option maxHeartbeats 8000000 in
theorem join_leaf {w : World} {va vb : Value} {a b : Nd} {key : ByteArray} (ha : NAt w va a) (hb : NAt w vb b) (sa : a.small) (sb : b.small) (hal : a.leaf = true) (hbl : b.leaf = true) (hkey : key.size ≤ maxLen) :
    Calls Try.prog 25 #[va, .string key, vb] w fun e w' => ∃ v, e = .returned v ∧ NAt w' v ⟨true, a.keys ++ b.keys, a.items ++ b.items, []⟩ ∧ Below w.heap.size w w' := by
  obtain ⟨ka, kp, ia, ip, da, dp, rfl, hka, hia, hda, cKa, cIa, cDa⟩ := ha.at_
  obtain ⟨kA, kP, iA, iP, dA, dP, rfl, hkb, hib, hdb, cKb, cIb, cDb⟩ := hb.at_
  have HKsA := hid ha.ks
  have HIsA := hid ha.is_
  have HKsB := hid hb.ks
  have HIsB := hid hb.is_
  obtain ⟨sak, sai, sad⟩ := sa
  obtain ⟨sbk, sbi, sbd⟩ := sb
  have HbA := hid (below_box w (.cells #[.bool true, .slice ka a.keys.length kp, .slice ia a.items.length ip, .slice da a.kids.length dp] 26))
  have HbB := hid (below_box (w.alloc (.cells #[.bool true, .slice ka a.keys.length kp, .slice ia a.items.length ip, .slice da a.kids.length dp] 26)) (.cells #[.bool true, .slice kA b.keys.length kP, .slice iA b.items.length iP, .slice dA b.kids.length dP] 26))
  have HbZ := hid (below_box ((w.alloc (.cells #[.bool true, .slice ka a.keys.length kp, .slice ia a.items.length ip, .slice da a.kids.length dp] 26)).alloc (.cells #[.bool true, .slice kA b.keys.length kP, .slice iA b.items.length iP, .slice dA b.kids.length dP] 26)) (.cells #[.bool false, .slice none 0 0, .slice none 0 0, .slice none 0 0] 26))
  have HKa := hid (((hka.later HbA.out).later HbB.out).later HbZ.out)
  have HIa := hid (((hia.later HbA.out).later HbB.out).later HbZ.out)
  have HDa := hid (((hda.later HbA.out).later HbB.out).later HbZ.out)
  have HKb := hid (((hkb.later HbA.out).later HbB.out).later HbZ.out)
  have HIb := hid (((hib.later HbA.out).later HbB.out).later HbZ.out)
  have HDb := hid (((hdb.later HbA.out).later HbB.out).later HbZ.out)
  have e1 : (w.alloc (.cells #[.bool true, .slice ka a.keys.length kp, .slice ia a.items.length ip, .slice da a.kids.length dp] 26)).heap.size = w.heap.size + 1 := by simp
  have e2 : ((w.alloc (.cells #[.bool true, .slice ka a.keys.length kp, .slice ia a.items.length ip, .slice da a.kids.length dp] 26)).alloc (.cells #[.bool true, .slice kA b.keys.length kP, .slice iA b.items.length iP, .slice dA b.kids.length dP] 26)).heap.size = w.heap.size + 1 + 1 := by simp
  have e3 : (((w.alloc (.cells #[.bool true, .slice ka a.keys.length kp, .slice ia a.items.length ip, .slice da a.kids.length dp] 26)).alloc (.cells #[.bool true, .slice kA b.keys.length kP, .slice iA b.items.length iP, .slice dA b.kids.length dP] 26)).alloc (.cells #[.bool false, .slice none 0 0, .slice none 0 0, .slice none 0 0] 26)).heap.size = w.heap.size + 1 + 1 + 1 := by simp
  have hS : Boxes w.heap.size (w.heap.size + 1) #[.bool true, .slice ka a.keys.length kp, .slice ia a.items.length ip, .slice da a.kids.length dp] #[.bool true, .slice kA b.keys.length kP, .slice iA b.items.length iP, .slice dA b.kids.length dP] (((w.alloc (.cells #[.bool true, .slice ka a.keys.length kp, .slice ia a.items.length ip, .slice da a.kids.length dp] 26)).alloc (.cells #[.bool true, .slice kA b.keys.length kP, .slice iA b.items.length iP, .slice dA b.kids.length dP] 26)).alloc (.cells #[.bool false, .slice none 0 0, .slice none 0 0, .slice none 0 0] 26)) := by
    refine ⟨(HbZ.out.block _ (by rw [e2]; omega)).trans ((HbB.out.block _ (by rw [e1]; omega)).trans (heap_alloc_new w _)), (HbZ.out.block _ (by rw [e2]; omega)).trans ?_⟩
    have := heap_alloc_new (w.alloc (.cells #[.bool true, .slice ka a.keys.length kp, .slice ia a.items.length ip, .slice da a.kids.length dp] 26)) (.cells #[.bool true, .slice kA b.keys.length kP, .slice iA b.items.length iP, .slice dA b.kids.length dP] 26)
    rw [e1] at this
    exact this
  have HR : Hid ((((w.alloc (.cells #[.bool true, .slice ka a.keys.length kp, .slice ia a.items.length ip, .slice da a.kids.length dp] 26)).alloc (.cells #[.bool true, .slice kA b.keys.length kP, .slice iA b.items.length iP, .slice dA b.kids.length dP] 26)).alloc (.cells #[.bool false, .slice none 0 0, .slice none 0 0, .slice none 0 0] 26)).heap[w.heap.size + 1 + 1]? = some (.cells #[.bool false, .slice none 0 0, .slice none 0 0, .slice none 0 0] 26 (0, 0))) := by
    have := heap_alloc_new ((w.alloc (.cells #[.bool true, .slice ka a.keys.length kp, .slice ia a.items.length ip, .slice da a.kids.length dp] 26)).alloc (.cells #[.bool true, .slice kA b.keys.length kP, .slice iA b.items.length iP, .slice dA b.kids.length dP] 26)) (.cells #[.bool false, .slice none 0 0, .slice none 0 0, .slice none 0 0] 26)
    rw [e2] at this
    exact this
  have HSb := hid hS
  have HBW := hid (HbA.out.trans ((HbB.out.mono (by rw [e1]; omega)).trans (HbZ.out.mono (by rw [e2]; omega))))
  clear hka hia hda hkb hib hdb ha hb HbA HbB HbZ hS
  unfold nv
  rw [hal, hbl]
  clear hal hbl
  obtain ⟨x0, x1, x2, x3⟩ := (cells4 HSb.out.1).1
  obtain ⟨y0, y1, y2, y3⟩ := (cells4 HSb.out.2).1
  go_enter Try.func25, Try.ntmps25
  go_wp2_with fail
  clear x0 x1 x2 x3 y0 y1 y2 y3
  generalize ((w.alloc (.cells #[.bool true, .slice ka a.keys.length kp, .slice ia a.items.length ip, .slice da a.kids.length dp] 26)).alloc (.cells #[.bool true, .slice kA b.keys.length kP, .slice iA b.items.length iP, .slice dA b.kids.length dP] 26)).alloc (.cells #[.bool false, .slice none 0 0, .slice none 0 0, .slice none 0 0] 26) = W at *
  clear e1 e2
  generalize hBe : w.heap.size = b0 at *
  obtain ⟨b1, hb1⟩ : ∃ b1, b1 = b0 + 1 := ⟨_, rfl⟩
  obtain ⟨b2, hb2⟩ : ∃ b2, b2 = b0 + 1 + 1 := ⟨_, rfl⟩
  rw [← hb2] at HR ⊢
  rw [← hb1] at HSb ⊢
  have h02 : b0 ≠ b2 := by omega
  have h12 : b1 ≠ b2 := by omega
  have hb2B : b0 ≤ b2 := by omega
  have hb2lt : b2 < W.heap.size := by omega
  have hBW : b0 ≤ W.heap.size := by omega
  clear hb1 hb2 e3
  have HDr : Below W.heap.size W W.drew := (Below.refl _ W).drew
  have HS0 : Boxes b0 b1 #[.bool true, .slice ka a.keys.length kp, .slice ia a.items.length ip, .slice da a.kids.length dp] #[.bool true, .slice kA b.keys.length kP, .slice iA b.items.length iP, .slice dA b.kids.length dP] W.drew := HSb.out.later HDr
  have HB0d : Below W.heap.size W W.drew := HDr
  refine wp_region_held_drew (S := Boxes b0 b1 #[.bool true, .slice ka a.keys.length kp, .slice ia a.items.length ip, .slice da a.kids.length dp] #[.bool true, .slice kA b.keys.length kP, .slice iA b.items.length iP, .slice dA b.kids.length dP]) (by kernel_rfl) HS0 ?_
  intro _
  refine anyH_take 0 ⟨some 16, .fieldAddr 26 (.tmp 3) 1, _, _, _, none⟩ (.pointer (some ⟨b0, 1, none⟩)) rfl rfl (by kernel_rfl) (by kernel_rfl) (by kernel_rfl) (fun _ _ _ h => h) (fun w _ => exec_v (field26 b0 w).1) (HS0) ?_
  simp only [Act.put, List.setIfInBounds_toArray, List.set_cons_zero, List.set_cons_succ]
  refine anyH_take 1 ⟨some 17, .load 22 (.tmp 16), _, _, _, none⟩ (.slice ka a.keys.length kp) rfl rfl (by kernel_rfl) (by kernel_rfl) (by kernel_rfl) (fun _ _ _ h => h) (fun w hS => exec_v (load22 (cells4 hS.1).1.2.1)) (HS0) ?_
  simp only [Act.put, List.setIfInBounds_toArray, List.set_cons_zero, List.set_cons_succ]
  refine anyH_take 2 ⟨some 18, .fieldAddr 26 (.tmp 5) 1, _, _, _, none⟩ (.pointer (some ⟨b1, 1, none⟩)) rfl rfl (by kernel_rfl) (by kernel_rfl) (by kernel_rfl) (fun _ _ _ h => h) (fun w _ => exec_v (field26 b1 w).1) (HS0) ?_
  simp only [Act.put, List.setIfInBounds_toArray, List.set_cons_zero, List.set_cons_succ]
  refine anyH_take 3 ⟨some 19, .load 22 (.tmp 18), _, _, _, none⟩ (.slice kA b.keys.length kP) rfl rfl (by kernel_rfl) (by kernel_rfl) (by kernel_rfl) (fun _ _ _ h => h) (fun w hS => exec_v (load22 (cells4 hS.2).1.2.1)) (HS0) ?_
  simp only [Act.put, List.setIfInBounds_toArray, List.set_cons_zero, List.set_cons_succ]
  refine anyH_take 6 ⟨some 22, .fieldAddr 26 (.tmp 3) 2, _, _, _, none⟩ (.pointer (some ⟨b0, 2, none⟩)) rfl rfl (by kernel_rfl) (by kernel_rfl) (by kernel_rfl) (fun _ _ _ h => h) (fun w _ => exec_v (field26 b0 w).2.1) (HS0) ?_
  simp only [Act.put, List.setIfInBounds_toArray, List.set_cons_zero, List.set_cons_succ]
  refine anyH_take 7 ⟨some 23, .load 23 (.tmp 22), _, _, _, none⟩ (.slice ia a.items.length ip) rfl rfl (by kernel_rfl) (by kernel_rfl) (by kernel_rfl) (fun _ _ _ h => h) (fun w hS => exec_v (load23 (cells4 hS.1).1.2.2.1)) (HS0) ?_
  simp only [Act.put, List.setIfInBounds_toArray, List.set_cons_zero, List.set_cons_succ]
  refine anyH_take 8 ⟨some 24, .fieldAddr 26 (.tmp 5) 2, _, _, _, none⟩ (.pointer (some ⟨b1, 2, none⟩)) rfl rfl (by kernel_rfl) (by kernel_rfl) (by kernel_rfl) (fun _ _ _ h => h) (fun w _ => exec_v (field26 b1 w).2.1) (HS0) ?_
  simp only [Act.put, List.setIfInBounds_toArray, List.set_cons_zero, List.set_cons_succ]
  refine anyH_take 9 ⟨some 25, .load 23 (.tmp 24), _, _, _, none⟩ (.slice iA b.items.length iP) rfl rfl (by kernel_rfl) (by kernel_rfl) (by kernel_rfl) (fun _ _ _ h => h) (fun w hS => exec_v (load23 (cells4 hS.2).1.2.2.1)) (HS0) ?_
  simp only [Act.put, List.setIfInBounds_toArray, List.set_cons_zero, List.set_cons_succ]
  refine anyH_two 4 10 (by kernel_rfl) ?_ ?_
  · have hbd1 := bs99_2 ka a.keys.length kp kA b.keys.length kP W.drew
    obtain ⟨gb1, hgb1⟩ : ∃ g, g = W.drew.heap.size := ⟨_, rfl⟩
    obtain ⟨wb1, hwb1⟩ : ∃ w', w' = W.drew.alloc (.cells #[.slice ka a.keys.length kp, .slice kA b.keys.length kP] 22) := ⟨_, rfl⟩
    rw [← hgb1, ← hwb1] at hbd1
    have hx1_0 : wb1.cell? ⟨gb1, 0, none⟩ = some (.slice ka a.keys.length kp) := by rw [hwb1, hgb1]; exact alloc_cell rfl
    have hx1_1 : wb1.cell? ⟨gb1, 1, none⟩ = some (.slice kA b.keys.length kP) := by rw [hwb1, hgb1]; exact alloc_cell rfl
    have hst1 : Below W.drew.heap.size W.drew wb1 := by rw [hwb1]; exact below_box _ _
    have hSwb1 := HS0.later hst1
    have hBwb1 := HB0d.trans (hst1.mono HB0d.size)
    refine wpOp_run (o := ⟨some 20, .buildSlice 99 2 #[(0, .tmp 17), (1, .tmp 19)], _, _, _, none⟩) rfl rfl (exec_lay2 rfl rfl hbd1) ⟨hSwb1, ?_⟩
    simp only [Act.put, List.setIfInBounds_toArray, List.set_cons_zero, List.set_cons_succ]
    refine anyH_two 5 10 (by kernel_rfl) ?_ ?_
    · have hok2 : ∀ s ∈ ([⟨ka, a.keys.length, kp, kc a.keys⟩, ⟨kA, b.keys.length, kP, kc b.keys⟩] : List Seg), s.ok wb1 1 := by
        intro s hs
        simp only [List.mem_cons, List.not_mem_nil, or_false] at hs
        rcases hs with rfl | rfl
        · exact ⟨(At.later (At.later HKa.out HDr) hst1), by rw [kc_length]; simp, kc_oneCell _, cKa⟩
        · exact ⟨(At.later (At.later HKb.out HDr) hst1), by rw [kc_length]; simp, kc_oneCell _, cKb⟩
      have hce2 : ∀ j (h : j < ([⟨ka, a.keys.length, kp, kc a.keys⟩, ⟨kA, b.keys.length, kP, kc b.keys⟩] : List Seg).length), wb1.cell? ⟨gb1, j, none⟩ = some ([⟨ka, a.keys.length, kp, kc a.keys⟩, ⟨kA, b.keys.length, kP, kc b.keys⟩] : List Seg)[j].v := by
        intro j h
        rcases j with _ | _ | j
        · exact hx1_0
        · exact hx1_1
        · simp at h; try omega
      refine wpOp_callW (o := ⟨some 21, .call { callee := .value (.func 48), args := #[.tmp 20], argTypes := #[99] }, _, _, _, none⟩) rfl rfl (exec_call48 rfl) ?_
      refine (concatk_any gb1 2 2 _ rfl (by omega) ⟨by omega, by omega⟩ hce2 hok2 (by simp only [tot]; omega)).mono ?_
      rintro e wc2 ⟨r2, q2, rfl, hat2, hcap2, hst2⟩
      have hSwc2 := hSwb1.later hst2
      have hBwc2 := hBwb1.trans (hst2.mono hBwb1.size)
      refine ⟨_, rfl, hSwc2, ?_⟩
      simp only [Act.put, List.setIfInBounds_toArray, List.set_cons_zero, List.set_cons_succ]
      have hbd3 := bs101_2 ia a.items.length ip iA b.items.length iP wc2
      obtain ⟨gb3, hgb3⟩ : ∃ g, g = wc2.heap.size := ⟨_, rfl⟩
      obtain ⟨wb3, hwb3⟩ : ∃ w', w' = wc2.alloc (.cells #[.slice ia a.items.length ip, .slice iA b.items.length iP] 23) := ⟨_, rfl⟩
      rw [← hgb3, ← hwb3] at hbd3
      have hx3_0 : wb3.cell? ⟨gb3, 0, none⟩ = some (.slice ia a.items.length ip) := by rw [hwb3, hgb3]; exact alloc_cell rfl
      have hx3_1 : wb3.cell? ⟨gb3, 1, none⟩ = some (.slice iA b.items.length iP) := by rw [hwb3, hgb3]; exact alloc_cell rfl
      have hst3 : Below wc2.heap.size wc2 wb3 := by rw [hwb3]; exact below_box _ _
      have hSwb3 := hSwc2.later hst3
      have hBwb3 := hBwc2.trans (hst3.mono hBwc2.size)
      refine anyH_one 10 ⟨some 26, .buildSlice 101 2 #[(0, .tmp 23), (1, .tmp 25)], _, _, _, none⟩ (.slice (some ⟨gb3, 0, none⟩) 2 2) wb3 (by kernel_rfl) rfl rfl (exec_lay2 rfl rfl hbd3) hSwb3 ?_
      simp only [Act.put, List.setIfInBounds_toArray, List.set_cons_zero, List.set_cons_succ]
      have hok4 : ∀ s ∈ ([⟨ia, a.items.length, ip, ic a.items⟩, ⟨iA, b.items.length, iP, ic b.items⟩] : List Seg), s.ok wb3 3 := by
        intro s hs
        simp only [List.mem_cons, List.not_mem_nil, or_false] at hs
        rcases hs with rfl | rfl
        · exact ⟨(At.later (At.later (At.later (At.later HIa.out HDr) hst1) hst2) hst3), ic_length _, ic_oneCell _, cIa⟩
        · exact ⟨(At.later (At.later (At.later (At.later HIb.out HDr) hst1) hst2) hst3), ic_length _, ic_oneCell _, cIb⟩
      have hce4 : ∀ j (h : j < ([⟨ia, a.items.length, ip, ic a.items⟩, ⟨iA, b.items.length, iP, ic b.items⟩] : List Seg).length), wb3.cell? ⟨gb3, j, none⟩ = some ([⟨ia, a.items.length, ip, ic a.items⟩, ⟨iA, b.items.length, iP, ic b.items⟩] : List Seg)[j].v := by
        intro j h
        rcases j with _ | _ | j
        · exact hx3_0
        · exact hx3_1
        · simp at h; try omega
      refine anyH_callW 11 ⟨some 27, .call { callee := .value (.func 49), args := #[.tmp 26], argTypes := #[101] }, _, _, _, none⟩ 49 _ (by kernel_rfl) rfl rfl (exec_call49 rfl) ?_
      refine (concati_any gb3 2 2 _ rfl (by omega) ⟨by omega, by omega⟩ hce4 hok4 (by simp only [tot]; omega)).mono ?_
      rintro e wc4 ⟨r4, q4, rfl, hat4, hcap4, hst4⟩
      have hSwc4 := hSwb3.later hst4
      have hBwc4 := hBwb3.trans (hst4.mono hBwb3.size)
      refine ⟨_, rfl, hSwc4, ?_⟩
      simp only [Act.put, List.setIfInBounds_toArray, List.set_cons_zero, List.set_cons_succ]
      refine anyH_one 12 ⟨some 28, .build 26 #[(0, .const (.bool true)), (1, .tmp 21), (2, .tmp 27)], _, _, _, none⟩ (.agg #[.bool true, .slice r2 (tot [⟨ka, a.keys.length, kp, kc a.keys⟩, ⟨kA, b.keys.length, kP, kc b.keys⟩]) q2, .slice r4 (tot [⟨ia, a.items.length, ip, ic a.items⟩, ⟨iA, b.items.length, iP, ic b.items⟩]) q4, .slice none 0 0]) wc4 (by kernel_rfl) rfl rfl (exec_build26a rfl rfl (build26a _ _ _ _ _ _ _)) hSwc4 ?_
      simp only [Act.put, List.setIfInBounds_toArray, List.set_cons_zero, List.set_cons_succ]
      have hR' : wc4.heap[b2]? = some (.cells #[.bool false, .slice none 0 0, .slice none 0 0, .slice none 0 0] 26 (0, 0)) := (hBwc4.block b2 hb2lt).trans HR.out
      refine anyH_oneSkip 13 ⟨none, .store 26 (.tmp 6) (.tmp 28), _, _, _, none⟩ (wc4.setRow b2 #[.bool true, .slice r2 (tot [⟨ka, a.keys.length, kp, kc a.keys⟩, ⟨kA, b.keys.length, kP, kc b.keys⟩]) q2, .slice r4 (tot [⟨ia, a.items.length, ip, ic a.items⟩, ⟨iA, b.items.length, iP, ic b.items⟩]) q4, .slice none 0 0]) (by kernel_rfl) rfl rfl (exec_store26 rfl rfl hR') ⟨(setRow_other _ _ _ _ h02).trans hSwc4.1, (setRow_other _ _ _ _ h12).trans hSwc4.2⟩ ?_
      simp only [Act.put, List.setIfInBounds_toArray, List.set_cons_zero, List.set_cons_succ]
      refine wpAnyH_done (by kernel_rfl) ?_ _
      have HA1 := hid ((At.setRow (At.later (At.later hat2 hst3) hst4) (by simp only [flat]; intro v hv; simp only [List.mem_append, List.not_mem_nil, or_false] at hv; rcases hv with h | h <;> exact kc_plain _ _ h) hR' #[.bool true, .slice r2 (tot [⟨ka, a.keys.length, kp, kc a.keys⟩, ⟨kA, b.keys.length, kP, kc b.keys⟩]) q2, .slice r4 (tot [⟨ia, a.items.length, ip, ic a.items⟩, ⟨iA, b.items.length, iP, ic b.items⟩]) q4, .slice none 0 0]))
      have HA2 := hid ((At.setRow hat4 (by simp only [flat]; intro v hv; simp only [List.mem_append, List.not_mem_nil, or_false] at hv; rcases hv with h | h <;> exact ic_plain _ _ h) hR' #[.bool true, .slice r2 (tot [⟨ka, a.keys.length, kp, kc a.keys⟩, ⟨kA, b.keys.length, kP, kc b.keys⟩]) q2, .slice r4 (tot [⟨ia, a.items.length, ip, ic a.items⟩, ⟨iA, b.items.length, iP, ic b.items⟩]) q4, .slice none 0 0]))
      have HBF := hid ((HBW.out.trans (hBwc4.mono hBW)).trans (below_setRow (w := wc4) hb2B #[.bool true, .slice r2 (tot [⟨ka, a.keys.length, kp, kc a.keys⟩, ⟨kA, b.keys.length, kP, kc b.keys⟩]) q2, .slice r4 (tot [⟨ia, a.items.length, ip, ic a.items⟩, ⟨iA, b.items.length, iP, ic b.items⟩]) q4, .slice none 0 0]))
      have HRF := hid (setRow_heap wc4 b2 _ #[.bool true, .slice r2 (tot [⟨ka, a.keys.length, kp, kc a.keys⟩, ⟨kA, b.keys.length, kP, kc b.keys⟩]) q2, .slice r4 (tot [⟨ia, a.items.length, ip, ic a.items⟩, ⟨iA, b.items.length, iP, ic b.items⟩]) q4, .slice none 0 0] 26 _ hR')
      generalize wc4.setRow b2 #[.bool true, .slice r2 (tot [⟨ka, a.keys.length, kp, kc a.keys⟩, ⟨kA, b.keys.length, kP, kc b.keys⟩]) q2, .slice r4 (tot [⟨ia, a.items.length, ip, ic a.items⟩, ⟨iA, b.items.length, iP, ic b.items⟩]) q4, .slice none 0 0] = WF at HA1 HA2 HBF HRF ⊢
      go_wp2_with fail
      refine bodyPost_ret (results_cell26 rfl rfl HRF.out) rfl ?_
      exact ⟨_, rfl, ⟨⟨r2, q2, r4, q4, none, 0, by simp [nv, tot], by have h := HA1.out; simp only [flat, List.append_nil] at h; show At WF _ (kc (a.keys ++ b.keys)); rw [kc_app]; exact h, by have h := HA2.out; simp only [flat, List.append_nil] at h; show At WF _ (ic (a.items ++ b.items)); rw [ic_app]; exact h, .inl rfl, by simpa [tot] using hcap2, by simpa [tot] using hcap4, ⟨Nat.le_refl _, Nat.zero_le _⟩⟩, (fun k hk => (List.mem_append.1 hk).elim (HKsA.out k) (HKsB.out k)), (fun k hk => (List.mem_append.1 hk).elim (HIsA.out k) (HIsB.out k))⟩, hBe ▸ HBF.out⟩

    · have hbd5 := bs101_2 ia a.items.length ip iA b.items.length iP wb1
      obtain ⟨gb5, hgb5⟩ : ∃ g, g = wb1.heap.size := ⟨_, rfl⟩
      obtain ⟨wb5, hwb5⟩ : ∃ w', w' = wb1.alloc (.cells #[.slice ia a.items.length ip, .slice iA b.items.length iP] 23) := ⟨_, rfl⟩
      rw [← hgb5, ← hwb5] at hbd5
      have hx5_0 : wb5.cell? ⟨gb5, 0, none⟩ = some (.slice ia a.items.length ip) := by rw [hwb5, hgb5]; exact alloc_cell rfl
      have hx5_1 : wb5.cell? ⟨gb5, 1, none⟩ = some (.slice iA b.items.length iP) := by rw [hwb5, hgb5]; exact alloc_cell rfl
      have hst5 : Below wb1.heap.size wb1 wb5 := by rw [hwb5]; exact below_box _ _
      have hSwb5 := hSwb1.later hst5
      have hBwb5 := hBwb1.trans (hst5.mono hBwb1.size)
      refine wpOp_run (o := ⟨some 26, .buildSlice 101 2 #[(0, .tmp 23), (1, .tmp 25)], _, _, _, none⟩) rfl rfl (exec_lay2 rfl rfl hbd5) ⟨hSwb5, ?_⟩
      simp only [Act.put, List.setIfInBounds_toArray, List.set_cons_zero, List.set_cons_succ]
      have hok6 : ∀ s ∈ ([⟨ka, a.keys.length, kp, kc a.keys⟩, ⟨kA, b.keys.length, kP, kc b.keys⟩] : List Seg), s.ok wb5 1 := by
        intro s hs
        simp only [List.mem_cons, List.not_mem_nil, or_false] at hs
        rcases hs with rfl | rfl
        · exact ⟨(At.later (At.later (At.later HKa.out HDr) hst1) hst5), by rw [kc_length]; simp, kc_oneCell _, cKa⟩
        · exact ⟨(At.later (At.later (At.later HKb.out HDr) hst1) hst5), by rw [kc_length]; simp, kc_oneCell _, cKb⟩
      have hce6 : ∀ j (h : j < ([⟨ka, a.keys.length, kp, kc a.keys⟩, ⟨kA, b.keys.length, kP, kc b.keys⟩] : List Seg).length), wb5.cell? ⟨gb1, j, none⟩ = some ([⟨ka, a.keys.length, kp, kc a.keys⟩, ⟨kA, b.keys.length, kP, kc b.keys⟩] : List Seg)[j].v := by
        intro j h
        rcases j with _ | _ | j
        · exact (cell_later hst5 hx1_0)
        · exact (cell_later hst5 hx1_1)
        · simp at h; try omega
      refine anyH_callW 5 ⟨some 21, .call { callee := .value (.func 48), args := #[.tmp 20], argTypes := #[99] }, _, _, _, none⟩ 48 _ (by kernel_rfl) rfl rfl (exec_call48 rfl) ?_
      refine (concatk_any gb1 2 2 _ rfl (by omega) ⟨by omega, by omega⟩ hce6 hok6 (by simp only [tot]; omega)).mono ?_
      rintro e wc6 ⟨r6, q6, rfl, hat6, hcap6, hst6⟩
      have hSwc6 := hSwb5.later hst6
      have hBwc6 := hBwb5.trans (hst6.mono hBwb5.size)
      refine ⟨_, rfl, hSwc6, ?_⟩
      simp only [Act.put, List.setIfInBounds_toArray, List.set_cons_zero, List.set_cons_succ]
      have hok7 : ∀ s ∈ ([⟨ia, a.items.length, ip, ic a.items⟩, ⟨iA, b.items.length, iP, ic b.items⟩] : List Seg), s.ok wc6 3 := by
        intro s hs
        simp only [List.mem_cons, List.not_mem_nil, or_false] at hs
        rcases hs with rfl | rfl
        · exact ⟨(At.later (At.later (At.later (At.later HIa.out HDr) hst1) hst5) hst6), ic_length _, ic_oneCell _, cIa⟩
        · exact ⟨(At.later (At.later (At.later (At.later HIb.out HDr) hst1) hst5) hst6), ic_length _, ic_oneCell _, cIb⟩
      have hce7 : ∀ j (h : j < ([⟨ia, a.items.length, ip, ic a.items⟩, ⟨iA, b.items.length, iP, ic b.items⟩] : List Seg).length), wc6.cell? ⟨gb5, j, none⟩ = some ([⟨ia, a.items.length, ip, ic a.items⟩, ⟨iA, b.items.length, iP, ic b.items⟩] : List Seg)[j].v := by
        intro j h
        rcases j with _ | _ | j
        · exact (cell_later hst6 hx5_0)
        · exact (cell_later hst6 hx5_1)
        · simp at h; try omega
      refine anyH_callW 11 ⟨some 27, .call { callee := .value (.func 49), args := #[.tmp 26], argTypes := #[101] }, _, _, _, none⟩ 49 _ (by kernel_rfl) rfl rfl (exec_call49 rfl) ?_
      refine (concati_any gb5 2 2 _ rfl (by omega) ⟨by omega, by omega⟩ hce7 hok7 (by simp only [tot]; omega)).mono ?_
      rintro e wc7 ⟨r7, q7, rfl, hat7, hcap7, hst7⟩
      have hSwc7 := hSwc6.later hst7
      have hBwc7 := hBwc6.trans (hst7.mono hBwc6.size)
      refine ⟨_, rfl, hSwc7, ?_⟩
      simp only [Act.put, List.setIfInBounds_toArray, List.set_cons_zero, List.set_cons_succ]
      refine anyH_one 12 ⟨some 28, .build 26 #[(0, .const (.bool true)), (1, .tmp 21), (2, .tmp 27)], _, _, _, none⟩ (.agg #[.bool true, .slice r6 (tot [⟨ka, a.keys.length, kp, kc a.keys⟩, ⟨kA, b.keys.length, kP, kc b.keys⟩]) q6, .slice r7 (tot [⟨ia, a.items.length, ip, ic a.items⟩, ⟨iA, b.items.length, iP, ic b.items⟩]) q7, .slice none 0 0]) wc7 (by kernel_rfl) rfl rfl (exec_build26a rfl rfl (build26a _ _ _ _ _ _ _)) hSwc7 ?_
      simp only [Act.put, List.setIfInBounds_toArray, List.set_cons_zero, List.set_cons_succ]
      have hR' : wc7.heap[b2]? = some (.cells #[.bool false, .slice none 0 0, .slice none 0 0, .slice none 0 0] 26 (0, 0)) := (hBwc7.block b2 hb2lt).trans HR.out
      refine anyH_oneSkip 13 ⟨none, .store 26 (.tmp 6) (.tmp 28), _, _, _, none⟩ (wc7.setRow b2 #[.bool true, .slice r6 (tot [⟨ka, a.keys.length, kp, kc a.keys⟩, ⟨kA, b.keys.length, kP, kc b.keys⟩]) q6, .slice r7 (tot [⟨ia, a.items.length, ip, ic a.items⟩, ⟨iA, b.items.length, iP, ic b.items⟩]) q7, .slice none 0 0]) (by kernel_rfl) rfl rfl (exec_store26 rfl rfl hR') ⟨(setRow_other _ _ _ _ h02).trans hSwc7.1, (setRow_other _ _ _ _ h12).trans hSwc7.2⟩ ?_
      simp only [Act.put, List.setIfInBounds_toArray, List.set_cons_zero, List.set_cons_succ]
      refine wpAnyH_done (by kernel_rfl) ?_ _
      have HA1 := hid ((At.setRow (At.later hat6 hst7) (by simp only [flat]; intro v hv; simp only [List.mem_append, List.not_mem_nil, or_false] at hv; rcases hv with h | h <;> exact kc_plain _ _ h) hR' #[.bool true, .slice r6 (tot [⟨ka, a.keys.length, kp, kc a.keys⟩, ⟨kA, b.keys.length, kP, kc b.keys⟩]) q6, .slice r7 (tot [⟨ia, a.items.length, ip, ic a.items⟩, ⟨iA, b.items.length, iP, ic b.items⟩]) q7, .slice none 0 0]))
      have HA2 := hid ((At.setRow hat7 (by simp only [flat]; intro v hv; simp only [List.mem_append, List.not_mem_nil, or_false] at hv; rcases hv with h | h <;> exact ic_plain _ _ h) hR' #[.bool true, .slice r6 (tot [⟨ka, a.keys.length, kp, kc a.keys⟩, ⟨kA, b.keys.length, kP, kc b.keys⟩]) q6, .slice r7 (tot [⟨ia, a.items.length, ip, ic a.items⟩, ⟨iA, b.items.length, iP, ic b.items⟩]) q7, .slice none 0 0]))
      have HBF := hid ((HBW.out.trans (hBwc7.mono hBW)).trans (below_setRow (w := wc7) hb2B #[.bool true, .slice r6 (tot [⟨ka, a.keys.length, kp, kc a.keys⟩, ⟨kA, b.keys.length, kP, kc b.keys⟩]) q6, .slice r7 (tot [⟨ia, a.items.length, ip, ic a.items⟩, ⟨iA, b.items.length, iP, ic b.items⟩]) q7, .slice none 0 0]))
      have HRF := hid (setRow_heap wc7 b2 _ #[.bool true, .slice r6 (tot [⟨ka, a.keys.length, kp, kc a.keys⟩, ⟨kA, b.keys.length, kP, kc b.keys⟩]) q6, .slice r7 (tot [⟨ia, a.items.length, ip, ic a.items⟩, ⟨iA, b.items.length, iP, ic b.items⟩]) q7, .slice none 0 0] 26 _ hR')
      generalize wc7.setRow b2 #[.bool true, .slice r6 (tot [⟨ka, a.keys.length, kp, kc a.keys⟩, ⟨kA, b.keys.length, kP, kc b.keys⟩]) q6, .slice r7 (tot [⟨ia, a.items.length, ip, ic a.items⟩, ⟨iA, b.items.length, iP, ic b.items⟩]) q7, .slice none 0 0] = WF at HA1 HA2 HBF HRF ⊢
      go_wp2_with fail
      refine bodyPost_ret (results_cell26 rfl rfl HRF.out) rfl ?_
      exact ⟨_, rfl, ⟨⟨r6, q6, r7, q7, none, 0, by simp [nv, tot], by have h := HA1.out; simp only [flat, List.append_nil] at h; show At WF _ (kc (a.keys ++ b.keys)); rw [kc_app]; exact h, by have h := HA2.out; simp only [flat, List.append_nil] at h; show At WF _ (ic (a.items ++ b.items)); rw [ic_app]; exact h, .inl rfl, by simpa [tot] using hcap6, by simpa [tot] using hcap7, ⟨Nat.le_refl _, Nat.zero_le _⟩⟩, (fun k hk => (List.mem_append.1 hk).elim (HKsA.out k) (HKsB.out k)), (fun k hk => (List.mem_append.1 hk).elim (HIsA.out k) (HIsB.out k))⟩, hBe ▸ HBF.out⟩

  · have hbd8 := bs101_2 ia a.items.length ip iA b.items.length iP W.drew
    obtain ⟨gb8, hgb8⟩ : ∃ g, g = W.drew.heap.size := ⟨_, rfl⟩
    obtain ⟨wb8, hwb8⟩ : ∃ w', w' = W.drew.alloc (.cells #[.slice ia a.items.length ip, .slice iA b.items.length iP] 23) := ⟨_, rfl⟩
    rw [← hgb8, ← hwb8] at hbd8
    have hx8_0 : wb8.cell? ⟨gb8, 0, none⟩ = some (.slice ia a.items.length ip) := by rw [hwb8, hgb8]; exact alloc_cell rfl
    have hx8_1 : wb8.cell? ⟨gb8, 1, none⟩ = some (.slice iA b.items.length iP) := by rw [hwb8, hgb8]; exact alloc_cell rfl
    have hst8 : Below W.drew.heap.size W.drew wb8 := by rw [hwb8]; exact below_box _ _
    have hSwb8 := HS0.later hst8
    have hBwb8 := HB0d.trans (hst8.mono HB0d.size)
    refine wpOp_run (o := ⟨some 26, .buildSlice 101 2 #[(0, .tmp 23), (1, .tmp 25)], _, _, _, none⟩) rfl rfl (exec_lay2 rfl rfl hbd8) ⟨hSwb8, ?_⟩
    simp only [Act.put, List.setIfInBounds_toArray, List.set_cons_zero, List.set_cons_succ]
    have hbd9 := bs99_2 ka a.keys.length kp kA b.keys.length kP wb8
    obtain ⟨gb9, hgb9⟩ : ∃ g, g = wb8.heap.size := ⟨_, rfl⟩
    obtain ⟨wb9, hwb9⟩ : ∃ w', w' = wb8.alloc (.cells #[.slice ka a.keys.length kp, .slice kA b.keys.length kP] 22) := ⟨_, rfl⟩
    rw [← hgb9, ← hwb9] at hbd9
    have hx9_0 : wb9.cell? ⟨gb9, 0, none⟩ = some (.slice ka a.keys.length kp) := by rw [hwb9, hgb9]; exact alloc_cell rfl
    have hx9_1 : wb9.cell? ⟨gb9, 1, none⟩ = some (.slice kA b.keys.length kP) := by rw [hwb9, hgb9]; exact alloc_cell rfl
    have hst9 : Below wb8.heap.size wb8 wb9 := by rw [hwb9]; exact below_box _ _
    have hSwb9 := hSwb8.later hst9
    have hBwb9 := hBwb8.trans (hst9.mono hBwb8.size)
    refine anyH_one 4 ⟨some 20, .buildSlice 99 2 #[(0, .tmp 17), (1, .tmp 19)], _, _, _, none⟩ (.slice (some ⟨gb9, 0, none⟩) 2 2) wb9 (by kernel_rfl) rfl rfl (exec_lay2 rfl rfl hbd9) hSwb9 ?_
    simp only [Act.put, List.setIfInBounds_toArray, List.set_cons_zero, List.set_cons_succ]
    have hok10 : ∀ s ∈ ([⟨ka, a.keys.length, kp, kc a.keys⟩, ⟨kA, b.keys.length, kP, kc b.keys⟩] : List Seg), s.ok wb9 1 := by
      intro s hs
      simp only [List.mem_cons, List.not_mem_nil, or_false] at hs
      rcases hs with rfl | rfl
      · exact ⟨(At.later (At.later (At.later HKa.out HDr) hst8) hst9), by rw [kc_length]; simp, kc_oneCell _, cKa⟩
      · exact ⟨(At.later (At.later (At.later HKb.out HDr) hst8) hst9), by rw [kc_length]; simp, kc_oneCell _, cKb⟩
    have hce10 : ∀ j (h : j < ([⟨ka, a.keys.length, kp, kc a.keys⟩, ⟨kA, b.keys.length, kP, kc b.keys⟩] : List Seg).length), wb9.cell? ⟨gb9, j, none⟩ = some ([⟨ka, a.keys.length, kp, kc a.keys⟩, ⟨kA, b.keys.length, kP, kc b.keys⟩] : List Seg)[j].v := by
      intro j h
      rcases j with _ | _ | j
      · exact hx9_0
      · exact hx9_1
      · simp at h; try omega
    refine anyH_callW 5 ⟨some 21, .call { callee := .value (.func 48), args := #[.tmp 20], argTypes := #[99] }, _, _, _, none⟩ 48 _ (by kernel_rfl) rfl rfl (exec_call48 rfl) ?_
    refine (concatk_any gb9 2 2 _ rfl (by omega) ⟨by omega, by omega⟩ hce10 hok10 (by simp only [tot]; omega)).mono ?_
    rintro e wc10 ⟨r10, q10, rfl, hat10, hcap10, hst10⟩
    have hSwc10 := hSwb9.later hst10
    have hBwc10 := hBwb9.trans (hst10.mono hBwb9.size)
    refine ⟨_, rfl, hSwc10, ?_⟩
    simp only [Act.put, List.setIfInBounds_toArray, List.set_cons_zero, List.set_cons_succ]
    have hok11 : ∀ s ∈ ([⟨ia, a.items.length, ip, ic a.items⟩, ⟨iA, b.items.length, iP, ic b.items⟩] : List Seg), s.ok wc10 3 := by
      intro s hs
      simp only [List.mem_cons, List.not_mem_nil, or_false] at hs
      rcases hs with rfl | rfl
      · exact ⟨(At.later (At.later (At.later (At.later HIa.out HDr) hst8) hst9) hst10), ic_length _, ic_oneCell _, cIa⟩
      · exact ⟨(At.later (At.later (At.later (At.later HIb.out HDr) hst8) hst9) hst10), ic_length _, ic_oneCell _, cIb⟩
    have hce11 : ∀ j (h : j < ([⟨ia, a.items.length, ip, ic a.items⟩, ⟨iA, b.items.length, iP, ic b.items⟩] : List Seg).length), wc10.cell? ⟨gb8, j, none⟩ = some ([⟨ia, a.items.length, ip, ic a.items⟩, ⟨iA, b.items.length, iP, ic b.items⟩] : List Seg)[j].v := by
      intro j h
      rcases j with _ | _ | j
      · exact (cell_later hst10 (cell_later hst9 hx8_0))
      · exact (cell_later hst10 (cell_later hst9 hx8_1))
      · simp at h; try omega
    refine anyH_callW 11 ⟨some 27, .call { callee := .value (.func 49), args := #[.tmp 26], argTypes := #[101] }, _, _, _, none⟩ 49 _ (by kernel_rfl) rfl rfl (exec_call49 rfl) ?_
    refine (concati_any gb8 2 2 _ rfl (by omega) ⟨by omega, by omega⟩ hce11 hok11 (by simp only [tot]; omega)).mono ?_
    rintro e wc11 ⟨r11, q11, rfl, hat11, hcap11, hst11⟩
    have hSwc11 := hSwc10.later hst11
    have hBwc11 := hBwc10.trans (hst11.mono hBwc10.size)
    refine ⟨_, rfl, hSwc11, ?_⟩
    simp only [Act.put, List.setIfInBounds_toArray, List.set_cons_zero, List.set_cons_succ]
    refine anyH_one 12 ⟨some 28, .build 26 #[(0, .const (.bool true)), (1, .tmp 21), (2, .tmp 27)], _, _, _, none⟩ (.agg #[.bool true, .slice r10 (tot [⟨ka, a.keys.length, kp, kc a.keys⟩, ⟨kA, b.keys.length, kP, kc b.keys⟩]) q10, .slice r11 (tot [⟨ia, a.items.length, ip, ic a.items⟩, ⟨iA, b.items.length, iP, ic b.items⟩]) q11, .slice none 0 0]) wc11 (by kernel_rfl) rfl rfl (exec_build26a rfl rfl (build26a _ _ _ _ _ _ _)) hSwc11 ?_
    simp only [Act.put, List.setIfInBounds_toArray, List.set_cons_zero, List.set_cons_succ]
    have hR' : wc11.heap[b2]? = some (.cells #[.bool false, .slice none 0 0, .slice none 0 0, .slice none 0 0] 26 (0, 0)) := (hBwc11.block b2 hb2lt).trans HR.out
    refine anyH_oneSkip 13 ⟨none, .store 26 (.tmp 6) (.tmp 28), _, _, _, none⟩ (wc11.setRow b2 #[.bool true, .slice r10 (tot [⟨ka, a.keys.length, kp, kc a.keys⟩, ⟨kA, b.keys.length, kP, kc b.keys⟩]) q10, .slice r11 (tot [⟨ia, a.items.length, ip, ic a.items⟩, ⟨iA, b.items.length, iP, ic b.items⟩]) q11, .slice none 0 0]) (by kernel_rfl) rfl rfl (exec_store26 rfl rfl hR') ⟨(setRow_other _ _ _ _ h02).trans hSwc11.1, (setRow_other _ _ _ _ h12).trans hSwc11.2⟩ ?_
    simp only [Act.put, List.setIfInBounds_toArray, List.set_cons_zero, List.set_cons_succ]
    refine wpAnyH_done (by kernel_rfl) ?_ _
    have HA1 := hid ((At.setRow (At.later hat10 hst11) (by simp only [flat]; intro v hv; simp only [List.mem_append, List.not_mem_nil, or_false] at hv; rcases hv with h | h <;> exact kc_plain _ _ h) hR' #[.bool true, .slice r10 (tot [⟨ka, a.keys.length, kp, kc a.keys⟩, ⟨kA, b.keys.length, kP, kc b.keys⟩]) q10, .slice r11 (tot [⟨ia, a.items.length, ip, ic a.items⟩, ⟨iA, b.items.length, iP, ic b.items⟩]) q11, .slice none 0 0]))
    have HA2 := hid ((At.setRow hat11 (by simp only [flat]; intro v hv; simp only [List.mem_append, List.not_mem_nil, or_false] at hv; rcases hv with h | h <;> exact ic_plain _ _ h) hR' #[.bool true, .slice r10 (tot [⟨ka, a.keys.length, kp, kc a.keys⟩, ⟨kA, b.keys.length, kP, kc b.keys⟩]) q10, .slice r11 (tot [⟨ia, a.items.length, ip, ic a.items⟩, ⟨iA, b.items.length, iP, ic b.items⟩]) q11, .slice none 0 0]))
    have HBF := hid ((HBW.out.trans (hBwc11.mono hBW)).trans (below_setRow (w := wc11) hb2B #[.bool true, .slice r10 (tot [⟨ka, a.keys.length, kp, kc a.keys⟩, ⟨kA, b.keys.length, kP, kc b.keys⟩]) q10, .slice r11 (tot [⟨ia, a.items.length, ip, ic a.items⟩, ⟨iA, b.items.length, iP, ic b.items⟩]) q11, .slice none 0 0]))
    have HRF := hid (setRow_heap wc11 b2 _ #[.bool true, .slice r10 (tot [⟨ka, a.keys.length, kp, kc a.keys⟩, ⟨kA, b.keys.length, kP, kc b.keys⟩]) q10, .slice r11 (tot [⟨ia, a.items.length, ip, ic a.items⟩, ⟨iA, b.items.length, iP, ic b.items⟩]) q11, .slice none 0 0] 26 _ hR')
    generalize wc11.setRow b2 #[.bool true, .slice r10 (tot [⟨ka, a.keys.length, kp, kc a.keys⟩, ⟨kA, b.keys.length, kP, kc b.keys⟩]) q10, .slice r11 (tot [⟨ia, a.items.length, ip, ic a.items⟩, ⟨iA, b.items.length, iP, ic b.items⟩]) q11, .slice none 0 0] = WF at HA1 HA2 HBF HRF ⊢
    go_wp2_with fail
    refine bodyPost_ret (results_cell26 rfl rfl HRF.out) rfl ?_
    exact ⟨_, rfl, ⟨⟨r10, q10, r11, q11, none, 0, by simp [nv, tot], by have h := HA1.out; simp only [flat, List.append_nil] at h; show At WF _ (kc (a.keys ++ b.keys)); rw [kc_app]; exact h, by have h := HA2.out; simp only [flat, List.append_nil] at h; show At WF _ (ic (a.items ++ b.items)); rw [ic_app]; exact h, .inl rfl, by simpa [tot] using hcap10, by simpa [tot] using hcap11, ⟨Nat.le_refl _, Nat.zero_le _⟩⟩, (fun k hk => (List.mem_append.1 hk).elim (HKsA.out k) (HKsB.out k)), (fun k hk => (List.mem_append.1 hk).elim (HIsA.out k) (HIsB.out k))⟩, hBe ▸ HBF.out⟩

end Go.Proofs.Ytkipigbfbhecjaa
