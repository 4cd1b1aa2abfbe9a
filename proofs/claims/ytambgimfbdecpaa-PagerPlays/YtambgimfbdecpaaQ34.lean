/- What this text holds: a call of Use of both pagers. -/
import Derived.Test.YtambgimfbdecpaaQ33
namespace Go.Proofs.Ytambgimfbdecpaa
open Go.RowKit
set_option linter.unusedVariables false
set_option linter.unusedSimpArgs false

def Sx (xb ab db b c r : Nat) (kind n m : Int) (s : ByteArray) (ka : Option Addr) (klen kcap : Nat) (w' : World) : Prop := w'.cell? ⟨xb, 0, none⟩ = some (.pointer (some ⟨db, 0, none⟩)) ∧ w'.cell? ⟨xb, 1, none⟩ = some (.pointer (some ⟨b, 0, none⟩)) ∧ w'.cell? ⟨xb, 2, none⟩ = some (.pointer (some ⟨c, 0, none⟩)) ∧ w'.cell? ⟨xb, 3, none⟩ = some (.pointer (some ⟨r, 0, none⟩)) ∧ w'.cell? ⟨ab, 0, none⟩ = some (.int .i64 kind) ∧ w'.cell? ⟨ab, 1, none⟩ = some (.int .i64 n) ∧ w'.cell? ⟨ab, 2, none⟩ = some (.int .i64 m) ∧ w'.cell? ⟨ab, 3, none⟩ = some (.string s) ∧ w'.cell? ⟨ab, 4, none⟩ = some (.slice ka klen kcap)
theorem field39_1 (b : Nat) (w : World) : (Instr.fieldAt 39 (.pointer (some ⟨b, 0, none⟩)) 1).run Try.prog w = .ok (.pointer (some ⟨b, 1, none⟩)) w := by kernel_rfl
theorem field39_3 (b : Nat) (w : World) : (Instr.fieldAt 39 (.pointer (some ⟨b, 0, none⟩)) 3).run Try.prog w = .ok (.pointer (some ⟨b, 3, none⟩)) w := by kernel_rfl
theorem field42_1 (b : Nat) (w : World) : (Instr.fieldAt 42 (.pointer (some ⟨b, 0, none⟩)) 1).run Try.prog w = .ok (.pointer (some ⟨b, 1, none⟩)) w := by kernel_rfl
theorem field42_2 (b : Nat) (w : World) : (Instr.fieldAt 42 (.pointer (some ⟨b, 0, none⟩)) 2).run Try.prog w = .ok (.pointer (some ⟨b, 2, none⟩)) w := by kernel_rfl
theorem load3x {b k : Nat} {v : Value} {w : World} (h : w.cell? ⟨b, k, none⟩ = some v) : (Instr.loadAt 3 (.pointer (some ⟨b, k, none⟩))).run Try.prog w = .ok v w := by
  simp [Instr.loadAt, Instr.sureAddr, loadVar, isAgg, run_underlying Try.underlying3, h]
theorem load36x {b k : Nat} {v : Value} {w : World} (h : w.cell? ⟨b, k, none⟩ = some v) : (Instr.loadAt 36 (.pointer (some ⟨b, k, none⟩))).run Try.prog w = .ok v w := by
  simp [Instr.loadAt, Instr.sureAddr, loadVar, isAgg, run_underlying Try.underlying36, h]
theorem load37x {b k : Nat} {v : Value} {w : World} (h : w.cell? ⟨b, k, none⟩ = some v) : (Instr.loadAt 37 (.pointer (some ⟨b, k, none⟩))).run Try.prog w = .ok v w := by
  simp [Instr.loadAt, Instr.sureAddr, loadVar, isAgg, run_underlying Try.underlying37, h]
theorem bs51_2 (x y : Int) (w : World) : (Instr.buildSlice 51 2 #[(0, .int .i64 x), (1, .int .i64 y)]).run Try.prog w = .ok (.slice (some ⟨w.heap.size, 0, none⟩) 2 2) (w.alloc (.cells #[.int .i64 x, .int .i64 y] 3)) := by kernel_rfl
theorem exec_lay2 {a : Act} {x0 : Operand} {X0 : Value} {x1 : Operand} {X1 : Value} {w w' : World} {v : Value} {d : Option Tmp} {t n ty : Nat} {pos : String} {af : Array Edge} {g : Option (Nat × Bool)} (h0 : a.eval x0 = X0) (h1 : a.eval x1 = X1)
    (h : (Instr.buildSlice t n #[(0, X0), (1, X1)]).run Try.prog w = .ok v w') : (execOp a.eval ⟨d, .buildSlice t n #[(0, x0), (1, x1)], ty, pos, af, g⟩).run Try.prog w = .ok (.value v) w' := by
  simp only [execOp, List.map_toArray, List.map_cons, List.map_nil, h0, h1]
  exact exec_v h
theorem exec_call2 {a : Act} {x y : Operand} {X Y : Value} {w : World} {d : Option Tmp} {ty f : Nat} {ts : Array Nat} {pos : String} {af : Array Edge} {g : Option (Nat × Bool)} (hx : a.eval x = X) (hy : a.eval y = Y) (hf : f = 39 ∨ f = 58) :
    (execOp a.eval ⟨d, .call { callee := .value (.func f), args := #[x, y], argTypes := ts }, ty, pos, af, g⟩).run Try.prog w = .ok (.enter f #[X, Y]) w := by
  rcases hf with rfl | rfl
  · simp only [execOp, resolve, List.map_toArray, List.map_cons, List.map_nil, hx, hy]
    kernel_rfl
  · simp only [execOp, resolve, List.map_toArray, List.map_cons, List.map_nil, hx, hy]
    kernel_rfl
theorem exec_call1 {a : Act} {x : Operand} {X : Value} {w : World} {d : Option Tmp} {ty : Nat} {ts : Array Nat} {pos : String} {af : Array Edge} {g : Option (Nat × Bool)} (hx : a.eval x = X) :
    (execOp a.eval ⟨d, .call { callee := .value (.func 11), args := #[x], argTypes := ts }, ty, pos, af, g⟩).run Try.prog w = .ok (.enter 11 #[X]) w := by
  simp only [execOp, resolve, List.map_toArray, List.map_cons, List.map_nil, hx]
  kernel_rfl
theorem exec_eqI {a : Act} {x y : Operand} {p q : Int} {w : World} {d : Option Tmp} {ty : Nat} {pos : String} {af : Array Edge} {g : Option (Nat × Bool)} (hx : a.eval x = .int .i64 p) (hy : a.eval y = .int .i64 q) (h : p = q) :
    (execOp a.eval ⟨d, .binOp .eql 3 x y 3, ty, pos, af, g⟩).run Try.prog w = .ok (.value (.bool true)) w := by
  subst h
  simp [execOp, hx, hy, eqGuard, binOp, Op.equal, Op.maxDepth, Op.equalIn, Op.intCmp, run_underlying Try.underlying3]
section
variable {w : World} {B b db r c : Nat} {G G' : List Guest} {al ar : List Nat} {P : PS} {R : RS}
theorem Duo.guests (h : Duo w B G b db r c al ar P R) (hs : ∀ x ∈ G', x ∈ G) : Duo w B G' b db r c al ar P R := { h with g := fun x hx => h.g x (hs x hx) }
theorem Duo.puse (h : Duo w B G b db r c al ar P R) {q : Nat} (n m : Int) (hq : ((q, [.int .i64 n, .int .i64 m], 3) : Guest) ∈ G) : Calls Try.prog 39 #[.pointer (some ⟨b, 0, none⟩), .slice (some ⟨q, 0, none⟩) 2 2] w (DidP w B b db al (.int .i64 (P.use2 n m).1) (P.use2 n m).2) := by
  have c0 := h.xc hq (j := 0) rfl
  have c1 := h.xc hq (j := 1) rfl
  have hn := (h.g _ hq).2.1
  obtain ⟨gs, mb, own, hp, rfl⟩ := h.p
  exact use2_at hp q n m c0 c1 (fun e => hn (by simp [e]))
theorem Duo.ruse (h : Duo w B G b db r c al ar P R) {q : Nat} (n m : Int) (hq : ((q, [.int .i64 n, .int .i64 m], 3) : Guest) ∈ G) : Calls Try.prog 58 #[.pointer (some ⟨r, 0, none⟩), .slice (some ⟨q, 0, none⟩) 2 2] w (DidR w B r c ar (.int .i64 (R.use [n, m]).1) (R.use [n, m]).2) := by
  have c0 := h.xc hq (j := 0) rfl
  have c1 := h.xc hq (j := 1) rfl
  have hn := (h.g _ hq).2.2
  obtain ⟨gi, gf, pv, own, hp, rfl⟩ := h.r
  exact ruse_at hp [n, m] q 2 (by simp) (fun j hj => by
    rcases j with _ | _ | j
    · exact c0
    · exact c1
    · simp at hj; try omega) (fun e => hn (by simp [rall, e]))
end

set_option maxRecDepth 100000 in
set_option maxHeartbeats 4000000 in
theorem do_use {w : World} {B xb b db r c k : Nat} {al ar : List Nat} {P : PS} {R : RS} (h : Duo w B [(xb, [.pointer (some ⟨db, 0, none⟩), .pointer (some ⟨b, 0, none⟩), .pointer (some ⟨c, 0, none⟩), .pointer (some ⟨r, 0, none⟩)], 39)] b db r c al ar P R) (hsim : Sim P R) (hlim : Lim P k) (hk : k ≤ 60) (kind n m : Int) (s : ByteArray) (hs : s.size ≤ maxLen) (hn : -9223372036854775808 ≤ n ∧ n ≤ 9223372036854775807) (ka : Option Addr) (klen kcap : Nat) (hkd : kind = 7) :
    Calls Try.prog 23 #[.pointer (some ⟨xb, 0, none⟩), .agg #[.int .i64 kind, .int .i64 n, .int .i64 m, .string s, .slice ka klen kcap]] w (DoP w B xb b db r c (k + 1)) := by
  have hst : P.D.steps < 1000 ∧ P.D.steps + 3 ≤ 1000 := by have := hlim.st; omega
  have hwt : P.D.waits.length < 200 := by have := hlim.wt; omega
  have hpn : P.pins.length ≤ 1000 := by have := hlim.pn; omega
  have hpm : P.pm ≤ 1000 := by have := hlim.pm; omega
  have hRD := hsim.D
  have hRp := hsim.pins
  obtain ⟨hst1, hst2⟩ := hst
  have e0 : (kind == 0) = false := by simp [hkd]
  have e1 : (kind == 1) = false := by simp [hkd]
  have e2 : (kind == 2) = false := by simp [hkd]
  have e3 : (kind == 3) = false := by simp [hkd]
  have e4 : (kind == 4) = false := by simp [hkd]
  have e5 : (kind == 5) = false := by simp [hkd]
  have e6 : (kind == 6) = false := by simp [hkd]
  have e7 : (kind == 7) = true := by simp [hkd]
  clear hkd
  have h1 := h.box [.int .i64 kind, .int .i64 n, .int .i64 m, .string s, .slice ka klen kcap] 42
  have hb1 : Below w.heap.size w (w.alloc (.cells #[.int .i64 kind, .int .i64 n, .int .i64 m, .string s, .slice ka klen kcap] 42)) := (Below.refl _ _).alloc (Nat.le_refl _) _
  have HB1 := hid (hb1.mono h.hB)
  have HSim := hid hsim
  have HLim := hid hlim
  clear h hb1 hsim hlim
  have H1 := hid (show Duo (w.alloc (.cells #[.int .i64 kind, .int .i64 n, .int .i64 m, .string s, .slice ka klen kcap] 42)) B [(w.heap.size, [.int .i64 kind, .int .i64 n, .int .i64 m, .string s, .slice ka klen kcap], 42), (xb, [.pointer (some ⟨db, 0, none⟩), .pointer (some ⟨b, 0, none⟩), .pointer (some ⟨c, 0, none⟩), .pointer (some ⟨r, 0, none⟩)], 39)] b db r c al ar P R from h1)
  clear h1
  go_enter Try.func23, Try.ntmps23
  go_wp2_with fail
  generalize w.alloc (.cells #[.int .i64 kind, .int .i64 n, .int .i64 m, .string s, .slice ka klen kcap] 42) = W at *
  generalize w.heap.size = ab at *
  have hBW : B ≤ W.heap.size := H1.out.hB
  have Hd := hid (H1.out.later ((Below.refl W.heap.size W).drew))
  have HBd := hid (HB1.out.trans (((Below.refl W.heap.size W).drew).mono hBW))
  obtain ⟨hs1, hs2⟩ := HSim.out.use n m
  have HUse := hid hs1
  have HS2 := hid hs2
  have HLm := hid (HLim.out.use n m)
  clear hs1 hs2 hRD hRp
  have x0 := H1.out.xc (k := xb) two_mem.2 (j := 0) rfl
  have x1 := H1.out.xc (k := xb) two_mem.2 (j := 1) rfl
  have x2 := H1.out.xc (k := xb) two_mem.2 (j := 2) rfl
  have x3 := H1.out.xc (k := xb) two_mem.2 (j := 3) rfl
  have a0 := H1.out.xc (k := ab) two_mem.1 (j := 0) rfl
  have a1 := H1.out.xc (k := ab) two_mem.1 (j := 1) rfl
  have a2 := H1.out.xc (k := ab) two_mem.1 (j := 2) rfl
  have a3 := H1.out.xc (k := ab) two_mem.1 (j := 3) rfl
  have a4 := H1.out.xc (k := ab) two_mem.1 (j := 4) rfl
  go_wp2_with fail
  clear x0 x1 x2 x3 a0 a1 a2 a3 a4
  have HS0 : Sx xb ab db b c r kind n m s ka klen kcap W.drew := ⟨Hd.out.xc (k := xb) (cs := [.pointer (some ⟨db, 0, none⟩), .pointer (some ⟨b, 0, none⟩), .pointer (some ⟨c, 0, none⟩), .pointer (some ⟨r, 0, none⟩)]) (t := 39) (by simp) (j := 0) rfl, Hd.out.xc (k := xb) (cs := [.pointer (some ⟨db, 0, none⟩), .pointer (some ⟨b, 0, none⟩), .pointer (some ⟨c, 0, none⟩), .pointer (some ⟨r, 0, none⟩)]) (t := 39) (by simp) (j := 1) rfl, Hd.out.xc (k := xb) (cs := [.pointer (some ⟨db, 0, none⟩), .pointer (some ⟨b, 0, none⟩), .pointer (some ⟨c, 0, none⟩), .pointer (some ⟨r, 0, none⟩)]) (t := 39) (by simp) (j := 2) rfl, Hd.out.xc (k := xb) (cs := [.pointer (some ⟨db, 0, none⟩), .pointer (some ⟨b, 0, none⟩), .pointer (some ⟨c, 0, none⟩), .pointer (some ⟨r, 0, none⟩)]) (t := 39) (by simp) (j := 3) rfl, Hd.out.xc (k := ab) (cs := [.int .i64 kind, .int .i64 n, .int .i64 m, .string s, .slice ka klen kcap]) (t := 42) (by simp) (j := 0) rfl, Hd.out.xc (k := ab) (cs := [.int .i64 kind, .int .i64 n, .int .i64 m, .string s, .slice ka klen kcap]) (t := 42) (by simp) (j := 1) rfl, Hd.out.xc (k := ab) (cs := [.int .i64 kind, .int .i64 n, .int .i64 m, .string s, .slice ka klen kcap]) (t := 42) (by simp) (j := 2) rfl, Hd.out.xc (k := ab) (cs := [.int .i64 kind, .int .i64 n, .int .i64 m, .string s, .slice ka klen kcap]) (t := 42) (by simp) (j := 3) rfl, Hd.out.xc (k := ab) (cs := [.int .i64 kind, .int .i64 n, .int .i64 m, .string s, .slice ka klen kcap]) (t := 42) (by simp) (j := 4) rfl⟩
  refine wp_region_held_drew (S := Sx xb ab db b c r kind n m s ka klen kcap) (by kernel_rfl) HS0 ?_
  intro _
  refine anyH_take 0 ⟨some 171, .move (.tmp 0), _, _, _, none⟩ (.pointer (some ⟨xb, 0, none⟩)) rfl rfl (by kernel_rfl) (by kernel_rfl) (by kernel_rfl) (fun _ _ _ h => h) (fun w hS => rfl) HS0 ?_
  simp only [Act.put, List.setIfInBounds_toArray, List.set_cons_zero, List.set_cons_succ]
  refine anyH_take 1 ⟨some 172, .nilCheck (.tmp 171), _, _, _, none⟩ (.pointer (some ⟨xb, 0, none⟩)) rfl rfl (by kernel_rfl) (by kernel_rfl) (by kernel_rfl) (fun _ _ _ h => h) (fun w hS => rfl) HS0 ?_
  simp only [Act.put, List.setIfInBounds_toArray, List.set_cons_zero, List.set_cons_succ]
  refine anyH_take 2 ⟨some 173, .fieldAddr 39 (.tmp 172) 1, _, _, _, none⟩ (.pointer (some ⟨xb, 1, none⟩)) rfl rfl (by kernel_rfl) (by kernel_rfl) (by kernel_rfl) (fun _ _ _ h => h) (fun w hS => exec_v (field39_1 xb w)) HS0 ?_
  simp only [Act.put, List.setIfInBounds_toArray, List.set_cons_zero, List.set_cons_succ]
  refine anyH_take 3 ⟨some 174, .load 36 (.tmp 173), _, _, _, none⟩ (.pointer (some ⟨b, 0, none⟩)) rfl rfl (by kernel_rfl) (by kernel_rfl) (by kernel_rfl) (fun _ _ _ h => h) (fun w hS => exec_v (load36x hS.2.1)) HS0 ?_
  simp only [Act.put, List.setIfInBounds_toArray, List.set_cons_zero, List.set_cons_succ]
  refine anyH_take 4 ⟨some 175, .fieldAddr 42 (.tmp 3) 1, _, _, _, none⟩ (.pointer (some ⟨ab, 1, none⟩)) rfl rfl (by kernel_rfl) (by kernel_rfl) (by kernel_rfl) (fun _ _ _ h => h) (fun w hS => exec_v (field42_1 ab w)) HS0 ?_
  simp only [Act.put, List.setIfInBounds_toArray, List.set_cons_zero, List.set_cons_succ]
  refine anyH_take 5 ⟨some 176, .load 3 (.tmp 175), _, _, _, none⟩ (.int .i64 n) rfl rfl (by kernel_rfl) (by kernel_rfl) (by kernel_rfl) (fun _ _ _ h => h) (fun w hS => exec_v (load3x hS.2.2.2.2.2.1)) HS0 ?_
  simp only [Act.put, List.setIfInBounds_toArray, List.set_cons_zero, List.set_cons_succ]
  refine anyH_take 6 ⟨some 177, .fieldAddr 42 (.tmp 3) 2, _, _, _, none⟩ (.pointer (some ⟨ab, 2, none⟩)) rfl rfl (by kernel_rfl) (by kernel_rfl) (by kernel_rfl) (fun _ _ _ h => h) (fun w hS => exec_v (field42_2 ab w)) HS0 ?_
  simp only [Act.put, List.setIfInBounds_toArray, List.set_cons_zero, List.set_cons_succ]
  refine anyH_take 7 ⟨some 178, .load 3 (.tmp 177), _, _, _, none⟩ (.int .i64 m) rfl rfl (by kernel_rfl) (by kernel_rfl) (by kernel_rfl) (fun _ _ _ h => h) (fun w hS => exec_v (load3x hS.2.2.2.2.2.2.1)) HS0 ?_
  simp only [Act.put, List.setIfInBounds_toArray, List.set_cons_zero, List.set_cons_succ]
  refine anyH_take 11 ⟨some 182, .move (.tmp 0), _, _, _, none⟩ (.pointer (some ⟨xb, 0, none⟩)) rfl rfl (by kernel_rfl) (by kernel_rfl) (by kernel_rfl) (fun _ _ _ h => h) (fun w hS => rfl) HS0 ?_
  simp only [Act.put, List.setIfInBounds_toArray, List.set_cons_zero, List.set_cons_succ]
  refine anyH_take 12 ⟨some 183, .nilCheck (.tmp 182), _, _, _, none⟩ (.pointer (some ⟨xb, 0, none⟩)) rfl rfl (by kernel_rfl) (by kernel_rfl) (by kernel_rfl) (fun _ _ _ h => h) (fun w hS => rfl) HS0 ?_
  simp only [Act.put, List.setIfInBounds_toArray, List.set_cons_zero, List.set_cons_succ]
  refine anyH_take 13 ⟨some 184, .fieldAddr 39 (.tmp 183) 3, _, _, _, none⟩ (.pointer (some ⟨xb, 3, none⟩)) rfl rfl (by kernel_rfl) (by kernel_rfl) (by kernel_rfl) (fun _ _ _ h => h) (fun w hS => exec_v (field39_3 xb w)) HS0 ?_
  simp only [Act.put, List.setIfInBounds_toArray, List.set_cons_zero, List.set_cons_succ]
  refine anyH_take 14 ⟨some 185, .load 37 (.tmp 184), _, _, _, none⟩ (.pointer (some ⟨r, 0, none⟩)) rfl rfl (by kernel_rfl) (by kernel_rfl) (by kernel_rfl) (fun _ _ _ h => h) (fun w hS => exec_v (load37x hS.2.2.2.1)) HS0 ?_
  simp only [Act.put, List.setIfInBounds_toArray, List.set_cons_zero, List.set_cons_succ]
  refine anyH_take 15 ⟨some 186, .fieldAddr 42 (.tmp 3) 1, _, _, _, none⟩ (.pointer (some ⟨ab, 1, none⟩)) rfl rfl (by kernel_rfl) (by kernel_rfl) (by kernel_rfl) (fun _ _ _ h => h) (fun w hS => exec_v (field42_1 ab w)) HS0 ?_
  simp only [Act.put, List.setIfInBounds_toArray, List.set_cons_zero, List.set_cons_succ]
  refine anyH_take 16 ⟨some 187, .load 3 (.tmp 186), _, _, _, none⟩ (.int .i64 n) rfl rfl (by kernel_rfl) (by kernel_rfl) (by kernel_rfl) (fun _ _ _ h => h) (fun w hS => exec_v (load3x hS.2.2.2.2.2.1)) HS0 ?_
  simp only [Act.put, List.setIfInBounds_toArray, List.set_cons_zero, List.set_cons_succ]
  refine anyH_take 17 ⟨some 188, .fieldAddr 42 (.tmp 3) 2, _, _, _, none⟩ (.pointer (some ⟨ab, 2, none⟩)) rfl rfl (by kernel_rfl) (by kernel_rfl) (by kernel_rfl) (fun _ _ _ h => h) (fun w hS => exec_v (field42_2 ab w)) HS0 ?_
  simp only [Act.put, List.setIfInBounds_toArray, List.set_cons_zero, List.set_cons_succ]
  refine anyH_take 18 ⟨some 189, .load 3 (.tmp 188), _, _, _, none⟩ (.int .i64 m) rfl rfl (by kernel_rfl) (by kernel_rfl) (by kernel_rfl) (fun _ _ _ h => h) (fun w hS => exec_v (load3x hS.2.2.2.2.2.2.1)) HS0 ?_
  simp only [Act.put, List.setIfInBounds_toArray, List.set_cons_zero, List.set_cons_succ]
  refine anyH_two 8 19 (by kernel_rfl) ?_ ?_
  · have hd1 := Hd.out.box [.int .i64 n, .int .i64 m] 3
    have hbd1 := bs51_2 n m W.drew
    obtain ⟨q1, hq1⟩ : ∃ q, q = W.drew.heap.size := ⟨_, rfl⟩
    obtain ⟨wb1, hwb1⟩ : ∃ w', w' = W.drew.alloc (.cells #[.int .i64 n, .int .i64 m] 3) := ⟨_, rfl⟩
    have hbb1 : Below B w wb1 := by rw [hwb1]; exact HBd.out.trans (((Below.refl _ W.drew).alloc (Nat.le_refl _) _).mono Hd.out.hB)
    rw [← hq1, ← hwb1] at hbd1
    change Duo (W.drew.alloc (.cells #[.int .i64 n, .int .i64 m] 3)) _ ((W.drew.heap.size, _, _) :: _) _ _ _ _ _ _ _ _ at hd1
    rw [← hwb1, ← hq1] at hd1
    have hS1 : Sx xb ab db b c r kind n m s ka klen kcap wb1 := ⟨hd1.xc (k := xb) (cs := [.pointer (some ⟨db, 0, none⟩), .pointer (some ⟨b, 0, none⟩), .pointer (some ⟨c, 0, none⟩), .pointer (some ⟨r, 0, none⟩)]) (t := 39) (by simp) (j := 0) rfl, hd1.xc (k := xb) (cs := [.pointer (some ⟨db, 0, none⟩), .pointer (some ⟨b, 0, none⟩), .pointer (some ⟨c, 0, none⟩), .pointer (some ⟨r, 0, none⟩)]) (t := 39) (by simp) (j := 1) rfl, hd1.xc (k := xb) (cs := [.pointer (some ⟨db, 0, none⟩), .pointer (some ⟨b, 0, none⟩), .pointer (some ⟨c, 0, none⟩), .pointer (some ⟨r, 0, none⟩)]) (t := 39) (by simp) (j := 2) rfl, hd1.xc (k := xb) (cs := [.pointer (some ⟨db, 0, none⟩), .pointer (some ⟨b, 0, none⟩), .pointer (some ⟨c, 0, none⟩), .pointer (some ⟨r, 0, none⟩)]) (t := 39) (by simp) (j := 3) rfl, hd1.xc (k := ab) (cs := [.int .i64 kind, .int .i64 n, .int .i64 m, .string s, .slice ka klen kcap]) (t := 42) (by simp) (j := 0) rfl, hd1.xc (k := ab) (cs := [.int .i64 kind, .int .i64 n, .int .i64 m, .string s, .slice ka klen kcap]) (t := 42) (by simp) (j := 1) rfl, hd1.xc (k := ab) (cs := [.int .i64 kind, .int .i64 n, .int .i64 m, .string s, .slice ka klen kcap]) (t := 42) (by simp) (j := 2) rfl, hd1.xc (k := ab) (cs := [.int .i64 kind, .int .i64 n, .int .i64 m, .string s, .slice ka klen kcap]) (t := 42) (by simp) (j := 3) rfl, hd1.xc (k := ab) (cs := [.int .i64 kind, .int .i64 n, .int .i64 m, .string s, .slice ka klen kcap]) (t := 42) (by simp) (j := 4) rfl⟩
    refine wpOp_run (o := ⟨some 179, .buildSlice 51 2 #[(0, .tmp 176), (1, .tmp 178)], _, _, _, none⟩) rfl rfl (exec_lay2 rfl rfl hbd1) ⟨hS1, ?_⟩
    simp only [Act.put, List.setIfInBounds_toArray, List.set_cons_zero, List.set_cons_succ]
    refine anyH_two 9 19 (by kernel_rfl) ?_ ?_
    · refine wpOp_callW (o := ⟨some 180, .call { callee := .value (.func 39), args := #[.tmp 174, .tmp 179], argTypes := #[36, 51] }, _, _, _, none⟩) rfl rfl (exec_call2 rfl rfl (.inl rfl)) ?_
      refine (hd1.puse (q := q1) n m (by simp)).mono ?_
      intro e wc2 hdd2
      obtain ⟨rfl, l2, hd2, hB2⟩ := hd1.left hdd2
      have hbb2 := hbb1.trans hB2
      have hS2 : Sx xb ab db b c r kind n m s ka klen kcap wc2 := ⟨hd2.xc (k := xb) (cs := [.pointer (some ⟨db, 0, none⟩), .pointer (some ⟨b, 0, none⟩), .pointer (some ⟨c, 0, none⟩), .pointer (some ⟨r, 0, none⟩)]) (t := 39) (by simp) (j := 0) rfl, hd2.xc (k := xb) (cs := [.pointer (some ⟨db, 0, none⟩), .pointer (some ⟨b, 0, none⟩), .pointer (some ⟨c, 0, none⟩), .pointer (some ⟨r, 0, none⟩)]) (t := 39) (by simp) (j := 1) rfl, hd2.xc (k := xb) (cs := [.pointer (some ⟨db, 0, none⟩), .pointer (some ⟨b, 0, none⟩), .pointer (some ⟨c, 0, none⟩), .pointer (some ⟨r, 0, none⟩)]) (t := 39) (by simp) (j := 2) rfl, hd2.xc (k := xb) (cs := [.pointer (some ⟨db, 0, none⟩), .pointer (some ⟨b, 0, none⟩), .pointer (some ⟨c, 0, none⟩), .pointer (some ⟨r, 0, none⟩)]) (t := 39) (by simp) (j := 3) rfl, hd2.xc (k := ab) (cs := [.int .i64 kind, .int .i64 n, .int .i64 m, .string s, .slice ka klen kcap]) (t := 42) (by simp) (j := 0) rfl, hd2.xc (k := ab) (cs := [.int .i64 kind, .int .i64 n, .int .i64 m, .string s, .slice ka klen kcap]) (t := 42) (by simp) (j := 1) rfl, hd2.xc (k := ab) (cs := [.int .i64 kind, .int .i64 n, .int .i64 m, .string s, .slice ka klen kcap]) (t := 42) (by simp) (j := 2) rfl, hd2.xc (k := ab) (cs := [.int .i64 kind, .int .i64 n, .int .i64 m, .string s, .slice ka klen kcap]) (t := 42) (by simp) (j := 3) rfl, hd2.xc (k := ab) (cs := [.int .i64 kind, .int .i64 n, .int .i64 m, .string s, .slice ka klen kcap]) (t := 42) (by simp) (j := 4) rfl⟩
      refine ⟨_, rfl, hS2, ?_⟩
      simp only [Act.put, List.setIfInBounds_toArray, List.set_cons_zero, List.set_cons_succ]
      refine anyH_two 10 19 (by kernel_rfl) ?_ ?_
      · refine wpOp_callW (o := ⟨some 181, .call { callee := .value (.func 11), args := #[.tmp 180], argTypes := #[24] }, _, _, _, none⟩) rfl rfl (exec_call1 rfl) ?_
        refine (no_any _ _).mono ?_
        rintro e wn3 ⟨rfl, hwn3⟩
        have hwm3 := hwn3.symm
        subst hwm3
        refine ⟨_, rfl, ⟨hd2.xc (k := xb) (cs := [.pointer (some ⟨db, 0, none⟩), .pointer (some ⟨b, 0, none⟩), .pointer (some ⟨c, 0, none⟩), .pointer (some ⟨r, 0, none⟩)]) (t := 39) (by simp) (j := 0) rfl, hd2.xc (k := xb) (cs := [.pointer (some ⟨db, 0, none⟩), .pointer (some ⟨b, 0, none⟩), .pointer (some ⟨c, 0, none⟩), .pointer (some ⟨r, 0, none⟩)]) (t := 39) (by simp) (j := 1) rfl, hd2.xc (k := xb) (cs := [.pointer (some ⟨db, 0, none⟩), .pointer (some ⟨b, 0, none⟩), .pointer (some ⟨c, 0, none⟩), .pointer (some ⟨r, 0, none⟩)]) (t := 39) (by simp) (j := 2) rfl, hd2.xc (k := xb) (cs := [.pointer (some ⟨db, 0, none⟩), .pointer (some ⟨b, 0, none⟩), .pointer (some ⟨c, 0, none⟩), .pointer (some ⟨r, 0, none⟩)]) (t := 39) (by simp) (j := 3) rfl, hd2.xc (k := ab) (cs := [.int .i64 kind, .int .i64 n, .int .i64 m, .string s, .slice ka klen kcap]) (t := 42) (by simp) (j := 0) rfl, hd2.xc (k := ab) (cs := [.int .i64 kind, .int .i64 n, .int .i64 m, .string s, .slice ka klen kcap]) (t := 42) (by simp) (j := 1) rfl, hd2.xc (k := ab) (cs := [.int .i64 kind, .int .i64 n, .int .i64 m, .string s, .slice ka klen kcap]) (t := 42) (by simp) (j := 2) rfl, hd2.xc (k := ab) (cs := [.int .i64 kind, .int .i64 n, .int .i64 m, .string s, .slice ka klen kcap]) (t := 42) (by simp) (j := 3) rfl, hd2.xc (k := ab) (cs := [.int .i64 kind, .int .i64 n, .int .i64 m, .string s, .slice ka klen kcap]) (t := 42) (by simp) (j := 4) rfl⟩, ?_⟩
        simp only [Act.put, List.setIfInBounds_toArray, List.set_cons_zero, List.set_cons_succ]
        have hd4 := hd2.box [.int .i64 n, .int .i64 m] 3
        have hbd4 := bs51_2 n m wc2
        obtain ⟨q4, hq4⟩ : ∃ q, q = wc2.heap.size := ⟨_, rfl⟩
        obtain ⟨wb4, hwb4⟩ : ∃ w', w' = wc2.alloc (.cells #[.int .i64 n, .int .i64 m] 3) := ⟨_, rfl⟩
        have hbb4 : Below B w wb4 := by rw [hwb4]; exact hbb2.trans (((Below.refl _ wc2).alloc (Nat.le_refl _) _).mono hd2.hB)
        rw [← hq4, ← hwb4] at hbd4
        change Duo (wc2.alloc (.cells #[.int .i64 n, .int .i64 m] 3)) _ ((wc2.heap.size, _, _) :: _) _ _ _ _ _ _ _ _ at hd4
        rw [← hwb4, ← hq4] at hd4
        have hS4 : Sx xb ab db b c r kind n m s ka klen kcap wb4 := ⟨hd4.xc (k := xb) (cs := [.pointer (some ⟨db, 0, none⟩), .pointer (some ⟨b, 0, none⟩), .pointer (some ⟨c, 0, none⟩), .pointer (some ⟨r, 0, none⟩)]) (t := 39) (by simp) (j := 0) rfl, hd4.xc (k := xb) (cs := [.pointer (some ⟨db, 0, none⟩), .pointer (some ⟨b, 0, none⟩), .pointer (some ⟨c, 0, none⟩), .pointer (some ⟨r, 0, none⟩)]) (t := 39) (by simp) (j := 1) rfl, hd4.xc (k := xb) (cs := [.pointer (some ⟨db, 0, none⟩), .pointer (some ⟨b, 0, none⟩), .pointer (some ⟨c, 0, none⟩), .pointer (some ⟨r, 0, none⟩)]) (t := 39) (by simp) (j := 2) rfl, hd4.xc (k := xb) (cs := [.pointer (some ⟨db, 0, none⟩), .pointer (some ⟨b, 0, none⟩), .pointer (some ⟨c, 0, none⟩), .pointer (some ⟨r, 0, none⟩)]) (t := 39) (by simp) (j := 3) rfl, hd4.xc (k := ab) (cs := [.int .i64 kind, .int .i64 n, .int .i64 m, .string s, .slice ka klen kcap]) (t := 42) (by simp) (j := 0) rfl, hd4.xc (k := ab) (cs := [.int .i64 kind, .int .i64 n, .int .i64 m, .string s, .slice ka klen kcap]) (t := 42) (by simp) (j := 1) rfl, hd4.xc (k := ab) (cs := [.int .i64 kind, .int .i64 n, .int .i64 m, .string s, .slice ka klen kcap]) (t := 42) (by simp) (j := 2) rfl, hd4.xc (k := ab) (cs := [.int .i64 kind, .int .i64 n, .int .i64 m, .string s, .slice ka klen kcap]) (t := 42) (by simp) (j := 3) rfl, hd4.xc (k := ab) (cs := [.int .i64 kind, .int .i64 n, .int .i64 m, .string s, .slice ka klen kcap]) (t := 42) (by simp) (j := 4) rfl⟩
        refine anyH_one 19 ⟨some 190, .buildSlice 51 2 #[(0, .tmp 187), (1, .tmp 189)], _, _, _, none⟩ (.slice (some ⟨q4, 0, none⟩) 2 2) wb4 (by kernel_rfl) rfl rfl (exec_lay2 rfl rfl hbd4) hS4 ?_
        simp only [Act.put, List.setIfInBounds_toArray, List.set_cons_zero, List.set_cons_succ]
        refine anyH_callW 20 ⟨some 191, .call { callee := .value (.func 58), args := #[.tmp 185, .tmp 190], argTypes := #[37, 51] }, _, _, _, none⟩ 58 _ (by kernel_rfl) rfl rfl (exec_call2 rfl rfl (.inr rfl)) ?_
        refine (hd4.ruse (q := q4) n m (by simp)).mono ?_
        intro e wc5 hdd5
        obtain ⟨rfl, l5, hd5, hB5⟩ := hd4.right hdd5
        have hbb5 := hbb4.trans hB5
        have hS5 : Sx xb ab db b c r kind n m s ka klen kcap wc5 := ⟨hd5.xc (k := xb) (cs := [.pointer (some ⟨db, 0, none⟩), .pointer (some ⟨b, 0, none⟩), .pointer (some ⟨c, 0, none⟩), .pointer (some ⟨r, 0, none⟩)]) (t := 39) (by simp) (j := 0) rfl, hd5.xc (k := xb) (cs := [.pointer (some ⟨db, 0, none⟩), .pointer (some ⟨b, 0, none⟩), .pointer (some ⟨c, 0, none⟩), .pointer (some ⟨r, 0, none⟩)]) (t := 39) (by simp) (j := 1) rfl, hd5.xc (k := xb) (cs := [.pointer (some ⟨db, 0, none⟩), .pointer (some ⟨b, 0, none⟩), .pointer (some ⟨c, 0, none⟩), .pointer (some ⟨r, 0, none⟩)]) (t := 39) (by simp) (j := 2) rfl, hd5.xc (k := xb) (cs := [.pointer (some ⟨db, 0, none⟩), .pointer (some ⟨b, 0, none⟩), .pointer (some ⟨c, 0, none⟩), .pointer (some ⟨r, 0, none⟩)]) (t := 39) (by simp) (j := 3) rfl, hd5.xc (k := ab) (cs := [.int .i64 kind, .int .i64 n, .int .i64 m, .string s, .slice ka klen kcap]) (t := 42) (by simp) (j := 0) rfl, hd5.xc (k := ab) (cs := [.int .i64 kind, .int .i64 n, .int .i64 m, .string s, .slice ka klen kcap]) (t := 42) (by simp) (j := 1) rfl, hd5.xc (k := ab) (cs := [.int .i64 kind, .int .i64 n, .int .i64 m, .string s, .slice ka klen kcap]) (t := 42) (by simp) (j := 2) rfl, hd5.xc (k := ab) (cs := [.int .i64 kind, .int .i64 n, .int .i64 m, .string s, .slice ka klen kcap]) (t := 42) (by simp) (j := 3) rfl, hd5.xc (k := ab) (cs := [.int .i64 kind, .int .i64 n, .int .i64 m, .string s, .slice ka klen kcap]) (t := 42) (by simp) (j := 4) rfl⟩
        refine ⟨_, rfl, hS5, ?_⟩
        simp only [Act.put, List.setIfInBounds_toArray, List.set_cons_zero, List.set_cons_succ]
        refine anyH_one 21 ⟨some 192, .binOp .eql 3 (.tmp 181) (.tmp 191) 3, _, _, _, none⟩ (.bool true) _ (by kernel_rfl) rfl rfl (exec_eqI rfl rfl HUse.out) hS5 ?_
        simp only [Act.put, List.setIfInBounds_toArray, List.set_cons_zero, List.set_cons_succ]
        refine anyH_one 22 ⟨some 4, .assign (.tmp 192), _, _, _, none⟩ (.bool true) _ (by kernel_rfl) rfl rfl rfl hS5 ?_
        simp only [Act.put, List.setIfInBounds_toArray, List.set_cons_zero, List.set_cons_succ]
        refine wpAnyH_done (by kernel_rfl) ?_ _
        have HF := hid hd5
        have HBF := hid hbb5
        go_wp2_with fail
        go_ret
        exact ⟨rfl, _, _, _, _, HF.out.guests (by simp), HS2.out, HLm.out, HBF.out⟩

      · have hd6 := hd2.box [.int .i64 n, .int .i64 m] 3
        have hbd6 := bs51_2 n m wc2
        obtain ⟨q6, hq6⟩ : ∃ q, q = wc2.heap.size := ⟨_, rfl⟩
        obtain ⟨wb6, hwb6⟩ : ∃ w', w' = wc2.alloc (.cells #[.int .i64 n, .int .i64 m] 3) := ⟨_, rfl⟩
        have hbb6 : Below B w wb6 := by rw [hwb6]; exact hbb2.trans (((Below.refl _ wc2).alloc (Nat.le_refl _) _).mono hd2.hB)
        rw [← hq6, ← hwb6] at hbd6
        change Duo (wc2.alloc (.cells #[.int .i64 n, .int .i64 m] 3)) _ ((wc2.heap.size, _, _) :: _) _ _ _ _ _ _ _ _ at hd6
        rw [← hwb6, ← hq6] at hd6
        have hS6 : Sx xb ab db b c r kind n m s ka klen kcap wb6 := ⟨hd6.xc (k := xb) (cs := [.pointer (some ⟨db, 0, none⟩), .pointer (some ⟨b, 0, none⟩), .pointer (some ⟨c, 0, none⟩), .pointer (some ⟨r, 0, none⟩)]) (t := 39) (by simp) (j := 0) rfl, hd6.xc (k := xb) (cs := [.pointer (some ⟨db, 0, none⟩), .pointer (some ⟨b, 0, none⟩), .pointer (some ⟨c, 0, none⟩), .pointer (some ⟨r, 0, none⟩)]) (t := 39) (by simp) (j := 1) rfl, hd6.xc (k := xb) (cs := [.pointer (some ⟨db, 0, none⟩), .pointer (some ⟨b, 0, none⟩), .pointer (some ⟨c, 0, none⟩), .pointer (some ⟨r, 0, none⟩)]) (t := 39) (by simp) (j := 2) rfl, hd6.xc (k := xb) (cs := [.pointer (some ⟨db, 0, none⟩), .pointer (some ⟨b, 0, none⟩), .pointer (some ⟨c, 0, none⟩), .pointer (some ⟨r, 0, none⟩)]) (t := 39) (by simp) (j := 3) rfl, hd6.xc (k := ab) (cs := [.int .i64 kind, .int .i64 n, .int .i64 m, .string s, .slice ka klen kcap]) (t := 42) (by simp) (j := 0) rfl, hd6.xc (k := ab) (cs := [.int .i64 kind, .int .i64 n, .int .i64 m, .string s, .slice ka klen kcap]) (t := 42) (by simp) (j := 1) rfl, hd6.xc (k := ab) (cs := [.int .i64 kind, .int .i64 n, .int .i64 m, .string s, .slice ka klen kcap]) (t := 42) (by simp) (j := 2) rfl, hd6.xc (k := ab) (cs := [.int .i64 kind, .int .i64 n, .int .i64 m, .string s, .slice ka klen kcap]) (t := 42) (by simp) (j := 3) rfl, hd6.xc (k := ab) (cs := [.int .i64 kind, .int .i64 n, .int .i64 m, .string s, .slice ka klen kcap]) (t := 42) (by simp) (j := 4) rfl⟩
        refine wpOp_run (o := ⟨some 190, .buildSlice 51 2 #[(0, .tmp 187), (1, .tmp 189)], _, _, _, none⟩) rfl rfl (exec_lay2 rfl rfl hbd6) ⟨hS6, ?_⟩
        simp only [Act.put, List.setIfInBounds_toArray, List.set_cons_zero, List.set_cons_succ]
        refine anyH_callW 10 ⟨some 181, .call { callee := .value (.func 11), args := #[.tmp 180], argTypes := #[24] }, _, _, _, none⟩ 11 _ (by kernel_rfl) rfl rfl (exec_call1 rfl) ?_
        refine (no_any _ _).mono ?_
        rintro e wn7 ⟨rfl, hwn7⟩
        have hwm7 := hwn7.symm
        subst hwm7
        refine ⟨_, rfl, ⟨hd6.xc (k := xb) (cs := [.pointer (some ⟨db, 0, none⟩), .pointer (some ⟨b, 0, none⟩), .pointer (some ⟨c, 0, none⟩), .pointer (some ⟨r, 0, none⟩)]) (t := 39) (by simp) (j := 0) rfl, hd6.xc (k := xb) (cs := [.pointer (some ⟨db, 0, none⟩), .pointer (some ⟨b, 0, none⟩), .pointer (some ⟨c, 0, none⟩), .pointer (some ⟨r, 0, none⟩)]) (t := 39) (by simp) (j := 1) rfl, hd6.xc (k := xb) (cs := [.pointer (some ⟨db, 0, none⟩), .pointer (some ⟨b, 0, none⟩), .pointer (some ⟨c, 0, none⟩), .pointer (some ⟨r, 0, none⟩)]) (t := 39) (by simp) (j := 2) rfl, hd6.xc (k := xb) (cs := [.pointer (some ⟨db, 0, none⟩), .pointer (some ⟨b, 0, none⟩), .pointer (some ⟨c, 0, none⟩), .pointer (some ⟨r, 0, none⟩)]) (t := 39) (by simp) (j := 3) rfl, hd6.xc (k := ab) (cs := [.int .i64 kind, .int .i64 n, .int .i64 m, .string s, .slice ka klen kcap]) (t := 42) (by simp) (j := 0) rfl, hd6.xc (k := ab) (cs := [.int .i64 kind, .int .i64 n, .int .i64 m, .string s, .slice ka klen kcap]) (t := 42) (by simp) (j := 1) rfl, hd6.xc (k := ab) (cs := [.int .i64 kind, .int .i64 n, .int .i64 m, .string s, .slice ka klen kcap]) (t := 42) (by simp) (j := 2) rfl, hd6.xc (k := ab) (cs := [.int .i64 kind, .int .i64 n, .int .i64 m, .string s, .slice ka klen kcap]) (t := 42) (by simp) (j := 3) rfl, hd6.xc (k := ab) (cs := [.int .i64 kind, .int .i64 n, .int .i64 m, .string s, .slice ka klen kcap]) (t := 42) (by simp) (j := 4) rfl⟩, ?_⟩
        simp only [Act.put, List.setIfInBounds_toArray, List.set_cons_zero, List.set_cons_succ]
        refine anyH_callW 20 ⟨some 191, .call { callee := .value (.func 58), args := #[.tmp 185, .tmp 190], argTypes := #[37, 51] }, _, _, _, none⟩ 58 _ (by kernel_rfl) rfl rfl (exec_call2 rfl rfl (.inr rfl)) ?_
        refine (hd6.ruse (q := q6) n m (by simp)).mono ?_
        intro e wc8 hdd8
        obtain ⟨rfl, l8, hd8, hB8⟩ := hd6.right hdd8
        have hbb8 := hbb6.trans hB8
        have hS8 : Sx xb ab db b c r kind n m s ka klen kcap wc8 := ⟨hd8.xc (k := xb) (cs := [.pointer (some ⟨db, 0, none⟩), .pointer (some ⟨b, 0, none⟩), .pointer (some ⟨c, 0, none⟩), .pointer (some ⟨r, 0, none⟩)]) (t := 39) (by simp) (j := 0) rfl, hd8.xc (k := xb) (cs := [.pointer (some ⟨db, 0, none⟩), .pointer (some ⟨b, 0, none⟩), .pointer (some ⟨c, 0, none⟩), .pointer (some ⟨r, 0, none⟩)]) (t := 39) (by simp) (j := 1) rfl, hd8.xc (k := xb) (cs := [.pointer (some ⟨db, 0, none⟩), .pointer (some ⟨b, 0, none⟩), .pointer (some ⟨c, 0, none⟩), .pointer (some ⟨r, 0, none⟩)]) (t := 39) (by simp) (j := 2) rfl, hd8.xc (k := xb) (cs := [.pointer (some ⟨db, 0, none⟩), .pointer (some ⟨b, 0, none⟩), .pointer (some ⟨c, 0, none⟩), .pointer (some ⟨r, 0, none⟩)]) (t := 39) (by simp) (j := 3) rfl, hd8.xc (k := ab) (cs := [.int .i64 kind, .int .i64 n, .int .i64 m, .string s, .slice ka klen kcap]) (t := 42) (by simp) (j := 0) rfl, hd8.xc (k := ab) (cs := [.int .i64 kind, .int .i64 n, .int .i64 m, .string s, .slice ka klen kcap]) (t := 42) (by simp) (j := 1) rfl, hd8.xc (k := ab) (cs := [.int .i64 kind, .int .i64 n, .int .i64 m, .string s, .slice ka klen kcap]) (t := 42) (by simp) (j := 2) rfl, hd8.xc (k := ab) (cs := [.int .i64 kind, .int .i64 n, .int .i64 m, .string s, .slice ka klen kcap]) (t := 42) (by simp) (j := 3) rfl, hd8.xc (k := ab) (cs := [.int .i64 kind, .int .i64 n, .int .i64 m, .string s, .slice ka klen kcap]) (t := 42) (by simp) (j := 4) rfl⟩
        refine ⟨_, rfl, hS8, ?_⟩
        simp only [Act.put, List.setIfInBounds_toArray, List.set_cons_zero, List.set_cons_succ]
        refine anyH_one 21 ⟨some 192, .binOp .eql 3 (.tmp 181) (.tmp 191) 3, _, _, _, none⟩ (.bool true) _ (by kernel_rfl) rfl rfl (exec_eqI rfl rfl HUse.out) hS8 ?_
        simp only [Act.put, List.setIfInBounds_toArray, List.set_cons_zero, List.set_cons_succ]
        refine anyH_one 22 ⟨some 4, .assign (.tmp 192), _, _, _, none⟩ (.bool true) _ (by kernel_rfl) rfl rfl rfl hS8 ?_
        simp only [Act.put, List.setIfInBounds_toArray, List.set_cons_zero, List.set_cons_succ]
        refine wpAnyH_done (by kernel_rfl) ?_ _
        have HF := hid hd8
        have HBF := hid hbb8
        go_wp2_with fail
        go_ret
        exact ⟨rfl, _, _, _, _, HF.out.guests (by simp), HS2.out, HLm.out, HBF.out⟩

    · have hd9 := hd1.box [.int .i64 n, .int .i64 m] 3
      have hbd9 := bs51_2 n m wb1
      obtain ⟨q9, hq9⟩ : ∃ q, q = wb1.heap.size := ⟨_, rfl⟩
      obtain ⟨wb9, hwb9⟩ : ∃ w', w' = wb1.alloc (.cells #[.int .i64 n, .int .i64 m] 3) := ⟨_, rfl⟩
      have hbb9 : Below B w wb9 := by rw [hwb9]; exact hbb1.trans (((Below.refl _ wb1).alloc (Nat.le_refl _) _).mono hd1.hB)
      rw [← hq9, ← hwb9] at hbd9
      change Duo (wb1.alloc (.cells #[.int .i64 n, .int .i64 m] 3)) _ ((wb1.heap.size, _, _) :: _) _ _ _ _ _ _ _ _ at hd9
      rw [← hwb9, ← hq9] at hd9
      have hS9 : Sx xb ab db b c r kind n m s ka klen kcap wb9 := ⟨hd9.xc (k := xb) (cs := [.pointer (some ⟨db, 0, none⟩), .pointer (some ⟨b, 0, none⟩), .pointer (some ⟨c, 0, none⟩), .pointer (some ⟨r, 0, none⟩)]) (t := 39) (by simp) (j := 0) rfl, hd9.xc (k := xb) (cs := [.pointer (some ⟨db, 0, none⟩), .pointer (some ⟨b, 0, none⟩), .pointer (some ⟨c, 0, none⟩), .pointer (some ⟨r, 0, none⟩)]) (t := 39) (by simp) (j := 1) rfl, hd9.xc (k := xb) (cs := [.pointer (some ⟨db, 0, none⟩), .pointer (some ⟨b, 0, none⟩), .pointer (some ⟨c, 0, none⟩), .pointer (some ⟨r, 0, none⟩)]) (t := 39) (by simp) (j := 2) rfl, hd9.xc (k := xb) (cs := [.pointer (some ⟨db, 0, none⟩), .pointer (some ⟨b, 0, none⟩), .pointer (some ⟨c, 0, none⟩), .pointer (some ⟨r, 0, none⟩)]) (t := 39) (by simp) (j := 3) rfl, hd9.xc (k := ab) (cs := [.int .i64 kind, .int .i64 n, .int .i64 m, .string s, .slice ka klen kcap]) (t := 42) (by simp) (j := 0) rfl, hd9.xc (k := ab) (cs := [.int .i64 kind, .int .i64 n, .int .i64 m, .string s, .slice ka klen kcap]) (t := 42) (by simp) (j := 1) rfl, hd9.xc (k := ab) (cs := [.int .i64 kind, .int .i64 n, .int .i64 m, .string s, .slice ka klen kcap]) (t := 42) (by simp) (j := 2) rfl, hd9.xc (k := ab) (cs := [.int .i64 kind, .int .i64 n, .int .i64 m, .string s, .slice ka klen kcap]) (t := 42) (by simp) (j := 3) rfl, hd9.xc (k := ab) (cs := [.int .i64 kind, .int .i64 n, .int .i64 m, .string s, .slice ka klen kcap]) (t := 42) (by simp) (j := 4) rfl⟩
      refine wpOp_run (o := ⟨some 190, .buildSlice 51 2 #[(0, .tmp 187), (1, .tmp 189)], _, _, _, none⟩) rfl rfl (exec_lay2 rfl rfl hbd9) ⟨hS9, ?_⟩
      simp only [Act.put, List.setIfInBounds_toArray, List.set_cons_zero, List.set_cons_succ]
      refine anyH_callW 9 ⟨some 180, .call { callee := .value (.func 39), args := #[.tmp 174, .tmp 179], argTypes := #[36, 51] }, _, _, _, none⟩ 39 _ (by kernel_rfl) rfl rfl (exec_call2 rfl rfl (.inl rfl)) ?_
      refine (hd9.puse (q := q1) n m (by simp)).mono ?_
      intro e wc10 hdd10
      obtain ⟨rfl, l10, hd10, hB10⟩ := hd9.left hdd10
      have hbb10 := hbb9.trans hB10
      have hS10 : Sx xb ab db b c r kind n m s ka klen kcap wc10 := ⟨hd10.xc (k := xb) (cs := [.pointer (some ⟨db, 0, none⟩), .pointer (some ⟨b, 0, none⟩), .pointer (some ⟨c, 0, none⟩), .pointer (some ⟨r, 0, none⟩)]) (t := 39) (by simp) (j := 0) rfl, hd10.xc (k := xb) (cs := [.pointer (some ⟨db, 0, none⟩), .pointer (some ⟨b, 0, none⟩), .pointer (some ⟨c, 0, none⟩), .pointer (some ⟨r, 0, none⟩)]) (t := 39) (by simp) (j := 1) rfl, hd10.xc (k := xb) (cs := [.pointer (some ⟨db, 0, none⟩), .pointer (some ⟨b, 0, none⟩), .pointer (some ⟨c, 0, none⟩), .pointer (some ⟨r, 0, none⟩)]) (t := 39) (by simp) (j := 2) rfl, hd10.xc (k := xb) (cs := [.pointer (some ⟨db, 0, none⟩), .pointer (some ⟨b, 0, none⟩), .pointer (some ⟨c, 0, none⟩), .pointer (some ⟨r, 0, none⟩)]) (t := 39) (by simp) (j := 3) rfl, hd10.xc (k := ab) (cs := [.int .i64 kind, .int .i64 n, .int .i64 m, .string s, .slice ka klen kcap]) (t := 42) (by simp) (j := 0) rfl, hd10.xc (k := ab) (cs := [.int .i64 kind, .int .i64 n, .int .i64 m, .string s, .slice ka klen kcap]) (t := 42) (by simp) (j := 1) rfl, hd10.xc (k := ab) (cs := [.int .i64 kind, .int .i64 n, .int .i64 m, .string s, .slice ka klen kcap]) (t := 42) (by simp) (j := 2) rfl, hd10.xc (k := ab) (cs := [.int .i64 kind, .int .i64 n, .int .i64 m, .string s, .slice ka klen kcap]) (t := 42) (by simp) (j := 3) rfl, hd10.xc (k := ab) (cs := [.int .i64 kind, .int .i64 n, .int .i64 m, .string s, .slice ka klen kcap]) (t := 42) (by simp) (j := 4) rfl⟩
      refine ⟨_, rfl, hS10, ?_⟩
      simp only [Act.put, List.setIfInBounds_toArray, List.set_cons_zero, List.set_cons_succ]
      refine anyH_callW 10 ⟨some 181, .call { callee := .value (.func 11), args := #[.tmp 180], argTypes := #[24] }, _, _, _, none⟩ 11 _ (by kernel_rfl) rfl rfl (exec_call1 rfl) ?_
      refine (no_any _ _).mono ?_
      rintro e wn11 ⟨rfl, hwn11⟩
      have hwm11 := hwn11.symm
      subst hwm11
      refine ⟨_, rfl, ⟨hd10.xc (k := xb) (cs := [.pointer (some ⟨db, 0, none⟩), .pointer (some ⟨b, 0, none⟩), .pointer (some ⟨c, 0, none⟩), .pointer (some ⟨r, 0, none⟩)]) (t := 39) (by simp) (j := 0) rfl, hd10.xc (k := xb) (cs := [.pointer (some ⟨db, 0, none⟩), .pointer (some ⟨b, 0, none⟩), .pointer (some ⟨c, 0, none⟩), .pointer (some ⟨r, 0, none⟩)]) (t := 39) (by simp) (j := 1) rfl, hd10.xc (k := xb) (cs := [.pointer (some ⟨db, 0, none⟩), .pointer (some ⟨b, 0, none⟩), .pointer (some ⟨c, 0, none⟩), .pointer (some ⟨r, 0, none⟩)]) (t := 39) (by simp) (j := 2) rfl, hd10.xc (k := xb) (cs := [.pointer (some ⟨db, 0, none⟩), .pointer (some ⟨b, 0, none⟩), .pointer (some ⟨c, 0, none⟩), .pointer (some ⟨r, 0, none⟩)]) (t := 39) (by simp) (j := 3) rfl, hd10.xc (k := ab) (cs := [.int .i64 kind, .int .i64 n, .int .i64 m, .string s, .slice ka klen kcap]) (t := 42) (by simp) (j := 0) rfl, hd10.xc (k := ab) (cs := [.int .i64 kind, .int .i64 n, .int .i64 m, .string s, .slice ka klen kcap]) (t := 42) (by simp) (j := 1) rfl, hd10.xc (k := ab) (cs := [.int .i64 kind, .int .i64 n, .int .i64 m, .string s, .slice ka klen kcap]) (t := 42) (by simp) (j := 2) rfl, hd10.xc (k := ab) (cs := [.int .i64 kind, .int .i64 n, .int .i64 m, .string s, .slice ka klen kcap]) (t := 42) (by simp) (j := 3) rfl, hd10.xc (k := ab) (cs := [.int .i64 kind, .int .i64 n, .int .i64 m, .string s, .slice ka klen kcap]) (t := 42) (by simp) (j := 4) rfl⟩, ?_⟩
      simp only [Act.put, List.setIfInBounds_toArray, List.set_cons_zero, List.set_cons_succ]
      refine anyH_callW 20 ⟨some 191, .call { callee := .value (.func 58), args := #[.tmp 185, .tmp 190], argTypes := #[37, 51] }, _, _, _, none⟩ 58 _ (by kernel_rfl) rfl rfl (exec_call2 rfl rfl (.inr rfl)) ?_
      refine (hd10.ruse (q := q9) n m (by simp)).mono ?_
      intro e wc12 hdd12
      obtain ⟨rfl, l12, hd12, hB12⟩ := hd10.right hdd12
      have hbb12 := hbb10.trans hB12
      have hS12 : Sx xb ab db b c r kind n m s ka klen kcap wc12 := ⟨hd12.xc (k := xb) (cs := [.pointer (some ⟨db, 0, none⟩), .pointer (some ⟨b, 0, none⟩), .pointer (some ⟨c, 0, none⟩), .pointer (some ⟨r, 0, none⟩)]) (t := 39) (by simp) (j := 0) rfl, hd12.xc (k := xb) (cs := [.pointer (some ⟨db, 0, none⟩), .pointer (some ⟨b, 0, none⟩), .pointer (some ⟨c, 0, none⟩), .pointer (some ⟨r, 0, none⟩)]) (t := 39) (by simp) (j := 1) rfl, hd12.xc (k := xb) (cs := [.pointer (some ⟨db, 0, none⟩), .pointer (some ⟨b, 0, none⟩), .pointer (some ⟨c, 0, none⟩), .pointer (some ⟨r, 0, none⟩)]) (t := 39) (by simp) (j := 2) rfl, hd12.xc (k := xb) (cs := [.pointer (some ⟨db, 0, none⟩), .pointer (some ⟨b, 0, none⟩), .pointer (some ⟨c, 0, none⟩), .pointer (some ⟨r, 0, none⟩)]) (t := 39) (by simp) (j := 3) rfl, hd12.xc (k := ab) (cs := [.int .i64 kind, .int .i64 n, .int .i64 m, .string s, .slice ka klen kcap]) (t := 42) (by simp) (j := 0) rfl, hd12.xc (k := ab) (cs := [.int .i64 kind, .int .i64 n, .int .i64 m, .string s, .slice ka klen kcap]) (t := 42) (by simp) (j := 1) rfl, hd12.xc (k := ab) (cs := [.int .i64 kind, .int .i64 n, .int .i64 m, .string s, .slice ka klen kcap]) (t := 42) (by simp) (j := 2) rfl, hd12.xc (k := ab) (cs := [.int .i64 kind, .int .i64 n, .int .i64 m, .string s, .slice ka klen kcap]) (t := 42) (by simp) (j := 3) rfl, hd12.xc (k := ab) (cs := [.int .i64 kind, .int .i64 n, .int .i64 m, .string s, .slice ka klen kcap]) (t := 42) (by simp) (j := 4) rfl⟩
      refine ⟨_, rfl, hS12, ?_⟩
      simp only [Act.put, List.setIfInBounds_toArray, List.set_cons_zero, List.set_cons_succ]
      refine anyH_one 21 ⟨some 192, .binOp .eql 3 (.tmp 181) (.tmp 191) 3, _, _, _, none⟩ (.bool true) _ (by kernel_rfl) rfl rfl (exec_eqI rfl rfl HUse.out) hS12 ?_
      simp only [Act.put, List.setIfInBounds_toArray, List.set_cons_zero, List.set_cons_succ]
      refine anyH_one 22 ⟨some 4, .assign (.tmp 192), _, _, _, none⟩ (.bool true) _ (by kernel_rfl) rfl rfl rfl hS12 ?_
      simp only [Act.put, List.setIfInBounds_toArray, List.set_cons_zero, List.set_cons_succ]
      refine wpAnyH_done (by kernel_rfl) ?_ _
      have HF := hid hd12
      have HBF := hid hbb12
      go_wp2_with fail
      go_ret
      exact ⟨rfl, _, _, _, _, HF.out.guests (by simp), HS2.out, HLm.out, HBF.out⟩

  · have hd13 := Hd.out.box [.int .i64 n, .int .i64 m] 3
    have hbd13 := bs51_2 n m W.drew
    obtain ⟨q13, hq13⟩ : ∃ q, q = W.drew.heap.size := ⟨_, rfl⟩
    obtain ⟨wb13, hwb13⟩ : ∃ w', w' = W.drew.alloc (.cells #[.int .i64 n, .int .i64 m] 3) := ⟨_, rfl⟩
    have hbb13 : Below B w wb13 := by rw [hwb13]; exact HBd.out.trans (((Below.refl _ W.drew).alloc (Nat.le_refl _) _).mono Hd.out.hB)
    rw [← hq13, ← hwb13] at hbd13
    change Duo (W.drew.alloc (.cells #[.int .i64 n, .int .i64 m] 3)) _ ((W.drew.heap.size, _, _) :: _) _ _ _ _ _ _ _ _ at hd13
    rw [← hwb13, ← hq13] at hd13
    have hS13 : Sx xb ab db b c r kind n m s ka klen kcap wb13 := ⟨hd13.xc (k := xb) (cs := [.pointer (some ⟨db, 0, none⟩), .pointer (some ⟨b, 0, none⟩), .pointer (some ⟨c, 0, none⟩), .pointer (some ⟨r, 0, none⟩)]) (t := 39) (by simp) (j := 0) rfl, hd13.xc (k := xb) (cs := [.pointer (some ⟨db, 0, none⟩), .pointer (some ⟨b, 0, none⟩), .pointer (some ⟨c, 0, none⟩), .pointer (some ⟨r, 0, none⟩)]) (t := 39) (by simp) (j := 1) rfl, hd13.xc (k := xb) (cs := [.pointer (some ⟨db, 0, none⟩), .pointer (some ⟨b, 0, none⟩), .pointer (some ⟨c, 0, none⟩), .pointer (some ⟨r, 0, none⟩)]) (t := 39) (by simp) (j := 2) rfl, hd13.xc (k := xb) (cs := [.pointer (some ⟨db, 0, none⟩), .pointer (some ⟨b, 0, none⟩), .pointer (some ⟨c, 0, none⟩), .pointer (some ⟨r, 0, none⟩)]) (t := 39) (by simp) (j := 3) rfl, hd13.xc (k := ab) (cs := [.int .i64 kind, .int .i64 n, .int .i64 m, .string s, .slice ka klen kcap]) (t := 42) (by simp) (j := 0) rfl, hd13.xc (k := ab) (cs := [.int .i64 kind, .int .i64 n, .int .i64 m, .string s, .slice ka klen kcap]) (t := 42) (by simp) (j := 1) rfl, hd13.xc (k := ab) (cs := [.int .i64 kind, .int .i64 n, .int .i64 m, .string s, .slice ka klen kcap]) (t := 42) (by simp) (j := 2) rfl, hd13.xc (k := ab) (cs := [.int .i64 kind, .int .i64 n, .int .i64 m, .string s, .slice ka klen kcap]) (t := 42) (by simp) (j := 3) rfl, hd13.xc (k := ab) (cs := [.int .i64 kind, .int .i64 n, .int .i64 m, .string s, .slice ka klen kcap]) (t := 42) (by simp) (j := 4) rfl⟩
    refine wpOp_run (o := ⟨some 190, .buildSlice 51 2 #[(0, .tmp 187), (1, .tmp 189)], _, _, _, none⟩) rfl rfl (exec_lay2 rfl rfl hbd13) ⟨hS13, ?_⟩
    simp only [Act.put, List.setIfInBounds_toArray, List.set_cons_zero, List.set_cons_succ]
    have hd14 := hd13.box [.int .i64 n, .int .i64 m] 3
    have hbd14 := bs51_2 n m wb13
    obtain ⟨q14, hq14⟩ : ∃ q, q = wb13.heap.size := ⟨_, rfl⟩
    obtain ⟨wb14, hwb14⟩ : ∃ w', w' = wb13.alloc (.cells #[.int .i64 n, .int .i64 m] 3) := ⟨_, rfl⟩
    have hbb14 : Below B w wb14 := by rw [hwb14]; exact hbb13.trans (((Below.refl _ wb13).alloc (Nat.le_refl _) _).mono hd13.hB)
    rw [← hq14, ← hwb14] at hbd14
    change Duo (wb13.alloc (.cells #[.int .i64 n, .int .i64 m] 3)) _ ((wb13.heap.size, _, _) :: _) _ _ _ _ _ _ _ _ at hd14
    rw [← hwb14, ← hq14] at hd14
    have hS14 : Sx xb ab db b c r kind n m s ka klen kcap wb14 := ⟨hd14.xc (k := xb) (cs := [.pointer (some ⟨db, 0, none⟩), .pointer (some ⟨b, 0, none⟩), .pointer (some ⟨c, 0, none⟩), .pointer (some ⟨r, 0, none⟩)]) (t := 39) (by simp) (j := 0) rfl, hd14.xc (k := xb) (cs := [.pointer (some ⟨db, 0, none⟩), .pointer (some ⟨b, 0, none⟩), .pointer (some ⟨c, 0, none⟩), .pointer (some ⟨r, 0, none⟩)]) (t := 39) (by simp) (j := 1) rfl, hd14.xc (k := xb) (cs := [.pointer (some ⟨db, 0, none⟩), .pointer (some ⟨b, 0, none⟩), .pointer (some ⟨c, 0, none⟩), .pointer (some ⟨r, 0, none⟩)]) (t := 39) (by simp) (j := 2) rfl, hd14.xc (k := xb) (cs := [.pointer (some ⟨db, 0, none⟩), .pointer (some ⟨b, 0, none⟩), .pointer (some ⟨c, 0, none⟩), .pointer (some ⟨r, 0, none⟩)]) (t := 39) (by simp) (j := 3) rfl, hd14.xc (k := ab) (cs := [.int .i64 kind, .int .i64 n, .int .i64 m, .string s, .slice ka klen kcap]) (t := 42) (by simp) (j := 0) rfl, hd14.xc (k := ab) (cs := [.int .i64 kind, .int .i64 n, .int .i64 m, .string s, .slice ka klen kcap]) (t := 42) (by simp) (j := 1) rfl, hd14.xc (k := ab) (cs := [.int .i64 kind, .int .i64 n, .int .i64 m, .string s, .slice ka klen kcap]) (t := 42) (by simp) (j := 2) rfl, hd14.xc (k := ab) (cs := [.int .i64 kind, .int .i64 n, .int .i64 m, .string s, .slice ka klen kcap]) (t := 42) (by simp) (j := 3) rfl, hd14.xc (k := ab) (cs := [.int .i64 kind, .int .i64 n, .int .i64 m, .string s, .slice ka klen kcap]) (t := 42) (by simp) (j := 4) rfl⟩
    refine anyH_one 8 ⟨some 179, .buildSlice 51 2 #[(0, .tmp 176), (1, .tmp 178)], _, _, _, none⟩ (.slice (some ⟨q14, 0, none⟩) 2 2) wb14 (by kernel_rfl) rfl rfl (exec_lay2 rfl rfl hbd14) hS14 ?_
    simp only [Act.put, List.setIfInBounds_toArray, List.set_cons_zero, List.set_cons_succ]
    refine anyH_callW 9 ⟨some 180, .call { callee := .value (.func 39), args := #[.tmp 174, .tmp 179], argTypes := #[36, 51] }, _, _, _, none⟩ 39 _ (by kernel_rfl) rfl rfl (exec_call2 rfl rfl (.inl rfl)) ?_
    refine (hd14.puse (q := q14) n m (by simp)).mono ?_
    intro e wc15 hdd15
    obtain ⟨rfl, l15, hd15, hB15⟩ := hd14.left hdd15
    have hbb15 := hbb14.trans hB15
    have hS15 : Sx xb ab db b c r kind n m s ka klen kcap wc15 := ⟨hd15.xc (k := xb) (cs := [.pointer (some ⟨db, 0, none⟩), .pointer (some ⟨b, 0, none⟩), .pointer (some ⟨c, 0, none⟩), .pointer (some ⟨r, 0, none⟩)]) (t := 39) (by simp) (j := 0) rfl, hd15.xc (k := xb) (cs := [.pointer (some ⟨db, 0, none⟩), .pointer (some ⟨b, 0, none⟩), .pointer (some ⟨c, 0, none⟩), .pointer (some ⟨r, 0, none⟩)]) (t := 39) (by simp) (j := 1) rfl, hd15.xc (k := xb) (cs := [.pointer (some ⟨db, 0, none⟩), .pointer (some ⟨b, 0, none⟩), .pointer (some ⟨c, 0, none⟩), .pointer (some ⟨r, 0, none⟩)]) (t := 39) (by simp) (j := 2) rfl, hd15.xc (k := xb) (cs := [.pointer (some ⟨db, 0, none⟩), .pointer (some ⟨b, 0, none⟩), .pointer (some ⟨c, 0, none⟩), .pointer (some ⟨r, 0, none⟩)]) (t := 39) (by simp) (j := 3) rfl, hd15.xc (k := ab) (cs := [.int .i64 kind, .int .i64 n, .int .i64 m, .string s, .slice ka klen kcap]) (t := 42) (by simp) (j := 0) rfl, hd15.xc (k := ab) (cs := [.int .i64 kind, .int .i64 n, .int .i64 m, .string s, .slice ka klen kcap]) (t := 42) (by simp) (j := 1) rfl, hd15.xc (k := ab) (cs := [.int .i64 kind, .int .i64 n, .int .i64 m, .string s, .slice ka klen kcap]) (t := 42) (by simp) (j := 2) rfl, hd15.xc (k := ab) (cs := [.int .i64 kind, .int .i64 n, .int .i64 m, .string s, .slice ka klen kcap]) (t := 42) (by simp) (j := 3) rfl, hd15.xc (k := ab) (cs := [.int .i64 kind, .int .i64 n, .int .i64 m, .string s, .slice ka klen kcap]) (t := 42) (by simp) (j := 4) rfl⟩
    refine ⟨_, rfl, hS15, ?_⟩
    simp only [Act.put, List.setIfInBounds_toArray, List.set_cons_zero, List.set_cons_succ]
    refine anyH_callW 10 ⟨some 181, .call { callee := .value (.func 11), args := #[.tmp 180], argTypes := #[24] }, _, _, _, none⟩ 11 _ (by kernel_rfl) rfl rfl (exec_call1 rfl) ?_
    refine (no_any _ _).mono ?_
    rintro e wn16 ⟨rfl, hwn16⟩
    have hwm16 := hwn16.symm
    subst hwm16
    refine ⟨_, rfl, ⟨hd15.xc (k := xb) (cs := [.pointer (some ⟨db, 0, none⟩), .pointer (some ⟨b, 0, none⟩), .pointer (some ⟨c, 0, none⟩), .pointer (some ⟨r, 0, none⟩)]) (t := 39) (by simp) (j := 0) rfl, hd15.xc (k := xb) (cs := [.pointer (some ⟨db, 0, none⟩), .pointer (some ⟨b, 0, none⟩), .pointer (some ⟨c, 0, none⟩), .pointer (some ⟨r, 0, none⟩)]) (t := 39) (by simp) (j := 1) rfl, hd15.xc (k := xb) (cs := [.pointer (some ⟨db, 0, none⟩), .pointer (some ⟨b, 0, none⟩), .pointer (some ⟨c, 0, none⟩), .pointer (some ⟨r, 0, none⟩)]) (t := 39) (by simp) (j := 2) rfl, hd15.xc (k := xb) (cs := [.pointer (some ⟨db, 0, none⟩), .pointer (some ⟨b, 0, none⟩), .pointer (some ⟨c, 0, none⟩), .pointer (some ⟨r, 0, none⟩)]) (t := 39) (by simp) (j := 3) rfl, hd15.xc (k := ab) (cs := [.int .i64 kind, .int .i64 n, .int .i64 m, .string s, .slice ka klen kcap]) (t := 42) (by simp) (j := 0) rfl, hd15.xc (k := ab) (cs := [.int .i64 kind, .int .i64 n, .int .i64 m, .string s, .slice ka klen kcap]) (t := 42) (by simp) (j := 1) rfl, hd15.xc (k := ab) (cs := [.int .i64 kind, .int .i64 n, .int .i64 m, .string s, .slice ka klen kcap]) (t := 42) (by simp) (j := 2) rfl, hd15.xc (k := ab) (cs := [.int .i64 kind, .int .i64 n, .int .i64 m, .string s, .slice ka klen kcap]) (t := 42) (by simp) (j := 3) rfl, hd15.xc (k := ab) (cs := [.int .i64 kind, .int .i64 n, .int .i64 m, .string s, .slice ka klen kcap]) (t := 42) (by simp) (j := 4) rfl⟩, ?_⟩
    simp only [Act.put, List.setIfInBounds_toArray, List.set_cons_zero, List.set_cons_succ]
    refine anyH_callW 20 ⟨some 191, .call { callee := .value (.func 58), args := #[.tmp 185, .tmp 190], argTypes := #[37, 51] }, _, _, _, none⟩ 58 _ (by kernel_rfl) rfl rfl (exec_call2 rfl rfl (.inr rfl)) ?_
    refine (hd15.ruse (q := q13) n m (by simp)).mono ?_
    intro e wc17 hdd17
    obtain ⟨rfl, l17, hd17, hB17⟩ := hd15.right hdd17
    have hbb17 := hbb15.trans hB17
    have hS17 : Sx xb ab db b c r kind n m s ka klen kcap wc17 := ⟨hd17.xc (k := xb) (cs := [.pointer (some ⟨db, 0, none⟩), .pointer (some ⟨b, 0, none⟩), .pointer (some ⟨c, 0, none⟩), .pointer (some ⟨r, 0, none⟩)]) (t := 39) (by simp) (j := 0) rfl, hd17.xc (k := xb) (cs := [.pointer (some ⟨db, 0, none⟩), .pointer (some ⟨b, 0, none⟩), .pointer (some ⟨c, 0, none⟩), .pointer (some ⟨r, 0, none⟩)]) (t := 39) (by simp) (j := 1) rfl, hd17.xc (k := xb) (cs := [.pointer (some ⟨db, 0, none⟩), .pointer (some ⟨b, 0, none⟩), .pointer (some ⟨c, 0, none⟩), .pointer (some ⟨r, 0, none⟩)]) (t := 39) (by simp) (j := 2) rfl, hd17.xc (k := xb) (cs := [.pointer (some ⟨db, 0, none⟩), .pointer (some ⟨b, 0, none⟩), .pointer (some ⟨c, 0, none⟩), .pointer (some ⟨r, 0, none⟩)]) (t := 39) (by simp) (j := 3) rfl, hd17.xc (k := ab) (cs := [.int .i64 kind, .int .i64 n, .int .i64 m, .string s, .slice ka klen kcap]) (t := 42) (by simp) (j := 0) rfl, hd17.xc (k := ab) (cs := [.int .i64 kind, .int .i64 n, .int .i64 m, .string s, .slice ka klen kcap]) (t := 42) (by simp) (j := 1) rfl, hd17.xc (k := ab) (cs := [.int .i64 kind, .int .i64 n, .int .i64 m, .string s, .slice ka klen kcap]) (t := 42) (by simp) (j := 2) rfl, hd17.xc (k := ab) (cs := [.int .i64 kind, .int .i64 n, .int .i64 m, .string s, .slice ka klen kcap]) (t := 42) (by simp) (j := 3) rfl, hd17.xc (k := ab) (cs := [.int .i64 kind, .int .i64 n, .int .i64 m, .string s, .slice ka klen kcap]) (t := 42) (by simp) (j := 4) rfl⟩
    refine ⟨_, rfl, hS17, ?_⟩
    simp only [Act.put, List.setIfInBounds_toArray, List.set_cons_zero, List.set_cons_succ]
    refine anyH_one 21 ⟨some 192, .binOp .eql 3 (.tmp 181) (.tmp 191) 3, _, _, _, none⟩ (.bool true) _ (by kernel_rfl) rfl rfl (exec_eqI rfl rfl HUse.out) hS17 ?_
    simp only [Act.put, List.setIfInBounds_toArray, List.set_cons_zero, List.set_cons_succ]
    refine anyH_one 22 ⟨some 4, .assign (.tmp 192), _, _, _, none⟩ (.bool true) _ (by kernel_rfl) rfl rfl rfl hS17 ?_
    simp only [Act.put, List.setIfInBounds_toArray, List.set_cons_zero, List.set_cons_succ]
    refine wpAnyH_done (by kernel_rfl) ?_ _
    have HF := hid hd17
    have HBF := hid hbb17
    go_wp2_with fail
    go_ret
    exact ⟨rfl, _, _, _, _, HF.out.guests (by simp), HS2.out, HLm.out, HBF.out⟩

end Go.Proofs.Ytambgimfbdecpaa
