/- What this text holds: a node that is read out of a content: the walk. -/
import Derived.Test.YtkipigbfbhecjaaN24
import Derived.Test.YtkipigbfbhecjaaN17
import Derived.Test.YtkipigbfbhecjaaN19
namespace Go.Proofs.Ytkipigbfbhecjaa
open Go.RowKit
set_option linter.unusedVariables false
set_option linter.unusedSimpArgs false

/-- One key more. -/
def Rs.keyR (r : Rs) : ByteArray := (r.after 1).cut (r.num 1).toNat
def Rs.afterKey (r : Rs) : Rs := (r.after 1).after (r.num 1).toNat
def stepR (x : Rs × Nd) : Rs × Nd :=
  if x.2.leaf then (x.1.afterKey.afterItem, { x.2 with keys := x.2.keys ++ [x.1.keyR], items := x.2.items ++ [x.1.afterKey.item] })
  else (x.1.afterKey.after 4, { x.2 with keys := x.2.keys ++ [x.1.keyR], kids := x.2.kids ++ [x.1.afterKey.num 4] })
def runR : Nat → Rs × Nd → Rs × Nd
  | 0, x => x
  | k + 1, x => if x.1.short then x else runR k (stepR x)
def begR (leaf : Bool) (s : ByteArray) : Rs × Nd := if leaf then ((Rs.mk s false).after 2, ⟨true, [], [], []⟩) else (((Rs.mk s false).after 2).after 4, ⟨false, [], [], [((Rs.mk s false).after 2).num 4]⟩)
/-- What is read out. -/
def readN (leaf : Bool) (s : ByteArray) : Nd := (runR ((Rs.mk s false).num 2).toNat (begR leaf s)).2

theorem field89 (b : Nat) (w : World) : (Instr.fieldAt 89 (.pointer (some ⟨b, 0, none⟩)) 0).run Try.prog w = .ok (.pointer (some ⟨b, 0, none⟩)) w := by kernel_rfl
theorem exec_call63 {a : Act} {x y : Operand} {X Y : Value} {w : World} {d : Option Tmp} {ty : Nat} {ts : Array Nat} {pos : String} {af : Array Edge} {g : Option (Nat × Bool)} (hx : a.eval x = X) (hy : a.eval y = Y) :
    (execOp a.eval ⟨d, .call { callee := .value (.func 63), args := #[x, y], argTypes := ts }, ty, pos, af, g⟩).run Try.prog w = .ok (.enter 63 #[X, Y]) w := by
  simp only [execOp, resolve, List.map_toArray, List.map_cons, List.map_nil, hx, hy]
  kernel_rfl
theorem exec_call64 {a : Act} {x y : Operand} {X Y : Value} {w : World} {d : Option Tmp} {ty : Nat} {ts : Array Nat} {pos : String} {af : Array Edge} {g : Option (Nat × Bool)} (hx : a.eval x = X) (hy : a.eval y = Y) :
    (execOp a.eval ⟨d, .call { callee := .value (.func 64), args := #[x, y], argTypes := ts }, ty, pos, af, g⟩).run Try.prog w = .ok (.enter 64 #[X, Y]) w := by
  simp only [execOp, resolve, List.map_toArray, List.map_cons, List.map_nil, hx, hy]
  kernel_rfl
theorem exec_call65 {a : Act} {x : Operand} {X : Value} {w : World} {d : Option Tmp} {ty : Nat} {ts : Array Nat} {pos : String} {af : Array Edge} {g : Option (Nat × Bool)} (hx : a.eval x = X) :
    (execOp a.eval ⟨d, .call { callee := .value (.func 65), args := #[x], argTypes := ts }, ty, pos, af, g⟩).run Try.prog w = .ok (.enter 65 #[X]) w := by
  simp only [execOp, resolve, List.map_toArray, List.map_cons, List.map_nil, hx]
  kernel_rfl
theorem bs22 (x : ByteArray) (w : World) : (Instr.buildSlice 22 1 #[(0, .string x)]).run Try.prog w = .ok (.slice (some ⟨w.heap.size, 0, none⟩) 1 1) (w.alloc (.cells #[.string x] 9)) := by kernel_rfl
theorem bs23 (x : It) (w : World) : (Instr.buildSlice 23 1 #[(0, itv x)]).run Try.prog w = .ok (.slice (some ⟨w.heap.size, 0, none⟩) 1 1) (w.alloc (.cells #[.string x.val, .int .i64 x.page, .int .i64 x.size] 51)) := by kernel_rfl
theorem bs24 (x : Int) (w : World) : (Instr.buildSlice 24 1 #[(0, .int .i64 x)]).run Try.prog w = .ok (.slice (some ⟨w.heap.size, 0, none⟩) 1 1) (w.alloc (.cells #[.int .i64 x] 3)) := by kernel_rfl
theorem exec_bs {a : Act} {X : Value} {x : Operand} {w w' : World} {v : Value} {d : Option Tmp} {t n ty : Nat} {pos : String} {af : Array Edge} {g : Option (Nat × Bool)} (hx : a.eval x = X)
    (h : (Instr.buildSlice t n #[(0, X)]).run Try.prog w = .ok v w') : (execOp a.eval ⟨d, .buildSlice t n #[(0, x)], ty, pos, af, g⟩).run Try.prog w = .ok (.value v) w' := by
  simp only [execOp, List.map_toArray, List.map_cons, List.map_nil, hx]
  exact exec_v h
theorem size22 : (Try.prog.info? 22).map (·.size) = some 1 := by kernel_rfl
theorem exec_store22 {a : Act} {x y : Operand} {b k : Nat} {u v : Value} {w : World} {d : Option Tmp} {ty : Nat} {pos : String} {af : Array Edge} {gd : Option (Nat × Bool)} (hx : a.eval x = .pointer (some ⟨b, k, none⟩)) (hy : a.eval y = v) (hv : ∃ a n c, v = .slice a n c)
    (h : w.cell? ⟨b, k, none⟩ = some u) (hf : w.frozen? ⟨b, k, none⟩ = false) :
    (execOp a.eval ⟨d, .store 22 x y, ty, pos, af, gd⟩).run Try.prog w = .ok .skip (w.setCell ⟨b, k, none⟩ v) := by
  obtain ⟨ad, nn, c, rfl⟩ := hv
  have hs := size22
  cases hq : Try.prog.info? 22 with
  | none => simp [hq] at hs
  | some i =>
    have h1 : i.size = 1 := by simpa [hq] using hs
    have e : (⟨b, k, none⟩ : Addr).add 0 = ⟨b, k, none⟩ := by rw [Addr.add_mid, Nat.add_zero]
    simp [execOp, hx, hy, Instr.storeAt, Instr.sureAddr, storeVar, sizeOf, typeInfo, hq, h1, Value.cells, storeCells, e, store, Sem.run, h, hf]
theorem size23 : (Try.prog.info? 23).map (·.size) = some 1 := by kernel_rfl
theorem exec_store23 {a : Act} {x y : Operand} {b k : Nat} {u v : Value} {w : World} {d : Option Tmp} {ty : Nat} {pos : String} {af : Array Edge} {gd : Option (Nat × Bool)} (hx : a.eval x = .pointer (some ⟨b, k, none⟩)) (hy : a.eval y = v) (hv : ∃ a n c, v = .slice a n c)
    (h : w.cell? ⟨b, k, none⟩ = some u) (hf : w.frozen? ⟨b, k, none⟩ = false) :
    (execOp a.eval ⟨d, .store 23 x y, ty, pos, af, gd⟩).run Try.prog w = .ok .skip (w.setCell ⟨b, k, none⟩ v) := by
  obtain ⟨ad, nn, c, rfl⟩ := hv
  have hs := size23
  cases hq : Try.prog.info? 23 with
  | none => simp [hq] at hs
  | some i =>
    have h1 : i.size = 1 := by simpa [hq] using hs
    have e : (⟨b, k, none⟩ : Addr).add 0 = ⟨b, k, none⟩ := by rw [Addr.add_mid, Nat.add_zero]
    simp [execOp, hx, hy, Instr.storeAt, Instr.sureAddr, storeVar, sizeOf, typeInfo, hq, h1, Value.cells, storeCells, e, store, Sem.run, h, hf]
theorem size24 : (Try.prog.info? 24).map (·.size) = some 1 := by kernel_rfl
theorem exec_store24 {a : Act} {x y : Operand} {b k : Nat} {u v : Value} {w : World} {d : Option Tmp} {ty : Nat} {pos : String} {af : Array Edge} {gd : Option (Nat × Bool)} (hx : a.eval x = .pointer (some ⟨b, k, none⟩)) (hy : a.eval y = v) (hv : ∃ a n c, v = .slice a n c)
    (h : w.cell? ⟨b, k, none⟩ = some u) (hf : w.frozen? ⟨b, k, none⟩ = false) :
    (execOp a.eval ⟨d, .store 24 x y, ty, pos, af, gd⟩).run Try.prog w = .ok .skip (w.setCell ⟨b, k, none⟩ v) := by
  obtain ⟨ad, nn, c, rfl⟩ := hv
  have hs := size24
  cases hq : Try.prog.info? 24 with
  | none => simp [hq] at hs
  | some i =>
    have h1 : i.size = 1 := by simpa [hq] using hs
    have e : (⟨b, k, none⟩ : Addr).add 0 = ⟨b, k, none⟩ := by rw [Addr.add_mid, Nat.add_zero]
    simp [execOp, hx, hy, Instr.storeAt, Instr.sureAddr, storeVar, sizeOf, typeInfo, hq, h1, Value.cells, storeCells, e, store, Sem.run, h, hf]

theorem at_of_own {w : World} {B e size n : Nat} {v : Value} {cs : List Value} (h : w.ownsRow B e size v n cs) : ∃ a c, v = .slice a n c ∧ At w a cs ∧ n ≤ c ∧ c ≤ maxLen := by
  rcases h.2 with ⟨h1, h2⟩ | ⟨g, cap, cur, h1, _⟩
  · have hl := h.1
    rw [h2, Nat.zero_mul] at hl
    exact ⟨none, 0, by rw [h1, h2], .inl (List.eq_nil_of_length_eq_zero hl), by omega, Nat.zero_le _⟩
  · subst h1
    obtain ⟨h2, h3, h4⟩ := own_at h
    exact ⟨_, _, rfl, h2, h3, h4⟩
theorem kept_set4 (w : World) (R : Nat) (y0 y1 y2 y3 : Value) : Kept [R] w ((((w.setCell ⟨R, 0, none⟩ y0).setCell ⟨R, 1, none⟩ y1).setCell ⟨R, 2, none⟩ y2).setCell ⟨R, 3, none⟩ y3) :=
  (((Kept.setCell [R] w ⟨R, 0, none⟩ y0 (by simp)).trans (Kept.setCell [R] _ ⟨R, 1, none⟩ y1 (by simp)) (fun _ _ h => h)).trans (Kept.setCell [R] _ ⟨R, 2, none⟩ y2 (by simp)) (fun _ _ h => h)).trans (Kept.setCell [R] _ ⟨R, 3, none⟩ y3 (by simp)) (fun _ _ h => h)
theorem runR_succ (k : Nat) (x : Rs × Nd) (h : x.1.short = false) : runR (k + 1) x = runR k (stepR x) := by
  show (if x.1.short then x else runR k (stepR x)) = _
  rw [h]; rfl
theorem runR_short (k : Nat) (x : Rs × Nd) (h : x.1.short = true) : runR k x = x := by
  cases k with
  | zero => rfl
  | succ k => show (if x.1.short then x else runR k (stepR x)) = _; rw [h]; rfl

/-- How far the reading is. -/
structure RInv (w wr : World) (B r4 b5 b6 N k : Nat) (leaf : Bool) (c : ByteArray) (r : Rs) (n : Nd) : Prop where
  lf : n.leaf = leaf
  kl : n.keys.length = k
  il : n.items.length = if leaf then k else 0
  dl : n.kids.length = if leaf then 0 else k + 1
  rs : r.s.size ≤ 20000
  ks : ∀ x ∈ n.keys, x.size ≤ 20000
  is_ : ∀ x ∈ n.items, x.val.size ≤ 20000
  run : runR (N - k) (r, n) = runR N (begR leaf c)
  bel : Below B w wr
  rd : ∃ vk vi vd, Rd wr B r4 b5 b6 vk vi vd r n
theorem cut_le (r : Rs) (k : Nat) : (r.cut k).size ≤ r.s.size := by
  unfold Rs.cut
  split
  · exact Nat.zero_le _
  · rw [ByteArray.size_extract]; omega
theorem keyR_le (r : Rs) : r.keyR.size ≤ r.s.size := Nat.le_trans (cut_le _ _) (after_size r 1)
theorem afterKey_le (r : Rs) : r.afterKey.s.size ≤ r.s.size := Nat.le_trans (after_size _ _) (after_size r 1)
theorem item_le (r : Rs) : r.item.val.size ≤ r.s.size := by
  unfold Rs.item
  split
  · exact Nat.zero_le _
  · exact Nat.le_trans (cut_le _ _) (after_size r 1)
theorem afterItem_le (r : Rs) : r.afterItem.s.size ≤ r.s.size := by
  unfold Rs.afterItem
  split
  · exact Nat.le_trans (after_size _ _) (Nat.le_trans (after_size _ _) (after_size r 1))
  · exact Nat.le_trans (after_size _ _) (after_size r 1)

set_option maxRecDepth 100000 in
set_option maxHeartbeats 4000000 in
theorem read_leaf {w : World} (c : ByteArray) (hc : c.size ≤ 20000) : Calls Try.prog 39 #[.bool true, .string c] w fun e w' => ∃ v, e = .returned v ∧ (NAt w' v (readN true c) ∧ (readN true c).small ∧ (readN true c).leaf = true) ∧ Below w.heap.size w w' := by
  have hX0 : Rd (((w.alloc (.cells #[.bool false, .slice none 0 0, .slice none 0 0, .slice none 0 0] 26)).alloc (.cells #[.string c, .bool false] 89)).alloc (.cells #[.bool true, .slice none 0 0, .slice none 0 0, .slice none 0 0] 26)) w.heap.size w.heap.size (w.heap.size + 1) (w.heap.size + 1 + 1) (.slice none 0 0) (.slice none 0 0) (.slice none 0 0) ⟨c, false⟩ ⟨true, [], [], []⟩ := by
    have e0 : (w.alloc (.cells #[.bool false, .slice none 0 0, .slice none 0 0, .slice none 0 0] 26)).heap.size = w.heap.size + 1 := by simp
    have e1 : ((w.alloc (.cells #[.bool false, .slice none 0 0, .slice none 0 0, .slice none 0 0] 26)).alloc (.cells #[.string c, .bool false] 89)).heap.size = w.heap.size + 1 + 1 := by simp
    refine ⟨?_, ?_, World.ownsRow_nil _ _ _ _, World.ownsRow_nil _ _ _ _, World.ownsRow_nil _ _ _ _, ?_, by omega, Nat.le_refl _, by omega, by omega⟩
    · have := heap_alloc_new (w.alloc (.cells #[.bool false, .slice none 0 0, .slice none 0 0, .slice none 0 0] 26)) (.cells #[.string c, .bool false] 89)
      rw [e0] at this
      exact (Below.heap_alloc _ _ _ (by rw [e1]; omega)).trans this
    · have := heap_alloc_new ((w.alloc (.cells #[.bool false, .slice none 0 0, .slice none 0 0, .slice none 0 0] 26)).alloc (.cells #[.string c, .bool false] 89)) (.cells #[.bool true, .slice none 0 0, .slice none 0 0, .slice none 0 0] 26)
      rw [e1] at this
      exact this
    · exact (Below.heap_alloc _ _ _ (by rw [e1]; omega)).trans ((Below.heap_alloc _ _ _ (by rw [e0]; omega)).trans (heap_alloc_new w _))
  have HX := hid hX0
  have HB0 := hid ((below_two w (.cells #[.bool false, .slice none 0 0, .slice none 0 0, .slice none 0 0] 26) (.cells #[.string c, .bool false] 89)).trans ((below_box ((w.alloc (.cells #[.bool false, .slice none 0 0, .slice none 0 0, .slice none 0 0] 26)).alloc (.cells #[.string c, .bool false] 89)) (.cells #[.bool true, .slice none 0 0, .slice none 0 0, .slice none 0 0] 26)).mono (below_two w _ _).size))
  clear hX0
  go_enter Try.func39, Try.ntmps39
  go_wp2_with fail
  generalize (((w.alloc (.cells #[.bool false, .slice none 0 0, .slice none 0 0, .slice none 0 0] 26)).alloc (.cells #[.string c, .bool false] 89)).alloc (.cells #[.bool true, .slice none 0 0, .slice none 0 0, .slice none 0 0] 26)) = W at HX HB0 ⊢
  have hB : w.heap.size ≤ W.heap.size := HB0.out.size
  generalize hBe : w.heap.size = B at HX HB0 hB ⊢
  generalize hB6 : B + 1 + 1 = b6 at HX ⊢
  generalize hB5 : B + 1 = b5 at HX hB6 ⊢
  clear hB5 hB6
  refine (rnum_any HX.out.rs hc 2 (by omega)).mono ?_
  rintro e w1 ⟨rfl, h1, k1⟩
  have HRD := hid (HX.out.read k1 h1)
  have HB1 := hid (HB0.out.trans (k1.below (B := B) (by intro i hi; simp only [List.mem_singleton] at hi; subst hi; exact HX.out.h5) hB))
  have hn0 := num_nonneg (Rs.mk c false) 2
  have hn1 := num_lt (Rs.mk c false) 2 (by omega)
  have hcs := after_size (Rs.mk c false) 2
  clear h1 k1 HX HB0
  obtain ⟨N, hN⟩ : ∃ N : Nat, N = ((Rs.mk c false).num 2).toNat := ⟨_, rfl⟩
  have hNc : (Rs.mk c false).num 2 = (N : Int) := by omega
  have hN5 : N ≤ 65535 := by omega
  rw [hNc]
  have HN := hid hN
  clear hN hNc hn0 hn1
  have HI0 : Hid (RInv w w1 B B b5 b6 N 0 true c ((Rs.mk c false).after 2) ⟨true, [], [], []⟩) := ⟨rfl, rfl, rfl, rfl, Nat.le_trans hcs hc, (fun x hx => by cases hx), (fun x hx => by cases hx), rfl, HB1.out, ⟨_, _, _, HRD.out⟩⟩
  clear HRD HB1
  go_wp2_with fail
  go_loopw [8] (fun i wr => ∃ k : Nat, k ≤ N ∧ i = .int .i64 k ∧ ∃ r n, RInv w wr B B b5 b6 N k true c r n) (fun i _ => N - (intOf i).toNat)
  case atStart => exact ⟨0, by omega, rfl, _, _, HI0.out⟩
  case round =>
    clear HI0
    obtain ⟨k, hk, rfl, r, n, hinv⟩ := hrel
    obtain ⟨vk, vi, vd, hrd⟩ := hinv.rd
    obtain ⟨⟨s0, s1⟩, _⟩ := hrd.rs.cells
    by_cases hlt : k < N
    · have hlt' : (k : Int) < N := by omega
      cases hsh : r.short with
      | false =>
        rw [hsh] at s1
        have hrs := hinv.rs
        have hBr : B ≤ wr.heap.size := Nat.le_trans (hBe ▸ Nat.le_refl _) hinv.bel.size
        have hkl := hinv.kl
        have hil := hinv.il
        have hdl := hinv.dl
        have HInv := hid hinv
        have HRd := hid hrd
        have HSh := hid hsh
        have hl0 : n.keys.length ≤ 69999 := by omega
        clear hinv hrd hsh s0
        go_wp2_with fail
        have hrd := HRd.out
        apply wp_once (fun w' => ∃ vk vi vd, Rd w' B B b5 b6 vk vi vd r.afterKey { n with keys := n.keys ++ [r.keyR] } ∧ Below B wr w')
        apply Exists.intro
        apply And.intro
        · have hrd0 : Rd wr.drew B B b5 b6 vk vi vd r n := ⟨hrd.rs, hrd.nd, hrd.ok, hrd.oi, hrd.od, hrd.z, hrd.ne, hrd.h4, hrd.h5, hrd.h6⟩
          have hload0 := (cells4 hrd0.nd).1.2.1
          have hbb0 : Below B wr wr.drew := (Below.refl B wr).drew
          have hcast : ((r.num 1).toNat : Int) = r.num 1 := by have := num_nonneg r 1; omega
          have hlim : (r.num 1).toNat ≤ 100000 := by have := num_lt r 1 (by omega); omega
          have HT2 := hid (fun (w1 : World) (h : RsAt w1 b5 (r.after 1)) => (hcast ▸ take_any h (Nat.le_trans (after_size r 1) hrs) (r.num 1).toNat hlim : Calls Try.prog 64 #[.pointer (some ⟨b5, 0, none⟩), .int .i64 (r.num 1)] w1 fun e w' => e = .returned (.string r.keyR) ∧ RsAt w' b5 r.afterKey ∧ Kept [b5] w1 w'))
          refine wp_region_held_drew (S := fun _ => True) (by kernel_rfl) trivial ?_
          intro _
          refine anyH_take 0 ⟨some 36, .fieldAddr 26 (.tmp 6) 1, _, _, _, none⟩ (.pointer (some ⟨b6, 1, none⟩)) rfl rfl (by kernel_rfl) (by kernel_rfl) (by kernel_rfl) (fun _ _ _ h => absurd h.1 (by simp)) (fun w _ => exec_v (field26 b6 w).1) trivial ?_
          simp only [Act.put, List.setIfInBounds_toArray, List.set_cons_zero, List.set_cons_succ]
          refine anyH_take 2 ⟨some 38, .fieldAddr 89 (.tmp 5) 0, _, _, _, none⟩ (.pointer (some ⟨b5, 0, none⟩)) rfl rfl (by kernel_rfl) (by kernel_rfl) (by kernel_rfl) (fun _ _ _ h => absurd h.1 (by simp)) (fun w _ => exec_v (field89 b5 w)) trivial ?_
          simp only [Act.put, List.setIfInBounds_toArray, List.set_cons_zero, List.set_cons_succ]
          refine anyH_take 3 ⟨some 39, .fieldAddr 89 (.tmp 5) 0, _, _, _, none⟩ (.pointer (some ⟨b5, 0, none⟩)) rfl rfl (by kernel_rfl) (by kernel_rfl) (by kernel_rfl) (fun _ _ _ h => absurd h.1 (by simp)) (fun w _ => exec_v (field89 b5 w)) trivial ?_
          simp only [Act.put, List.setIfInBounds_toArray, List.set_cons_zero, List.set_cons_succ]
          refine anyH_two 1 4 (by kernel_rfl) ?_ ?_
          · refine wpOp_run (o := ⟨some 37, .load 22 (.tmp 36), _, _, _, none⟩) rfl rfl (exec_v (load22 hload0)) ⟨trivial, ?_⟩
            simp only [Act.put, List.setIfInBounds_toArray, List.set_cons_zero, List.set_cons_succ]
            refine anyH_callW 4 ⟨some 40, .call { callee := .value (.func 63), args := #[.tmp 39, .const (.int .i64 1)], argTypes := #[87, 3] }, _, _, _, none⟩ 63 _ (by kernel_rfl) rfl rfl (exec_call63 rfl rfl) ?_
            refine (rnum_any hrd0.rs hrs 1 (by omega)).mono ?_
            rintro e w1 ⟨rfl, h1, k1⟩
            refine ⟨_, rfl, trivial, ?_⟩
            simp only [Act.put, List.setIfInBounds_toArray, List.set_cons_zero, List.set_cons_succ]
            have hrd1 := hrd0.read k1 h1
            have hload1 := (cells4 hrd1.nd).1.2.1
            have hbb1 := hbb0.trans (k1.below (B := B) (by intro i hi; simp only [List.mem_singleton] at hi; subst hi; exact hrd.h5) (Nat.le_trans hBr (Nat.le_refl _)))
            refine anyH_callW 5 ⟨some 41, .call { callee := .value (.func 64), args := #[.tmp 38, .tmp 40], argTypes := #[87, 3] }, _, _, _, none⟩ 64 _ (by kernel_rfl) rfl rfl (exec_call64 rfl rfl) ?_
            refine (HT2.out w1 h1).mono ?_
            rintro e w2 ⟨rfl, h2, k2⟩
            refine ⟨_, rfl, trivial, ?_⟩
            simp only [Act.put, List.setIfInBounds_toArray, List.set_cons_zero, List.set_cons_succ]
            have hrd2 := hrd1.read k2 h2
            have hload2 := (cells4 hrd2.nd).1.2.1
            have hbb2 := hbb1.trans (k2.below (B := B) (by intro i hi; simp only [List.mem_singleton] at hi; subst hi; exact hrd.h5) (Nat.le_trans hBr hbb1.size))
            obtain ⟨v', w', hc, hc2, hrun, hsl, hc3, hf3, hrd3, hb3⟩ := rd_push1 hrd2 (Nat.le_trans hBr hbb2.size) r.keyR (by omega)
            have hbel := hbb2.trans hb3
            have hbuild := bs22 r.keyR w2
            generalize hgz : w2.heap.size = gz at hrun hbuild
            refine anyH_one 6 ⟨some 42, .buildSlice 22 1 #[(0, .tmp 41)], _, _, _, none⟩ (.slice (some ⟨gz, 0, none⟩) 1 1) _ (by kernel_rfl) rfl rfl (exec_bs rfl hbuild) trivial ?_
            simp only [Act.put, List.setIfInBounds_toArray, List.set_cons_zero, List.set_cons_succ]
            refine anyH_one 7 ⟨some 43, .call { callee := .builtin .append, args := #[.tmp 37, .tmp 42], argTypes := #[22, 22] }, _, _, _, none⟩ v' w' (by kernel_rfl) rfl rfl (exec_append (u := vk) (s := .slice (some ⟨gz, 0, none⟩) 1 1) rfl rfl hrun) trivial ?_
            simp only [Act.put, List.setIfInBounds_toArray, List.set_cons_zero, List.set_cons_succ]
            refine anyH_one 8 ⟨some 44, .fieldAddr 26 (.tmp 6) 1, _, _, _, none⟩ (.pointer (some ⟨b6, 1, none⟩)) w' (by kernel_rfl) rfl rfl (exec_v (field26 b6 _).1) trivial ?_
            simp only [Act.put, List.setIfInBounds_toArray, List.set_cons_zero, List.set_cons_succ]
            refine anyH_oneSkip 9 ⟨none, .store 22 (.tmp 44) (.tmp 43), _, _, _, none⟩ (w'.setCell ⟨b6, 1, none⟩ v') (by kernel_rfl) rfl rfl (exec_store22 rfl rfl hsl hc3 hf3) trivial ?_
            simp only [Act.put, List.setIfInBounds_toArray, List.set_cons_zero, List.set_cons_succ]
            refine wpAnyH_done (by kernel_rfl) ?_ _
            exact ⟨rfl, ⟨gz, v', rfl⟩, ⟨_, _, _, hrd3, hbel⟩⟩
          · refine wpOp_callW (o := ⟨some 40, .call { callee := .value (.func 63), args := #[.tmp 39, .const (.int .i64 1)], argTypes := #[87, 3] }, _, _, _, none⟩) rfl rfl (exec_call63 rfl rfl) ?_
            refine (rnum_any hrd0.rs hrs 1 (by omega)).mono ?_
            rintro e w1 ⟨rfl, h1, k1⟩
            refine ⟨_, rfl, trivial, ?_⟩
            simp only [Act.put, List.setIfInBounds_toArray, List.set_cons_zero, List.set_cons_succ]
            have hrd1 := hrd0.read k1 h1
            have hload1 := (cells4 hrd1.nd).1.2.1
            have hbb1 := hbb0.trans (k1.below (B := B) (by intro i hi; simp only [List.mem_singleton] at hi; subst hi; exact hrd.h5) (Nat.le_trans hBr (Nat.le_refl _)))
            refine anyH_two 1 5 (by kernel_rfl) ?_ ?_
            · refine wpOp_run (o := ⟨some 37, .load 22 (.tmp 36), _, _, _, none⟩) rfl rfl (exec_v (load22 hload1)) ⟨trivial, ?_⟩
              simp only [Act.put, List.setIfInBounds_toArray, List.set_cons_zero, List.set_cons_succ]
              refine anyH_callW 5 ⟨some 41, .call { callee := .value (.func 64), args := #[.tmp 38, .tmp 40], argTypes := #[87, 3] }, _, _, _, none⟩ 64 _ (by kernel_rfl) rfl rfl (exec_call64 rfl rfl) ?_
              refine (HT2.out w1 h1).mono ?_
              rintro e w2 ⟨rfl, h2, k2⟩
              refine ⟨_, rfl, trivial, ?_⟩
              simp only [Act.put, List.setIfInBounds_toArray, List.set_cons_zero, List.set_cons_succ]
              have hrd2 := hrd1.read k2 h2
              have hload2 := (cells4 hrd2.nd).1.2.1
              have hbb2 := hbb1.trans (k2.below (B := B) (by intro i hi; simp only [List.mem_singleton] at hi; subst hi; exact hrd.h5) (Nat.le_trans hBr hbb1.size))
              obtain ⟨v', w', hc, hc2, hrun, hsl, hc3, hf3, hrd3, hb3⟩ := rd_push1 hrd2 (Nat.le_trans hBr hbb2.size) r.keyR (by omega)
              have hbel := hbb2.trans hb3
              have hbuild := bs22 r.keyR w2
              generalize hgz : w2.heap.size = gz at hrun hbuild
              refine anyH_one 6 ⟨some 42, .buildSlice 22 1 #[(0, .tmp 41)], _, _, _, none⟩ (.slice (some ⟨gz, 0, none⟩) 1 1) _ (by kernel_rfl) rfl rfl (exec_bs rfl hbuild) trivial ?_
              simp only [Act.put, List.setIfInBounds_toArray, List.set_cons_zero, List.set_cons_succ]
              refine anyH_one 7 ⟨some 43, .call { callee := .builtin .append, args := #[.tmp 37, .tmp 42], argTypes := #[22, 22] }, _, _, _, none⟩ v' w' (by kernel_rfl) rfl rfl (exec_append (u := vk) (s := .slice (some ⟨gz, 0, none⟩) 1 1) rfl rfl hrun) trivial ?_
              simp only [Act.put, List.setIfInBounds_toArray, List.set_cons_zero, List.set_cons_succ]
              refine anyH_one 8 ⟨some 44, .fieldAddr 26 (.tmp 6) 1, _, _, _, none⟩ (.pointer (some ⟨b6, 1, none⟩)) w' (by kernel_rfl) rfl rfl (exec_v (field26 b6 _).1) trivial ?_
              simp only [Act.put, List.setIfInBounds_toArray, List.set_cons_zero, List.set_cons_succ]
              refine anyH_oneSkip 9 ⟨none, .store 22 (.tmp 44) (.tmp 43), _, _, _, none⟩ (w'.setCell ⟨b6, 1, none⟩ v') (by kernel_rfl) rfl rfl (exec_store22 rfl rfl hsl hc3 hf3) trivial ?_
              simp only [Act.put, List.setIfInBounds_toArray, List.set_cons_zero, List.set_cons_succ]
              refine wpAnyH_done (by kernel_rfl) ?_ _
              exact ⟨rfl, ⟨gz, v', rfl⟩, ⟨_, _, _, hrd3, hbel⟩⟩
            · refine wpOp_callW (o := ⟨some 41, .call { callee := .value (.func 64), args := #[.tmp 38, .tmp 40], argTypes := #[87, 3] }, _, _, _, none⟩) rfl rfl (exec_call64 rfl rfl) ?_
              refine (HT2.out w1 h1).mono ?_
              rintro e w2 ⟨rfl, h2, k2⟩
              refine ⟨_, rfl, trivial, ?_⟩
              simp only [Act.put, List.setIfInBounds_toArray, List.set_cons_zero, List.set_cons_succ]
              have hrd2 := hrd1.read k2 h2
              have hload2 := (cells4 hrd2.nd).1.2.1
              have hbb2 := hbb1.trans (k2.below (B := B) (by intro i hi; simp only [List.mem_singleton] at hi; subst hi; exact hrd.h5) (Nat.le_trans hBr hbb1.size))
              obtain ⟨v', w', hc, hc2, hrun, hsl, hc3, hf3, hrd3, hb3⟩ := rd_push1 hrd2 (Nat.le_trans hBr hbb2.size) r.keyR (by omega)
              have hbel := hbb2.trans hb3
              have hbuild := bs22 r.keyR w2
              generalize hgz : w2.heap.size = gz at hrun hbuild
              refine anyH_two 1 6 (by kernel_rfl) ?_ ?_
              · refine wpOp_run (o := ⟨some 37, .load 22 (.tmp 36), _, _, _, none⟩) rfl rfl (exec_v (load22 hc)) ⟨trivial, ?_⟩
                simp only [Act.put, List.setIfInBounds_toArray, List.set_cons_zero, List.set_cons_succ]
                refine anyH_one 6 ⟨some 42, .buildSlice 22 1 #[(0, .tmp 41)], _, _, _, none⟩ (.slice (some ⟨gz, 0, none⟩) 1 1) _ (by kernel_rfl) rfl rfl (exec_bs rfl hbuild) trivial ?_
                simp only [Act.put, List.setIfInBounds_toArray, List.set_cons_zero, List.set_cons_succ]
                refine anyH_one 7 ⟨some 43, .call { callee := .builtin .append, args := #[.tmp 37, .tmp 42], argTypes := #[22, 22] }, _, _, _, none⟩ v' w' (by kernel_rfl) rfl rfl (exec_append (u := vk) (s := .slice (some ⟨gz, 0, none⟩) 1 1) rfl rfl hrun) trivial ?_
                simp only [Act.put, List.setIfInBounds_toArray, List.set_cons_zero, List.set_cons_succ]
                refine anyH_one 8 ⟨some 44, .fieldAddr 26 (.tmp 6) 1, _, _, _, none⟩ (.pointer (some ⟨b6, 1, none⟩)) w' (by kernel_rfl) rfl rfl (exec_v (field26 b6 _).1) trivial ?_
                simp only [Act.put, List.setIfInBounds_toArray, List.set_cons_zero, List.set_cons_succ]
                refine anyH_oneSkip 9 ⟨none, .store 22 (.tmp 44) (.tmp 43), _, _, _, none⟩ (w'.setCell ⟨b6, 1, none⟩ v') (by kernel_rfl) rfl rfl (exec_store22 rfl rfl hsl hc3 hf3) trivial ?_
                simp only [Act.put, List.setIfInBounds_toArray, List.set_cons_zero, List.set_cons_succ]
                refine wpAnyH_done (by kernel_rfl) ?_ _
                exact ⟨rfl, ⟨gz, v', rfl⟩, ⟨_, _, _, hrd3, hbel⟩⟩
              · refine wpOp_run (o := ⟨some 42, .buildSlice 22 1 #[(0, .tmp 41)], _, _, _, none⟩) rfl rfl (exec_bs rfl hbuild) ⟨trivial, ?_⟩
                simp only [Act.put, List.setIfInBounds_toArray, List.set_cons_zero, List.set_cons_succ]
                refine anyH_one 1 ⟨some 37, .load 22 (.tmp 36), _, _, _, none⟩ vk _ (by kernel_rfl) rfl rfl (exec_v (load22 hc2)) trivial ?_
                simp only [Act.put, List.setIfInBounds_toArray, List.set_cons_zero, List.set_cons_succ]
                refine anyH_one 7 ⟨some 43, .call { callee := .builtin .append, args := #[.tmp 37, .tmp 42], argTypes := #[22, 22] }, _, _, _, none⟩ v' w' (by kernel_rfl) rfl rfl (exec_append (u := vk) (s := .slice (some ⟨gz, 0, none⟩) 1 1) rfl rfl hrun) trivial ?_
                simp only [Act.put, List.setIfInBounds_toArray, List.set_cons_zero, List.set_cons_succ]
                refine anyH_one 8 ⟨some 44, .fieldAddr 26 (.tmp 6) 1, _, _, _, none⟩ (.pointer (some ⟨b6, 1, none⟩)) w' (by kernel_rfl) rfl rfl (exec_v (field26 b6 _).1) trivial ?_
                simp only [Act.put, List.setIfInBounds_toArray, List.set_cons_zero, List.set_cons_succ]
                refine anyH_oneSkip 9 ⟨none, .store 22 (.tmp 44) (.tmp 43), _, _, _, none⟩ (w'.setCell ⟨b6, 1, none⟩ v') (by kernel_rfl) rfl rfl (exec_store22 rfl rfl hsl hc3 hf3) trivial ?_
                simp only [Act.put, List.setIfInBounds_toArray, List.set_cons_zero, List.set_cons_succ]
                refine wpAnyH_done (by kernel_rfl) ?_ _
                exact ⟨rfl, ⟨gz, v', rfl⟩, ⟨_, _, _, hrd3, hbel⟩⟩
        rintro wA gA vA ⟨vkA, viA, vdA, hrdA, hbelA⟩
        have HrdA := hid hrdA
        have HBelA := hid hbelA
        clear hrdA hbelA s1
        go_wp2_with fail
        have hrdA := HrdA.out
        have hbelA := HBelA.out
        have hrsA0 := afterKey_le r
        have hnA : ({ n with keys := n.keys ++ [r.keyR] } : Nd).items.length = n.items.length ∧ ({ n with keys := n.keys ++ [r.keyR] } : Nd).kids.length = n.kids.length := ⟨rfl, rfl⟩
        generalize hrA : r.afterKey = rA at hrdA hrsA0
        generalize hnA2 : ({ n with keys := n.keys ++ [r.keyR] } : Nd) = nA at hrdA hnA
        have hrsA : rA.s.size ≤ 20000 := Nat.le_trans hrsA0 hrs
        have hBrA : B ≤ wA.heap.size := Nat.le_trans hBr hbelA.size
        have hlA : nA.items.length ≤ 69999 ∧ nA.kids.length ≤ 69999 := by rw [hnA.1, hnA.2, hil, hdl]; simp; omega
        obtain ⟨hlA1, hlA2⟩ := hlA
        apply wp_once (fun w' => ∃ vk vi vd, Rd w' B B b5 b6 vk vi vd rA.afterItem { nA with items := nA.items ++ [rA.item] } ∧ Below B wA w')
        apply Exists.intro
        apply And.intro
        · have hrd0 : Rd wA.drew B B b5 b6 vkA viA vdA rA nA := ⟨hrdA.rs, hrdA.nd, hrdA.ok, hrdA.oi, hrdA.od, hrdA.z, hrdA.ne, hrdA.h4, hrdA.h5, hrdA.h6⟩
          have hload0 := (cells4 hrd0.nd).1.2.2.1
          have hbb0 : Below B wA wA.drew := (Below.refl B wA).drew
          skip
          refine wp_region_held_drew (S := fun _ => True) (by kernel_rfl) trivial ?_
          intro _
          refine anyH_take 0 ⟨some 46, .fieldAddr 26 (.tmp 6) 2, _, _, _, none⟩ (.pointer (some ⟨b6, 2, none⟩)) rfl rfl (by kernel_rfl) (by kernel_rfl) (by kernel_rfl) (fun _ _ _ h => absurd h.1 (by simp)) (fun w _ => exec_v (field26 b6 w).2.1) trivial ?_
          simp only [Act.put, List.setIfInBounds_toArray, List.set_cons_zero, List.set_cons_succ]
          refine anyH_two 1 2 (by kernel_rfl) ?_ ?_
          · refine wpOp_run (o := ⟨some 47, .load 23 (.tmp 46), _, _, _, none⟩) rfl rfl (exec_v (load23 hload0)) ⟨trivial, ?_⟩
            simp only [Act.put, List.setIfInBounds_toArray, List.set_cons_zero, List.set_cons_succ]
            refine anyH_callW 2 ⟨some 48, .call { callee := .value (.func 65), args := #[.tmp 5], argTypes := #[89] }, _, _, _, none⟩ 65 _ (by kernel_rfl) rfl rfl (exec_call65 rfl) ?_
            refine (ritm_any hrd0.rs hrsA).mono ?_
            rintro e w1 ⟨rfl, h1, k1⟩
            refine ⟨_, rfl, trivial, ?_⟩
            simp only [Act.put, List.setIfInBounds_toArray, List.set_cons_zero, List.set_cons_succ]
            have hrd1 := hrd0.read k1 h1
            have hload1 := (cells4 hrd1.nd).1.2.2.1
            have hbb1 := hbb0.trans (k1.below (B := B) (by intro i hi; simp only [List.mem_singleton] at hi; subst hi; exact hrdA.h5) (Nat.le_trans hBrA (Nat.le_refl _)))
            obtain ⟨v', w', hc, hc2, hrun, hsl, hc3, hf3, hrd3, hb3⟩ := rd_push2 hrd1 (Nat.le_trans hBrA hbb1.size) rA.item (by omega)
            have hbel := hbb1.trans hb3
            have hbuild := bs23 rA.item w1
            generalize hgz : w1.heap.size = gz at hrun hbuild
            refine anyH_one 3 ⟨some 49, .buildSlice 23 1 #[(0, .tmp 48)], _, _, _, none⟩ (.slice (some ⟨gz, 0, none⟩) 1 1) _ (by kernel_rfl) rfl rfl (exec_bs rfl hbuild) trivial ?_
            simp only [Act.put, List.setIfInBounds_toArray, List.set_cons_zero, List.set_cons_succ]
            refine anyH_one 4 ⟨some 50, .call { callee := .builtin .append, args := #[.tmp 47, .tmp 49], argTypes := #[23, 23] }, _, _, _, none⟩ v' w' (by kernel_rfl) rfl rfl (exec_append (u := viA) (s := .slice (some ⟨gz, 0, none⟩) 1 1) rfl rfl hrun) trivial ?_
            simp only [Act.put, List.setIfInBounds_toArray, List.set_cons_zero, List.set_cons_succ]
            refine anyH_one 5 ⟨some 51, .fieldAddr 26 (.tmp 6) 2, _, _, _, none⟩ (.pointer (some ⟨b6, 2, none⟩)) w' (by kernel_rfl) rfl rfl (exec_v (field26 b6 _).2.1) trivial ?_
            simp only [Act.put, List.setIfInBounds_toArray, List.set_cons_zero, List.set_cons_succ]
            refine anyH_oneSkip 6 ⟨none, .store 23 (.tmp 51) (.tmp 50), _, _, _, none⟩ (w'.setCell ⟨b6, 2, none⟩ v') (by kernel_rfl) rfl rfl (exec_store23 rfl rfl hsl hc3 hf3) trivial ?_
            simp only [Act.put, List.setIfInBounds_toArray, List.set_cons_zero, List.set_cons_succ]
            refine wpAnyH_done (by kernel_rfl) ?_ _
            exact ⟨rfl, ⟨gz, v', rfl⟩, ⟨_, _, _, hrd3, hbel⟩⟩
          · refine wpOp_callW (o := ⟨some 48, .call { callee := .value (.func 65), args := #[.tmp 5], argTypes := #[89] }, _, _, _, none⟩) rfl rfl (exec_call65 rfl) ?_
            refine (ritm_any hrd0.rs hrsA).mono ?_
            rintro e w1 ⟨rfl, h1, k1⟩
            refine ⟨_, rfl, trivial, ?_⟩
            simp only [Act.put, List.setIfInBounds_toArray, List.set_cons_zero, List.set_cons_succ]
            have hrd1 := hrd0.read k1 h1
            have hload1 := (cells4 hrd1.nd).1.2.2.1
            have hbb1 := hbb0.trans (k1.below (B := B) (by intro i hi; simp only [List.mem_singleton] at hi; subst hi; exact hrdA.h5) (Nat.le_trans hBrA (Nat.le_refl _)))
            obtain ⟨v', w', hc, hc2, hrun, hsl, hc3, hf3, hrd3, hb3⟩ := rd_push2 hrd1 (Nat.le_trans hBrA hbb1.size) rA.item (by omega)
            have hbel := hbb1.trans hb3
            have hbuild := bs23 rA.item w1
            generalize hgz : w1.heap.size = gz at hrun hbuild
            refine anyH_two 1 3 (by kernel_rfl) ?_ ?_
            · refine wpOp_run (o := ⟨some 47, .load 23 (.tmp 46), _, _, _, none⟩) rfl rfl (exec_v (load23 hc)) ⟨trivial, ?_⟩
              simp only [Act.put, List.setIfInBounds_toArray, List.set_cons_zero, List.set_cons_succ]
              refine anyH_one 3 ⟨some 49, .buildSlice 23 1 #[(0, .tmp 48)], _, _, _, none⟩ (.slice (some ⟨gz, 0, none⟩) 1 1) _ (by kernel_rfl) rfl rfl (exec_bs rfl hbuild) trivial ?_
              simp only [Act.put, List.setIfInBounds_toArray, List.set_cons_zero, List.set_cons_succ]
              refine anyH_one 4 ⟨some 50, .call { callee := .builtin .append, args := #[.tmp 47, .tmp 49], argTypes := #[23, 23] }, _, _, _, none⟩ v' w' (by kernel_rfl) rfl rfl (exec_append (u := viA) (s := .slice (some ⟨gz, 0, none⟩) 1 1) rfl rfl hrun) trivial ?_
              simp only [Act.put, List.setIfInBounds_toArray, List.set_cons_zero, List.set_cons_succ]
              refine anyH_one 5 ⟨some 51, .fieldAddr 26 (.tmp 6) 2, _, _, _, none⟩ (.pointer (some ⟨b6, 2, none⟩)) w' (by kernel_rfl) rfl rfl (exec_v (field26 b6 _).2.1) trivial ?_
              simp only [Act.put, List.setIfInBounds_toArray, List.set_cons_zero, List.set_cons_succ]
              refine anyH_oneSkip 6 ⟨none, .store 23 (.tmp 51) (.tmp 50), _, _, _, none⟩ (w'.setCell ⟨b6, 2, none⟩ v') (by kernel_rfl) rfl rfl (exec_store23 rfl rfl hsl hc3 hf3) trivial ?_
              simp only [Act.put, List.setIfInBounds_toArray, List.set_cons_zero, List.set_cons_succ]
              refine wpAnyH_done (by kernel_rfl) ?_ _
              exact ⟨rfl, ⟨gz, v', rfl⟩, ⟨_, _, _, hrd3, hbel⟩⟩
            · refine wpOp_run (o := ⟨some 49, .buildSlice 23 1 #[(0, .tmp 48)], _, _, _, none⟩) rfl rfl (exec_bs rfl hbuild) ⟨trivial, ?_⟩
              simp only [Act.put, List.setIfInBounds_toArray, List.set_cons_zero, List.set_cons_succ]
              refine anyH_one 1 ⟨some 47, .load 23 (.tmp 46), _, _, _, none⟩ viA _ (by kernel_rfl) rfl rfl (exec_v (load23 hc2)) trivial ?_
              simp only [Act.put, List.setIfInBounds_toArray, List.set_cons_zero, List.set_cons_succ]
              refine anyH_one 4 ⟨some 50, .call { callee := .builtin .append, args := #[.tmp 47, .tmp 49], argTypes := #[23, 23] }, _, _, _, none⟩ v' w' (by kernel_rfl) rfl rfl (exec_append (u := viA) (s := .slice (some ⟨gz, 0, none⟩) 1 1) rfl rfl hrun) trivial ?_
              simp only [Act.put, List.setIfInBounds_toArray, List.set_cons_zero, List.set_cons_succ]
              refine anyH_one 5 ⟨some 51, .fieldAddr 26 (.tmp 6) 2, _, _, _, none⟩ (.pointer (some ⟨b6, 2, none⟩)) w' (by kernel_rfl) rfl rfl (exec_v (field26 b6 _).2.1) trivial ?_
              simp only [Act.put, List.setIfInBounds_toArray, List.set_cons_zero, List.set_cons_succ]
              refine anyH_oneSkip 6 ⟨none, .store 23 (.tmp 51) (.tmp 50), _, _, _, none⟩ (w'.setCell ⟨b6, 2, none⟩ v') (by kernel_rfl) rfl rfl (exec_store23 rfl rfl hsl hc3 hf3) trivial ?_
              simp only [Act.put, List.setIfInBounds_toArray, List.set_cons_zero, List.set_cons_succ]
              refine wpAnyH_done (by kernel_rfl) ?_ _
              exact ⟨rfl, ⟨gz, v', rfl⟩, ⟨_, _, _, hrd3, hbel⟩⟩
        rintro wB gB vB ⟨vkB, viB, vdB, hrdB, hbelB⟩
        have hstep : stepR (r, n) = (rA.afterItem, { nA with items := nA.items ++ [rA.item] }) := by
          unfold stepR
          rw [HInv.out.lf, ← hrA, ← hnA2]
          rfl
        have HI1 : Hid (RInv w wB B B b5 b6 N (k + 1) true c (rA.afterItem) ({ nA with items := nA.items ++ [rA.item] })) := by
          refine ⟨?_, ?_, ?_, ?_, ?_, ?_, ?_, ?_, (HInv.out.bel.trans hbelA).trans hbelB, ⟨_, _, _, hrdB⟩⟩
          · rw [← hnA2]; exact HInv.out.lf
          · rw [← hnA2]; simp [hkl]
          · rw [← hnA2]; simp [hil]
          · rw [← hnA2]; simp [hdl]
          · exact Nat.le_trans (afterItem_le rA) hrsA
          · rw [← hnA2]
            intro x hx
            simp only [List.mem_append, List.mem_singleton] at hx
            rcases hx with hx | rfl
            · exact HInv.out.ks x hx
            · exact Nat.le_trans (keyR_le r) hrs
          · rw [← hnA2]
            intro x hx
            simp only [List.mem_append, List.mem_singleton] at hx
            rcases hx with hx | rfl
            · exact HInv.out.is_ x hx
            · exact Nat.le_trans (item_le rA) hrsA
          · have := HInv.out.run
            rw [show N - k = N - (k + 1) + 1 by omega, runR_succ _ _ HSh.out, hstep] at this
            exact this
        clear hrdB hbelB hrdA hbelA hstep
        go_wp2_with fail
        go_roundw
        case rel => exact ⟨k + 1, by omega, by go_num, _, _, HI1.out⟩
        case measure => simp [intOf]; omega
      | true =>
        rw [hsh] at s1
        have hfin : (runR (N - k) (r, n)).2 = n := by rw [runR_short _ _ hsh]
        clear hsh
        obtain ⟨ak, ck, rfl, hatk, hck1, hck2⟩ := at_of_own hrd.ok
        obtain ⟨ai, ci, rfl, hati, hci1, hci2⟩ := at_of_own hrd.oi
        obtain ⟨ad, cd, rfl, hatd, hcd1, hcd2⟩ := at_of_own hrd.od
        obtain ⟨⟨z0, z1, z2, z3⟩, hfz⟩ := cells4 hrd.z
        have g0 := hfz 0
        have g1 := hfz 1
        have g2 := hfz 2
        have g3 := hfz 3
        obtain ⟨⟨n0, n1, n2, n3⟩, _⟩ := cells4 hrd.nd
        rw [hinv.lf] at n0
        have HRD := hid hrd
        have HFin : Hid ((readN true c) = n) := by unfold readN Hid; rw [← HN.out, ← hinv.run, hfin]
        have HInv := hid hinv
        clear hinv hrd hatk hati hatd hfz hfin
        go_wp2_with fail
        refine bodyPost_ret (results_cell26 rfl rfl (set4 HRD.out.z _ _ _ _)) rfl ?_
        have hkz := kept_set4 wr B (.bool true) (.slice ak n.keys.length ck) (.slice ai n.items.length ci) (.slice ad n.kids.length cd)
        have hSz : ∀ k ∈ [B], ∀ cs t m, wr.heap[k]? = some (.cells cs t m) → t = 26 := fun k hk cs t m hh => by
          simp only [List.mem_singleton] at hk
          subst hk
          rw [HRD.out.z] at hh
          simp at hh
          exact hh.2.1.symm
        obtain ⟨bk, dk, ek, hbk, hb1, hb2⟩ := at_of_own (own_kept hkz HRD.out.ok (fun k hm cs t m hh => by rw [hSz k hm cs t m hh]; decide))
        obtain ⟨bi, di, ei, hbi, hb3, hb4⟩ := at_of_own (own_kept hkz HRD.out.oi (fun k hm cs t m hh => by rw [hSz k hm cs t m hh]; decide))
        obtain ⟨bd, dd, ed, hbd, hb5, hb6⟩ := at_of_own (own_kept hkz HRD.out.od (fun k hm cs t m hh => by rw [hSz k hm cs t m hh]; decide))
        simp only [Value.slice.injEq, true_and] at ek ei ed
        obtain ⟨rfl, rfl⟩ := ek
        obtain ⟨rfl, rfl⟩ := ei
        obtain ⟨rfl, rfl⟩ := ed
        refine ⟨_, rfl, ?_, ?_⟩
        · rw [HFin.out]
          refine ⟨?_, ⟨?_, ?_, ?_⟩, HInv.out.lf⟩
          · exact ⟨⟨_, _, _, _, _, _, by unfold nv; rw [HInv.out.lf], hbk, hbi, hbd, ⟨hb1, hb2⟩, ⟨hb3, hb4⟩, ⟨hb5, hb6⟩⟩, (fun x hx => by have := HInv.out.ks x hx; unfold maxLen; omega), (fun x hx => by have := HInv.out.is_ x hx; unfold maxLen; omega)⟩
          · have := HInv.out.kl; omega
          · rw [HInv.out.il]; split <;> omega
          · rw [HInv.out.dl]; split <;> omega
        · have := HInv.out.bel.trans (below_set4 HRD.out.h4 (.bool true) (.slice ak n.keys.length ck) (.slice ai n.items.length ci) (.slice ad n.kids.length cd))
          first | exact this | exact hBe ▸ this | (rw [hBe]; exact this)
    · have hlt' : ¬ (k : Int) < N := by omega
      have hfin : (runR (N - k) (r, n)).2 = n := by rw [show N - k = 0 by omega]; rfl
      clear s0 s1
      obtain ⟨ak, ck, rfl, hatk, hck1, hck2⟩ := at_of_own hrd.ok
      obtain ⟨ai, ci, rfl, hati, hci1, hci2⟩ := at_of_own hrd.oi
      obtain ⟨ad, cd, rfl, hatd, hcd1, hcd2⟩ := at_of_own hrd.od
      obtain ⟨⟨z0, z1, z2, z3⟩, hfz⟩ := cells4 hrd.z
      have g0 := hfz 0
      have g1 := hfz 1
      have g2 := hfz 2
      have g3 := hfz 3
      obtain ⟨⟨n0, n1, n2, n3⟩, _⟩ := cells4 hrd.nd
      rw [hinv.lf] at n0
      have HRD := hid hrd
      have HFin : Hid ((readN true c) = n) := by unfold readN Hid; rw [← HN.out, ← hinv.run, hfin]
      have HInv := hid hinv
      clear hinv hrd hatk hati hatd hfz hfin
      go_wp2_with fail
      refine bodyPost_ret (results_cell26 rfl rfl (set4 HRD.out.z _ _ _ _)) rfl ?_
      have hkz := kept_set4 wr B (.bool true) (.slice ak n.keys.length ck) (.slice ai n.items.length ci) (.slice ad n.kids.length cd)
      have hSz : ∀ k ∈ [B], ∀ cs t m, wr.heap[k]? = some (.cells cs t m) → t = 26 := fun k hk cs t m hh => by
        simp only [List.mem_singleton] at hk
        subst hk
        rw [HRD.out.z] at hh
        simp at hh
        exact hh.2.1.symm
      obtain ⟨bk, dk, ek, hbk, hb1, hb2⟩ := at_of_own (own_kept hkz HRD.out.ok (fun k hm cs t m hh => by rw [hSz k hm cs t m hh]; decide))
      obtain ⟨bi, di, ei, hbi, hb3, hb4⟩ := at_of_own (own_kept hkz HRD.out.oi (fun k hm cs t m hh => by rw [hSz k hm cs t m hh]; decide))
      obtain ⟨bd, dd, ed, hbd, hb5, hb6⟩ := at_of_own (own_kept hkz HRD.out.od (fun k hm cs t m hh => by rw [hSz k hm cs t m hh]; decide))
      simp only [Value.slice.injEq, true_and] at ek ei ed
      obtain ⟨rfl, rfl⟩ := ek
      obtain ⟨rfl, rfl⟩ := ei
      obtain ⟨rfl, rfl⟩ := ed
      refine ⟨_, rfl, ?_, ?_⟩
      · rw [HFin.out]
        refine ⟨?_, ⟨?_, ?_, ?_⟩, HInv.out.lf⟩
        · exact ⟨⟨_, _, _, _, _, _, by unfold nv; rw [HInv.out.lf], hbk, hbi, hbd, ⟨hb1, hb2⟩, ⟨hb3, hb4⟩, ⟨hb5, hb6⟩⟩, (fun x hx => by have := HInv.out.ks x hx; unfold maxLen; omega), (fun x hx => by have := HInv.out.is_ x hx; unfold maxLen; omega)⟩
        · have := HInv.out.kl; omega
        · rw [HInv.out.il]; split <;> omega
        · rw [HInv.out.dl]; split <;> omega
      · have := HInv.out.bel.trans (below_set4 HRD.out.h4 (.bool true) (.slice ak n.keys.length ck) (.slice ai n.items.length ci) (.slice ad n.kids.length cd))
        first | exact this | exact hBe ▸ this | (rw [hBe]; exact this)

set_option maxRecDepth 100000 in
set_option maxHeartbeats 4000000 in
theorem read_other {w : World} (c : ByteArray) (hc : c.size ≤ 20000) : Calls Try.prog 39 #[.bool false, .string c] w fun e w' => ∃ v, e = .returned v ∧ (NAt w' v (readN false c) ∧ (readN false c).small ∧ (readN false c).leaf = false) ∧ Below w.heap.size w w' := by
  have hX0 : Rd (((w.alloc (.cells #[.bool false, .slice none 0 0, .slice none 0 0, .slice none 0 0] 26)).alloc (.cells #[.string c, .bool false] 89)).alloc (.cells #[.bool false, .slice none 0 0, .slice none 0 0, .slice none 0 0] 26)) w.heap.size w.heap.size (w.heap.size + 1) (w.heap.size + 1 + 1) (.slice none 0 0) (.slice none 0 0) (.slice none 0 0) ⟨c, false⟩ ⟨false, [], [], []⟩ := by
    have e0 : (w.alloc (.cells #[.bool false, .slice none 0 0, .slice none 0 0, .slice none 0 0] 26)).heap.size = w.heap.size + 1 := by simp
    have e1 : ((w.alloc (.cells #[.bool false, .slice none 0 0, .slice none 0 0, .slice none 0 0] 26)).alloc (.cells #[.string c, .bool false] 89)).heap.size = w.heap.size + 1 + 1 := by simp
    refine ⟨?_, ?_, World.ownsRow_nil _ _ _ _, World.ownsRow_nil _ _ _ _, World.ownsRow_nil _ _ _ _, ?_, by omega, Nat.le_refl _, by omega, by omega⟩
    · have := heap_alloc_new (w.alloc (.cells #[.bool false, .slice none 0 0, .slice none 0 0, .slice none 0 0] 26)) (.cells #[.string c, .bool false] 89)
      rw [e0] at this
      exact (Below.heap_alloc _ _ _ (by rw [e1]; omega)).trans this
    · have := heap_alloc_new ((w.alloc (.cells #[.bool false, .slice none 0 0, .slice none 0 0, .slice none 0 0] 26)).alloc (.cells #[.string c, .bool false] 89)) (.cells #[.bool false, .slice none 0 0, .slice none 0 0, .slice none 0 0] 26)
      rw [e1] at this
      exact this
    · exact (Below.heap_alloc _ _ _ (by rw [e1]; omega)).trans ((Below.heap_alloc _ _ _ (by rw [e0]; omega)).trans (heap_alloc_new w _))
  have HX := hid hX0
  have HB0 := hid ((below_two w (.cells #[.bool false, .slice none 0 0, .slice none 0 0, .slice none 0 0] 26) (.cells #[.string c, .bool false] 89)).trans ((below_box ((w.alloc (.cells #[.bool false, .slice none 0 0, .slice none 0 0, .slice none 0 0] 26)).alloc (.cells #[.string c, .bool false] 89)) (.cells #[.bool false, .slice none 0 0, .slice none 0 0, .slice none 0 0] 26)).mono (below_two w _ _).size))
  clear hX0
  go_enter Try.func39, Try.ntmps39
  go_wp2_with fail
  generalize (((w.alloc (.cells #[.bool false, .slice none 0 0, .slice none 0 0, .slice none 0 0] 26)).alloc (.cells #[.string c, .bool false] 89)).alloc (.cells #[.bool false, .slice none 0 0, .slice none 0 0, .slice none 0 0] 26)) = W at HX HB0 ⊢
  have hB : w.heap.size ≤ W.heap.size := HB0.out.size
  generalize hBe : w.heap.size = B at HX HB0 hB ⊢
  generalize hB6 : B + 1 + 1 = b6 at HX ⊢
  generalize hB5 : B + 1 = b5 at HX hB6 ⊢
  clear hB5 hB6
  refine (rnum_any HX.out.rs hc 2 (by omega)).mono ?_
  rintro e w1 ⟨rfl, h1, k1⟩
  have HRD := hid (HX.out.read k1 h1)
  have HB1 := hid (HB0.out.trans (k1.below (B := B) (by intro i hi; simp only [List.mem_singleton] at hi; subst hi; exact HX.out.h5) hB))
  have hn0 := num_nonneg (Rs.mk c false) 2
  have hn1 := num_lt (Rs.mk c false) 2 (by omega)
  have hcs := after_size (Rs.mk c false) 2
  clear h1 k1 HX HB0
  obtain ⟨N, hN⟩ : ∃ N : Nat, N = ((Rs.mk c false).num 2).toNat := ⟨_, rfl⟩
  have hNc : (Rs.mk c false).num 2 = (N : Int) := by omega
  have hN5 : N ≤ 65535 := by omega
  rw [hNc]
  have HN := hid hN
  clear hN hNc hn0 hn1
  go_wp2_with fail
  obtain ⟨r, hr⟩ : ∃ r, r = (Rs.mk c false).after 2 := ⟨_, rfl⟩
  obtain ⟨n, hn⟩ : ∃ n : Nd, n = ⟨false, [], [], []⟩ := ⟨_, rfl⟩
  have hrd := HRD.out
  rw [← hr, ← hn] at hrd
  have hrs : r.s.size ≤ 20000 := by rw [hr]; exact Nat.le_trans hcs hc
  have hBr : B ≤ w1.heap.size := Nat.le_trans (hBe ▸ Nat.le_refl _) HB1.out.size
  have hl0 : n.kids.length ≤ 100 := by rw [hn]; decide
  apply wp_once (fun w' => ∃ vk vi vd, Rd w' B B b5 b6 vk vi vd (r.after 4) { n with kids := n.kids ++ [r.num 4] } ∧ Below B w1 w')
  apply Exists.intro
  apply And.intro
  · have hrd0 : Rd w1.drew B B b5 b6 (.slice none 0 0) (.slice none 0 0) (.slice none 0 0) r n := ⟨hrd.rs, hrd.nd, hrd.ok, hrd.oi, hrd.od, hrd.z, hrd.ne, hrd.h4, hrd.h5, hrd.h6⟩
    have hload0 := (cells4 hrd0.nd).1.2.2.2
    have hbb0 : Below B w1 w1.drew := (Below.refl B w1).drew
    skip
    refine wp_region_held_drew (S := fun _ => True) (by kernel_rfl) trivial ?_
    intro _
    refine anyH_take 0 ⟨some 18, .fieldAddr 26 (.tmp 6) 3, _, _, _, none⟩ (.pointer (some ⟨b6, 3, none⟩)) rfl rfl (by kernel_rfl) (by kernel_rfl) (by kernel_rfl) (fun _ _ _ h => absurd h.1 (by simp)) (fun w _ => exec_v (field26 b6 w).2.2) trivial ?_
    simp only [Act.put, List.setIfInBounds_toArray, List.set_cons_zero, List.set_cons_succ]
    refine anyH_take 2 ⟨some 20, .fieldAddr 89 (.tmp 5) 0, _, _, _, none⟩ (.pointer (some ⟨b5, 0, none⟩)) rfl rfl (by kernel_rfl) (by kernel_rfl) (by kernel_rfl) (fun _ _ _ h => absurd h.1 (by simp)) (fun w _ => exec_v (field89 b5 w)) trivial ?_
    simp only [Act.put, List.setIfInBounds_toArray, List.set_cons_zero, List.set_cons_succ]
    refine anyH_two 1 3 (by kernel_rfl) ?_ ?_
    · refine wpOp_run (o := ⟨some 19, .load 24 (.tmp 18), _, _, _, none⟩) rfl rfl (exec_v (load24 hload0)) ⟨trivial, ?_⟩
      simp only [Act.put, List.setIfInBounds_toArray, List.set_cons_zero, List.set_cons_succ]
      refine anyH_callW 3 ⟨some 21, .call { callee := .value (.func 63), args := #[.tmp 20, .const (.int .i64 4)], argTypes := #[87, 3] }, _, _, _, none⟩ 63 _ (by kernel_rfl) rfl rfl (exec_call63 rfl rfl) ?_
      refine (rnum_any hrd0.rs hrs 4 (by omega)).mono ?_
      rintro e wI ⟨rfl, h1, k1⟩
      refine ⟨_, rfl, trivial, ?_⟩
      simp only [Act.put, List.setIfInBounds_toArray, List.set_cons_zero, List.set_cons_succ]
      have hrd1 := hrd0.read k1 h1
      have hload1 := (cells4 hrd1.nd).1.2.2.2
      have hbb1 := hbb0.trans (k1.below (B := B) (by intro i hi; simp only [List.mem_singleton] at hi; subst hi; exact hrd.h5) (Nat.le_trans hBr (Nat.le_refl _)))
      obtain ⟨v', w', hc, hc2, hrun, hsl, hc3, hf3, hrd3, hb3⟩ := rd_push3 hrd1 (Nat.le_trans hBr hbb1.size) (r.num 4) (by omega)
      have hbel := hbb1.trans hb3
      have hbuild := bs24 (r.num 4) wI
      generalize hgz : wI.heap.size = gz at hrun hbuild
      refine anyH_one 4 ⟨some 22, .buildSlice 24 1 #[(0, .tmp 21)], _, _, _, none⟩ (.slice (some ⟨gz, 0, none⟩) 1 1) _ (by kernel_rfl) rfl rfl (exec_bs rfl hbuild) trivial ?_
      simp only [Act.put, List.setIfInBounds_toArray, List.set_cons_zero, List.set_cons_succ]
      refine anyH_one 5 ⟨some 23, .call { callee := .builtin .append, args := #[.tmp 19, .tmp 22], argTypes := #[24, 24] }, _, _, _, none⟩ v' w' (by kernel_rfl) rfl rfl (exec_append (u := .slice none 0 0) (s := .slice (some ⟨gz, 0, none⟩) 1 1) rfl rfl hrun) trivial ?_
      simp only [Act.put, List.setIfInBounds_toArray, List.set_cons_zero, List.set_cons_succ]
      refine anyH_one 6 ⟨some 24, .fieldAddr 26 (.tmp 6) 3, _, _, _, none⟩ (.pointer (some ⟨b6, 3, none⟩)) w' (by kernel_rfl) rfl rfl (exec_v (field26 b6 _).2.2) trivial ?_
      simp only [Act.put, List.setIfInBounds_toArray, List.set_cons_zero, List.set_cons_succ]
      refine anyH_oneSkip 7 ⟨none, .store 24 (.tmp 24) (.tmp 23), _, _, _, none⟩ (w'.setCell ⟨b6, 3, none⟩ v') (by kernel_rfl) rfl rfl (exec_store24 rfl rfl hsl hc3 hf3) trivial ?_
      simp only [Act.put, List.setIfInBounds_toArray, List.set_cons_zero, List.set_cons_succ]
      refine wpAnyH_done (by kernel_rfl) ?_ _
      exact ⟨rfl, ⟨gz, v', rfl⟩, ⟨_, _, _, hrd3, hbel⟩⟩
    · refine wpOp_callW (o := ⟨some 21, .call { callee := .value (.func 63), args := #[.tmp 20, .const (.int .i64 4)], argTypes := #[87, 3] }, _, _, _, none⟩) rfl rfl (exec_call63 rfl rfl) ?_
      refine (rnum_any hrd0.rs hrs 4 (by omega)).mono ?_
      rintro e wI ⟨rfl, h1, k1⟩
      refine ⟨_, rfl, trivial, ?_⟩
      simp only [Act.put, List.setIfInBounds_toArray, List.set_cons_zero, List.set_cons_succ]
      have hrd1 := hrd0.read k1 h1
      have hload1 := (cells4 hrd1.nd).1.2.2.2
      have hbb1 := hbb0.trans (k1.below (B := B) (by intro i hi; simp only [List.mem_singleton] at hi; subst hi; exact hrd.h5) (Nat.le_trans hBr (Nat.le_refl _)))
      obtain ⟨v', w', hc, hc2, hrun, hsl, hc3, hf3, hrd3, hb3⟩ := rd_push3 hrd1 (Nat.le_trans hBr hbb1.size) (r.num 4) (by omega)
      have hbel := hbb1.trans hb3
      have hbuild := bs24 (r.num 4) wI
      generalize hgz : wI.heap.size = gz at hrun hbuild
      refine anyH_two 1 4 (by kernel_rfl) ?_ ?_
      · refine wpOp_run (o := ⟨some 19, .load 24 (.tmp 18), _, _, _, none⟩) rfl rfl (exec_v (load24 hc)) ⟨trivial, ?_⟩
        simp only [Act.put, List.setIfInBounds_toArray, List.set_cons_zero, List.set_cons_succ]
        refine anyH_one 4 ⟨some 22, .buildSlice 24 1 #[(0, .tmp 21)], _, _, _, none⟩ (.slice (some ⟨gz, 0, none⟩) 1 1) _ (by kernel_rfl) rfl rfl (exec_bs rfl hbuild) trivial ?_
        simp only [Act.put, List.setIfInBounds_toArray, List.set_cons_zero, List.set_cons_succ]
        refine anyH_one 5 ⟨some 23, .call { callee := .builtin .append, args := #[.tmp 19, .tmp 22], argTypes := #[24, 24] }, _, _, _, none⟩ v' w' (by kernel_rfl) rfl rfl (exec_append (u := .slice none 0 0) (s := .slice (some ⟨gz, 0, none⟩) 1 1) rfl rfl hrun) trivial ?_
        simp only [Act.put, List.setIfInBounds_toArray, List.set_cons_zero, List.set_cons_succ]
        refine anyH_one 6 ⟨some 24, .fieldAddr 26 (.tmp 6) 3, _, _, _, none⟩ (.pointer (some ⟨b6, 3, none⟩)) w' (by kernel_rfl) rfl rfl (exec_v (field26 b6 _).2.2) trivial ?_
        simp only [Act.put, List.setIfInBounds_toArray, List.set_cons_zero, List.set_cons_succ]
        refine anyH_oneSkip 7 ⟨none, .store 24 (.tmp 24) (.tmp 23), _, _, _, none⟩ (w'.setCell ⟨b6, 3, none⟩ v') (by kernel_rfl) rfl rfl (exec_store24 rfl rfl hsl hc3 hf3) trivial ?_
        simp only [Act.put, List.setIfInBounds_toArray, List.set_cons_zero, List.set_cons_succ]
        refine wpAnyH_done (by kernel_rfl) ?_ _
        exact ⟨rfl, ⟨gz, v', rfl⟩, ⟨_, _, _, hrd3, hbel⟩⟩
      · refine wpOp_run (o := ⟨some 22, .buildSlice 24 1 #[(0, .tmp 21)], _, _, _, none⟩) rfl rfl (exec_bs rfl hbuild) ⟨trivial, ?_⟩
        simp only [Act.put, List.setIfInBounds_toArray, List.set_cons_zero, List.set_cons_succ]
        refine anyH_one 1 ⟨some 19, .load 24 (.tmp 18), _, _, _, none⟩ (.slice none 0 0) _ (by kernel_rfl) rfl rfl (exec_v (load24 hc2)) trivial ?_
        simp only [Act.put, List.setIfInBounds_toArray, List.set_cons_zero, List.set_cons_succ]
        refine anyH_one 5 ⟨some 23, .call { callee := .builtin .append, args := #[.tmp 19, .tmp 22], argTypes := #[24, 24] }, _, _, _, none⟩ v' w' (by kernel_rfl) rfl rfl (exec_append (u := .slice none 0 0) (s := .slice (some ⟨gz, 0, none⟩) 1 1) rfl rfl hrun) trivial ?_
        simp only [Act.put, List.setIfInBounds_toArray, List.set_cons_zero, List.set_cons_succ]
        refine anyH_one 6 ⟨some 24, .fieldAddr 26 (.tmp 6) 3, _, _, _, none⟩ (.pointer (some ⟨b6, 3, none⟩)) w' (by kernel_rfl) rfl rfl (exec_v (field26 b6 _).2.2) trivial ?_
        simp only [Act.put, List.setIfInBounds_toArray, List.set_cons_zero, List.set_cons_succ]
        refine anyH_oneSkip 7 ⟨none, .store 24 (.tmp 24) (.tmp 23), _, _, _, none⟩ (w'.setCell ⟨b6, 3, none⟩ v') (by kernel_rfl) rfl rfl (exec_store24 rfl rfl hsl hc3 hf3) trivial ?_
        simp only [Act.put, List.setIfInBounds_toArray, List.set_cons_zero, List.set_cons_succ]
        refine wpAnyH_done (by kernel_rfl) ?_ _
        exact ⟨rfl, ⟨gz, v', rfl⟩, ⟨_, _, _, hrd3, hbel⟩⟩
  rintro w2 g2 v2 ⟨vk, vi, vd, hrd2, hbel2⟩
  have HI0 : Hid (RInv w w2 B B b5 b6 N 0 false c (((Rs.mk c false).after 2).after 4) ⟨false, [], [], [((Rs.mk c false).after 2).num 4]⟩) := by
    rw [hn, hr] at hrd2
    exact ⟨rfl, rfl, rfl, rfl, Nat.le_trans (after_size _ 4) (Nat.le_trans hcs hc), (fun x hx => by cases hx), (fun x hx => by cases hx), rfl, HB1.out.trans hbel2, ⟨_, _, _, hrd2⟩⟩
  clear HRD HB1 hrd2 hbel2 hrd hrs hBr hl0 hn hr n vk vi vd
  generalize r.num 4 = q4
  clear r
  go_wp2_with fail
  go_loopw [8] (fun i wr => ∃ k : Nat, k ≤ N ∧ i = .int .i64 k ∧ ∃ r n, RInv w wr B B b5 b6 N k false c r n) (fun i _ => N - (intOf i).toNat)
  case atStart => exact ⟨0, by omega, rfl, _, _, HI0.out⟩
  case round =>
    clear HI0
    obtain ⟨k, hk, rfl, r, n, hinv⟩ := hrel
    obtain ⟨vk, vi, vd, hrd⟩ := hinv.rd
    obtain ⟨⟨s0, s1⟩, _⟩ := hrd.rs.cells
    by_cases hlt : k < N
    · have hlt' : (k : Int) < N := by omega
      cases hsh : r.short with
      | false =>
        rw [hsh] at s1
        have hrs := hinv.rs
        have hBr : B ≤ wr.heap.size := Nat.le_trans (hBe ▸ Nat.le_refl _) hinv.bel.size
        have hkl := hinv.kl
        have hil := hinv.il
        have hdl := hinv.dl
        have HInv := hid hinv
        have HRd := hid hrd
        have HSh := hid hsh
        have hl0 : n.keys.length ≤ 69999 := by omega
        clear hinv hrd hsh s0
        go_wp2_with fail
        have hrd := HRd.out
        apply wp_once (fun w' => ∃ vk vi vd, Rd w' B B b5 b6 vk vi vd r.afterKey { n with keys := n.keys ++ [r.keyR] } ∧ Below B wr w')
        apply Exists.intro
        apply And.intro
        · have hrd0 : Rd wr.drew B B b5 b6 vk vi vd r n := ⟨hrd.rs, hrd.nd, hrd.ok, hrd.oi, hrd.od, hrd.z, hrd.ne, hrd.h4, hrd.h5, hrd.h6⟩
          have hload0 := (cells4 hrd0.nd).1.2.1
          have hbb0 : Below B wr wr.drew := (Below.refl B wr).drew
          have hcast : ((r.num 1).toNat : Int) = r.num 1 := by have := num_nonneg r 1; omega
          have hlim : (r.num 1).toNat ≤ 100000 := by have := num_lt r 1 (by omega); omega
          have HT2 := hid (fun (w1 : World) (h : RsAt w1 b5 (r.after 1)) => (hcast ▸ take_any h (Nat.le_trans (after_size r 1) hrs) (r.num 1).toNat hlim : Calls Try.prog 64 #[.pointer (some ⟨b5, 0, none⟩), .int .i64 (r.num 1)] w1 fun e w' => e = .returned (.string r.keyR) ∧ RsAt w' b5 r.afterKey ∧ Kept [b5] w1 w'))
          refine wp_region_held_drew (S := fun _ => True) (by kernel_rfl) trivial ?_
          intro _
          refine anyH_take 0 ⟨some 36, .fieldAddr 26 (.tmp 6) 1, _, _, _, none⟩ (.pointer (some ⟨b6, 1, none⟩)) rfl rfl (by kernel_rfl) (by kernel_rfl) (by kernel_rfl) (fun _ _ _ h => absurd h.1 (by simp)) (fun w _ => exec_v (field26 b6 w).1) trivial ?_
          simp only [Act.put, List.setIfInBounds_toArray, List.set_cons_zero, List.set_cons_succ]
          refine anyH_take 2 ⟨some 38, .fieldAddr 89 (.tmp 5) 0, _, _, _, none⟩ (.pointer (some ⟨b5, 0, none⟩)) rfl rfl (by kernel_rfl) (by kernel_rfl) (by kernel_rfl) (fun _ _ _ h => absurd h.1 (by simp)) (fun w _ => exec_v (field89 b5 w)) trivial ?_
          simp only [Act.put, List.setIfInBounds_toArray, List.set_cons_zero, List.set_cons_succ]
          refine anyH_take 3 ⟨some 39, .fieldAddr 89 (.tmp 5) 0, _, _, _, none⟩ (.pointer (some ⟨b5, 0, none⟩)) rfl rfl (by kernel_rfl) (by kernel_rfl) (by kernel_rfl) (fun _ _ _ h => absurd h.1 (by simp)) (fun w _ => exec_v (field89 b5 w)) trivial ?_
          simp only [Act.put, List.setIfInBounds_toArray, List.set_cons_zero, List.set_cons_succ]
          refine anyH_two 1 4 (by kernel_rfl) ?_ ?_
          · refine wpOp_run (o := ⟨some 37, .load 22 (.tmp 36), _, _, _, none⟩) rfl rfl (exec_v (load22 hload0)) ⟨trivial, ?_⟩
            simp only [Act.put, List.setIfInBounds_toArray, List.set_cons_zero, List.set_cons_succ]
            refine anyH_callW 4 ⟨some 40, .call { callee := .value (.func 63), args := #[.tmp 39, .const (.int .i64 1)], argTypes := #[87, 3] }, _, _, _, none⟩ 63 _ (by kernel_rfl) rfl rfl (exec_call63 rfl rfl) ?_
            refine (rnum_any hrd0.rs hrs 1 (by omega)).mono ?_
            rintro e w1 ⟨rfl, h1, k1⟩
            refine ⟨_, rfl, trivial, ?_⟩
            simp only [Act.put, List.setIfInBounds_toArray, List.set_cons_zero, List.set_cons_succ]
            have hrd1 := hrd0.read k1 h1
            have hload1 := (cells4 hrd1.nd).1.2.1
            have hbb1 := hbb0.trans (k1.below (B := B) (by intro i hi; simp only [List.mem_singleton] at hi; subst hi; exact hrd.h5) (Nat.le_trans hBr (Nat.le_refl _)))
            refine anyH_callW 5 ⟨some 41, .call { callee := .value (.func 64), args := #[.tmp 38, .tmp 40], argTypes := #[87, 3] }, _, _, _, none⟩ 64 _ (by kernel_rfl) rfl rfl (exec_call64 rfl rfl) ?_
            refine (HT2.out w1 h1).mono ?_
            rintro e w2 ⟨rfl, h2, k2⟩
            refine ⟨_, rfl, trivial, ?_⟩
            simp only [Act.put, List.setIfInBounds_toArray, List.set_cons_zero, List.set_cons_succ]
            have hrd2 := hrd1.read k2 h2
            have hload2 := (cells4 hrd2.nd).1.2.1
            have hbb2 := hbb1.trans (k2.below (B := B) (by intro i hi; simp only [List.mem_singleton] at hi; subst hi; exact hrd.h5) (Nat.le_trans hBr hbb1.size))
            obtain ⟨v', w', hc, hc2, hrun, hsl, hc3, hf3, hrd3, hb3⟩ := rd_push1 hrd2 (Nat.le_trans hBr hbb2.size) r.keyR (by omega)
            have hbel := hbb2.trans hb3
            have hbuild := bs22 r.keyR w2
            generalize hgz : w2.heap.size = gz at hrun hbuild
            refine anyH_one 6 ⟨some 42, .buildSlice 22 1 #[(0, .tmp 41)], _, _, _, none⟩ (.slice (some ⟨gz, 0, none⟩) 1 1) _ (by kernel_rfl) rfl rfl (exec_bs rfl hbuild) trivial ?_
            simp only [Act.put, List.setIfInBounds_toArray, List.set_cons_zero, List.set_cons_succ]
            refine anyH_one 7 ⟨some 43, .call { callee := .builtin .append, args := #[.tmp 37, .tmp 42], argTypes := #[22, 22] }, _, _, _, none⟩ v' w' (by kernel_rfl) rfl rfl (exec_append (u := vk) (s := .slice (some ⟨gz, 0, none⟩) 1 1) rfl rfl hrun) trivial ?_
            simp only [Act.put, List.setIfInBounds_toArray, List.set_cons_zero, List.set_cons_succ]
            refine anyH_one 8 ⟨some 44, .fieldAddr 26 (.tmp 6) 1, _, _, _, none⟩ (.pointer (some ⟨b6, 1, none⟩)) w' (by kernel_rfl) rfl rfl (exec_v (field26 b6 _).1) trivial ?_
            simp only [Act.put, List.setIfInBounds_toArray, List.set_cons_zero, List.set_cons_succ]
            refine anyH_oneSkip 9 ⟨none, .store 22 (.tmp 44) (.tmp 43), _, _, _, none⟩ (w'.setCell ⟨b6, 1, none⟩ v') (by kernel_rfl) rfl rfl (exec_store22 rfl rfl hsl hc3 hf3) trivial ?_
            simp only [Act.put, List.setIfInBounds_toArray, List.set_cons_zero, List.set_cons_succ]
            refine wpAnyH_done (by kernel_rfl) ?_ _
            exact ⟨rfl, ⟨gz, v', rfl⟩, ⟨_, _, _, hrd3, hbel⟩⟩
          · refine wpOp_callW (o := ⟨some 40, .call { callee := .value (.func 63), args := #[.tmp 39, .const (.int .i64 1)], argTypes := #[87, 3] }, _, _, _, none⟩) rfl rfl (exec_call63 rfl rfl) ?_
            refine (rnum_any hrd0.rs hrs 1 (by omega)).mono ?_
            rintro e w1 ⟨rfl, h1, k1⟩
            refine ⟨_, rfl, trivial, ?_⟩
            simp only [Act.put, List.setIfInBounds_toArray, List.set_cons_zero, List.set_cons_succ]
            have hrd1 := hrd0.read k1 h1
            have hload1 := (cells4 hrd1.nd).1.2.1
            have hbb1 := hbb0.trans (k1.below (B := B) (by intro i hi; simp only [List.mem_singleton] at hi; subst hi; exact hrd.h5) (Nat.le_trans hBr (Nat.le_refl _)))
            refine anyH_two 1 5 (by kernel_rfl) ?_ ?_
            · refine wpOp_run (o := ⟨some 37, .load 22 (.tmp 36), _, _, _, none⟩) rfl rfl (exec_v (load22 hload1)) ⟨trivial, ?_⟩
              simp only [Act.put, List.setIfInBounds_toArray, List.set_cons_zero, List.set_cons_succ]
              refine anyH_callW 5 ⟨some 41, .call { callee := .value (.func 64), args := #[.tmp 38, .tmp 40], argTypes := #[87, 3] }, _, _, _, none⟩ 64 _ (by kernel_rfl) rfl rfl (exec_call64 rfl rfl) ?_
              refine (HT2.out w1 h1).mono ?_
              rintro e w2 ⟨rfl, h2, k2⟩
              refine ⟨_, rfl, trivial, ?_⟩
              simp only [Act.put, List.setIfInBounds_toArray, List.set_cons_zero, List.set_cons_succ]
              have hrd2 := hrd1.read k2 h2
              have hload2 := (cells4 hrd2.nd).1.2.1
              have hbb2 := hbb1.trans (k2.below (B := B) (by intro i hi; simp only [List.mem_singleton] at hi; subst hi; exact hrd.h5) (Nat.le_trans hBr hbb1.size))
              obtain ⟨v', w', hc, hc2, hrun, hsl, hc3, hf3, hrd3, hb3⟩ := rd_push1 hrd2 (Nat.le_trans hBr hbb2.size) r.keyR (by omega)
              have hbel := hbb2.trans hb3
              have hbuild := bs22 r.keyR w2
              generalize hgz : w2.heap.size = gz at hrun hbuild
              refine anyH_one 6 ⟨some 42, .buildSlice 22 1 #[(0, .tmp 41)], _, _, _, none⟩ (.slice (some ⟨gz, 0, none⟩) 1 1) _ (by kernel_rfl) rfl rfl (exec_bs rfl hbuild) trivial ?_
              simp only [Act.put, List.setIfInBounds_toArray, List.set_cons_zero, List.set_cons_succ]
              refine anyH_one 7 ⟨some 43, .call { callee := .builtin .append, args := #[.tmp 37, .tmp 42], argTypes := #[22, 22] }, _, _, _, none⟩ v' w' (by kernel_rfl) rfl rfl (exec_append (u := vk) (s := .slice (some ⟨gz, 0, none⟩) 1 1) rfl rfl hrun) trivial ?_
              simp only [Act.put, List.setIfInBounds_toArray, List.set_cons_zero, List.set_cons_succ]
              refine anyH_one 8 ⟨some 44, .fieldAddr 26 (.tmp 6) 1, _, _, _, none⟩ (.pointer (some ⟨b6, 1, none⟩)) w' (by kernel_rfl) rfl rfl (exec_v (field26 b6 _).1) trivial ?_
              simp only [Act.put, List.setIfInBounds_toArray, List.set_cons_zero, List.set_cons_succ]
              refine anyH_oneSkip 9 ⟨none, .store 22 (.tmp 44) (.tmp 43), _, _, _, none⟩ (w'.setCell ⟨b6, 1, none⟩ v') (by kernel_rfl) rfl rfl (exec_store22 rfl rfl hsl hc3 hf3) trivial ?_
              simp only [Act.put, List.setIfInBounds_toArray, List.set_cons_zero, List.set_cons_succ]
              refine wpAnyH_done (by kernel_rfl) ?_ _
              exact ⟨rfl, ⟨gz, v', rfl⟩, ⟨_, _, _, hrd3, hbel⟩⟩
            · refine wpOp_callW (o := ⟨some 41, .call { callee := .value (.func 64), args := #[.tmp 38, .tmp 40], argTypes := #[87, 3] }, _, _, _, none⟩) rfl rfl (exec_call64 rfl rfl) ?_
              refine (HT2.out w1 h1).mono ?_
              rintro e w2 ⟨rfl, h2, k2⟩
              refine ⟨_, rfl, trivial, ?_⟩
              simp only [Act.put, List.setIfInBounds_toArray, List.set_cons_zero, List.set_cons_succ]
              have hrd2 := hrd1.read k2 h2
              have hload2 := (cells4 hrd2.nd).1.2.1
              have hbb2 := hbb1.trans (k2.below (B := B) (by intro i hi; simp only [List.mem_singleton] at hi; subst hi; exact hrd.h5) (Nat.le_trans hBr hbb1.size))
              obtain ⟨v', w', hc, hc2, hrun, hsl, hc3, hf3, hrd3, hb3⟩ := rd_push1 hrd2 (Nat.le_trans hBr hbb2.size) r.keyR (by omega)
              have hbel := hbb2.trans hb3
              have hbuild := bs22 r.keyR w2
              generalize hgz : w2.heap.size = gz at hrun hbuild
              refine anyH_two 1 6 (by kernel_rfl) ?_ ?_
              · refine wpOp_run (o := ⟨some 37, .load 22 (.tmp 36), _, _, _, none⟩) rfl rfl (exec_v (load22 hc)) ⟨trivial, ?_⟩
                simp only [Act.put, List.setIfInBounds_toArray, List.set_cons_zero, List.set_cons_succ]
                refine anyH_one 6 ⟨some 42, .buildSlice 22 1 #[(0, .tmp 41)], _, _, _, none⟩ (.slice (some ⟨gz, 0, none⟩) 1 1) _ (by kernel_rfl) rfl rfl (exec_bs rfl hbuild) trivial ?_
                simp only [Act.put, List.setIfInBounds_toArray, List.set_cons_zero, List.set_cons_succ]
                refine anyH_one 7 ⟨some 43, .call { callee := .builtin .append, args := #[.tmp 37, .tmp 42], argTypes := #[22, 22] }, _, _, _, none⟩ v' w' (by kernel_rfl) rfl rfl (exec_append (u := vk) (s := .slice (some ⟨gz, 0, none⟩) 1 1) rfl rfl hrun) trivial ?_
                simp only [Act.put, List.setIfInBounds_toArray, List.set_cons_zero, List.set_cons_succ]
                refine anyH_one 8 ⟨some 44, .fieldAddr 26 (.tmp 6) 1, _, _, _, none⟩ (.pointer (some ⟨b6, 1, none⟩)) w' (by kernel_rfl) rfl rfl (exec_v (field26 b6 _).1) trivial ?_
                simp only [Act.put, List.setIfInBounds_toArray, List.set_cons_zero, List.set_cons_succ]
                refine anyH_oneSkip 9 ⟨none, .store 22 (.tmp 44) (.tmp 43), _, _, _, none⟩ (w'.setCell ⟨b6, 1, none⟩ v') (by kernel_rfl) rfl rfl (exec_store22 rfl rfl hsl hc3 hf3) trivial ?_
                simp only [Act.put, List.setIfInBounds_toArray, List.set_cons_zero, List.set_cons_succ]
                refine wpAnyH_done (by kernel_rfl) ?_ _
                exact ⟨rfl, ⟨gz, v', rfl⟩, ⟨_, _, _, hrd3, hbel⟩⟩
              · refine wpOp_run (o := ⟨some 42, .buildSlice 22 1 #[(0, .tmp 41)], _, _, _, none⟩) rfl rfl (exec_bs rfl hbuild) ⟨trivial, ?_⟩
                simp only [Act.put, List.setIfInBounds_toArray, List.set_cons_zero, List.set_cons_succ]
                refine anyH_one 1 ⟨some 37, .load 22 (.tmp 36), _, _, _, none⟩ vk _ (by kernel_rfl) rfl rfl (exec_v (load22 hc2)) trivial ?_
                simp only [Act.put, List.setIfInBounds_toArray, List.set_cons_zero, List.set_cons_succ]
                refine anyH_one 7 ⟨some 43, .call { callee := .builtin .append, args := #[.tmp 37, .tmp 42], argTypes := #[22, 22] }, _, _, _, none⟩ v' w' (by kernel_rfl) rfl rfl (exec_append (u := vk) (s := .slice (some ⟨gz, 0, none⟩) 1 1) rfl rfl hrun) trivial ?_
                simp only [Act.put, List.setIfInBounds_toArray, List.set_cons_zero, List.set_cons_succ]
                refine anyH_one 8 ⟨some 44, .fieldAddr 26 (.tmp 6) 1, _, _, _, none⟩ (.pointer (some ⟨b6, 1, none⟩)) w' (by kernel_rfl) rfl rfl (exec_v (field26 b6 _).1) trivial ?_
                simp only [Act.put, List.setIfInBounds_toArray, List.set_cons_zero, List.set_cons_succ]
                refine anyH_oneSkip 9 ⟨none, .store 22 (.tmp 44) (.tmp 43), _, _, _, none⟩ (w'.setCell ⟨b6, 1, none⟩ v') (by kernel_rfl) rfl rfl (exec_store22 rfl rfl hsl hc3 hf3) trivial ?_
                simp only [Act.put, List.setIfInBounds_toArray, List.set_cons_zero, List.set_cons_succ]
                refine wpAnyH_done (by kernel_rfl) ?_ _
                exact ⟨rfl, ⟨gz, v', rfl⟩, ⟨_, _, _, hrd3, hbel⟩⟩
        rintro wA gA vA ⟨vkA, viA, vdA, hrdA, hbelA⟩
        have HrdA := hid hrdA
        have HBelA := hid hbelA
        clear hrdA hbelA s1
        go_wp2_with fail
        have hrdA := HrdA.out
        have hbelA := HBelA.out
        have hrsA0 := afterKey_le r
        have hnA : ({ n with keys := n.keys ++ [r.keyR] } : Nd).items.length = n.items.length ∧ ({ n with keys := n.keys ++ [r.keyR] } : Nd).kids.length = n.kids.length := ⟨rfl, rfl⟩
        generalize hrA : r.afterKey = rA at hrdA hrsA0
        generalize hnA2 : ({ n with keys := n.keys ++ [r.keyR] } : Nd) = nA at hrdA hnA
        have hrsA : rA.s.size ≤ 20000 := Nat.le_trans hrsA0 hrs
        have hBrA : B ≤ wA.heap.size := Nat.le_trans hBr hbelA.size
        have hlA : nA.items.length ≤ 69999 ∧ nA.kids.length ≤ 69999 := by rw [hnA.1, hnA.2, hil, hdl]; simp; omega
        obtain ⟨hlA1, hlA2⟩ := hlA
        apply wp_once (fun w' => ∃ vk vi vd, Rd w' B B b5 b6 vk vi vd (rA.after 4) { nA with kids := nA.kids ++ [rA.num 4] } ∧ Below B wA w')
        apply Exists.intro
        apply And.intro
        · have hrd0 : Rd wA.drew B B b5 b6 vkA viA vdA rA nA := ⟨hrdA.rs, hrdA.nd, hrdA.ok, hrdA.oi, hrdA.od, hrdA.z, hrdA.ne, hrdA.h4, hrdA.h5, hrdA.h6⟩
          have hload0 := (cells4 hrd0.nd).1.2.2.2
          have hbb0 : Below B wA wA.drew := (Below.refl B wA).drew
          skip
          refine wp_region_held_drew (S := fun _ => True) (by kernel_rfl) trivial ?_
          intro _
          refine anyH_take 0 ⟨some 52, .fieldAddr 26 (.tmp 6) 3, _, _, _, none⟩ (.pointer (some ⟨b6, 3, none⟩)) rfl rfl (by kernel_rfl) (by kernel_rfl) (by kernel_rfl) (fun _ _ _ h => absurd h.1 (by simp)) (fun w _ => exec_v (field26 b6 w).2.2) trivial ?_
          simp only [Act.put, List.setIfInBounds_toArray, List.set_cons_zero, List.set_cons_succ]
          refine anyH_take 2 ⟨some 54, .fieldAddr 89 (.tmp 5) 0, _, _, _, none⟩ (.pointer (some ⟨b5, 0, none⟩)) rfl rfl (by kernel_rfl) (by kernel_rfl) (by kernel_rfl) (fun _ _ _ h => absurd h.1 (by simp)) (fun w _ => exec_v (field89 b5 w)) trivial ?_
          simp only [Act.put, List.setIfInBounds_toArray, List.set_cons_zero, List.set_cons_succ]
          refine anyH_two 1 3 (by kernel_rfl) ?_ ?_
          · refine wpOp_run (o := ⟨some 53, .load 24 (.tmp 52), _, _, _, none⟩) rfl rfl (exec_v (load24 hload0)) ⟨trivial, ?_⟩
            simp only [Act.put, List.setIfInBounds_toArray, List.set_cons_zero, List.set_cons_succ]
            refine anyH_callW 3 ⟨some 55, .call { callee := .value (.func 63), args := #[.tmp 54, .const (.int .i64 4)], argTypes := #[87, 3] }, _, _, _, none⟩ 63 _ (by kernel_rfl) rfl rfl (exec_call63 rfl rfl) ?_
            refine (rnum_any hrd0.rs hrsA 4 (by omega)).mono ?_
            rintro e w1 ⟨rfl, h1, k1⟩
            refine ⟨_, rfl, trivial, ?_⟩
            simp only [Act.put, List.setIfInBounds_toArray, List.set_cons_zero, List.set_cons_succ]
            have hrd1 := hrd0.read k1 h1
            have hload1 := (cells4 hrd1.nd).1.2.2.2
            have hbb1 := hbb0.trans (k1.below (B := B) (by intro i hi; simp only [List.mem_singleton] at hi; subst hi; exact hrdA.h5) (Nat.le_trans hBrA (Nat.le_refl _)))
            obtain ⟨v', w', hc, hc2, hrun, hsl, hc3, hf3, hrd3, hb3⟩ := rd_push3 hrd1 (Nat.le_trans hBrA hbb1.size) (rA.num 4) (by omega)
            have hbel := hbb1.trans hb3
            have hbuild := bs24 (rA.num 4) w1
            generalize hgz : w1.heap.size = gz at hrun hbuild
            refine anyH_one 4 ⟨some 56, .buildSlice 24 1 #[(0, .tmp 55)], _, _, _, none⟩ (.slice (some ⟨gz, 0, none⟩) 1 1) _ (by kernel_rfl) rfl rfl (exec_bs rfl hbuild) trivial ?_
            simp only [Act.put, List.setIfInBounds_toArray, List.set_cons_zero, List.set_cons_succ]
            refine anyH_one 5 ⟨some 57, .call { callee := .builtin .append, args := #[.tmp 53, .tmp 56], argTypes := #[24, 24] }, _, _, _, none⟩ v' w' (by kernel_rfl) rfl rfl (exec_append (u := vdA) (s := .slice (some ⟨gz, 0, none⟩) 1 1) rfl rfl hrun) trivial ?_
            simp only [Act.put, List.setIfInBounds_toArray, List.set_cons_zero, List.set_cons_succ]
            refine anyH_one 6 ⟨some 58, .fieldAddr 26 (.tmp 6) 3, _, _, _, none⟩ (.pointer (some ⟨b6, 3, none⟩)) w' (by kernel_rfl) rfl rfl (exec_v (field26 b6 _).2.2) trivial ?_
            simp only [Act.put, List.setIfInBounds_toArray, List.set_cons_zero, List.set_cons_succ]
            refine anyH_oneSkip 7 ⟨none, .store 24 (.tmp 58) (.tmp 57), _, _, _, none⟩ (w'.setCell ⟨b6, 3, none⟩ v') (by kernel_rfl) rfl rfl (exec_store24 rfl rfl hsl hc3 hf3) trivial ?_
            simp only [Act.put, List.setIfInBounds_toArray, List.set_cons_zero, List.set_cons_succ]
            refine wpAnyH_done (by kernel_rfl) ?_ _
            exact ⟨rfl, ⟨gz, v', rfl⟩, ⟨_, _, _, hrd3, hbel⟩⟩
          · refine wpOp_callW (o := ⟨some 55, .call { callee := .value (.func 63), args := #[.tmp 54, .const (.int .i64 4)], argTypes := #[87, 3] }, _, _, _, none⟩) rfl rfl (exec_call63 rfl rfl) ?_
            refine (rnum_any hrd0.rs hrsA 4 (by omega)).mono ?_
            rintro e w1 ⟨rfl, h1, k1⟩
            refine ⟨_, rfl, trivial, ?_⟩
            simp only [Act.put, List.setIfInBounds_toArray, List.set_cons_zero, List.set_cons_succ]
            have hrd1 := hrd0.read k1 h1
            have hload1 := (cells4 hrd1.nd).1.2.2.2
            have hbb1 := hbb0.trans (k1.below (B := B) (by intro i hi; simp only [List.mem_singleton] at hi; subst hi; exact hrdA.h5) (Nat.le_trans hBrA (Nat.le_refl _)))
            obtain ⟨v', w', hc, hc2, hrun, hsl, hc3, hf3, hrd3, hb3⟩ := rd_push3 hrd1 (Nat.le_trans hBrA hbb1.size) (rA.num 4) (by omega)
            have hbel := hbb1.trans hb3
            have hbuild := bs24 (rA.num 4) w1
            generalize hgz : w1.heap.size = gz at hrun hbuild
            refine anyH_two 1 4 (by kernel_rfl) ?_ ?_
            · refine wpOp_run (o := ⟨some 53, .load 24 (.tmp 52), _, _, _, none⟩) rfl rfl (exec_v (load24 hc)) ⟨trivial, ?_⟩
              simp only [Act.put, List.setIfInBounds_toArray, List.set_cons_zero, List.set_cons_succ]
              refine anyH_one 4 ⟨some 56, .buildSlice 24 1 #[(0, .tmp 55)], _, _, _, none⟩ (.slice (some ⟨gz, 0, none⟩) 1 1) _ (by kernel_rfl) rfl rfl (exec_bs rfl hbuild) trivial ?_
              simp only [Act.put, List.setIfInBounds_toArray, List.set_cons_zero, List.set_cons_succ]
              refine anyH_one 5 ⟨some 57, .call { callee := .builtin .append, args := #[.tmp 53, .tmp 56], argTypes := #[24, 24] }, _, _, _, none⟩ v' w' (by kernel_rfl) rfl rfl (exec_append (u := vdA) (s := .slice (some ⟨gz, 0, none⟩) 1 1) rfl rfl hrun) trivial ?_
              simp only [Act.put, List.setIfInBounds_toArray, List.set_cons_zero, List.set_cons_succ]
              refine anyH_one 6 ⟨some 58, .fieldAddr 26 (.tmp 6) 3, _, _, _, none⟩ (.pointer (some ⟨b6, 3, none⟩)) w' (by kernel_rfl) rfl rfl (exec_v (field26 b6 _).2.2) trivial ?_
              simp only [Act.put, List.setIfInBounds_toArray, List.set_cons_zero, List.set_cons_succ]
              refine anyH_oneSkip 7 ⟨none, .store 24 (.tmp 58) (.tmp 57), _, _, _, none⟩ (w'.setCell ⟨b6, 3, none⟩ v') (by kernel_rfl) rfl rfl (exec_store24 rfl rfl hsl hc3 hf3) trivial ?_
              simp only [Act.put, List.setIfInBounds_toArray, List.set_cons_zero, List.set_cons_succ]
              refine wpAnyH_done (by kernel_rfl) ?_ _
              exact ⟨rfl, ⟨gz, v', rfl⟩, ⟨_, _, _, hrd3, hbel⟩⟩
            · refine wpOp_run (o := ⟨some 56, .buildSlice 24 1 #[(0, .tmp 55)], _, _, _, none⟩) rfl rfl (exec_bs rfl hbuild) ⟨trivial, ?_⟩
              simp only [Act.put, List.setIfInBounds_toArray, List.set_cons_zero, List.set_cons_succ]
              refine anyH_one 1 ⟨some 53, .load 24 (.tmp 52), _, _, _, none⟩ vdA _ (by kernel_rfl) rfl rfl (exec_v (load24 hc2)) trivial ?_
              simp only [Act.put, List.setIfInBounds_toArray, List.set_cons_zero, List.set_cons_succ]
              refine anyH_one 5 ⟨some 57, .call { callee := .builtin .append, args := #[.tmp 53, .tmp 56], argTypes := #[24, 24] }, _, _, _, none⟩ v' w' (by kernel_rfl) rfl rfl (exec_append (u := vdA) (s := .slice (some ⟨gz, 0, none⟩) 1 1) rfl rfl hrun) trivial ?_
              simp only [Act.put, List.setIfInBounds_toArray, List.set_cons_zero, List.set_cons_succ]
              refine anyH_one 6 ⟨some 58, .fieldAddr 26 (.tmp 6) 3, _, _, _, none⟩ (.pointer (some ⟨b6, 3, none⟩)) w' (by kernel_rfl) rfl rfl (exec_v (field26 b6 _).2.2) trivial ?_
              simp only [Act.put, List.setIfInBounds_toArray, List.set_cons_zero, List.set_cons_succ]
              refine anyH_oneSkip 7 ⟨none, .store 24 (.tmp 58) (.tmp 57), _, _, _, none⟩ (w'.setCell ⟨b6, 3, none⟩ v') (by kernel_rfl) rfl rfl (exec_store24 rfl rfl hsl hc3 hf3) trivial ?_
              simp only [Act.put, List.setIfInBounds_toArray, List.set_cons_zero, List.set_cons_succ]
              refine wpAnyH_done (by kernel_rfl) ?_ _
              exact ⟨rfl, ⟨gz, v', rfl⟩, ⟨_, _, _, hrd3, hbel⟩⟩
        rintro wB gB vB ⟨vkB, viB, vdB, hrdB, hbelB⟩
        have hstep : stepR (r, n) = (rA.after 4, { nA with kids := nA.kids ++ [rA.num 4] }) := by
          unfold stepR
          rw [HInv.out.lf, ← hrA, ← hnA2]
          rfl
        have HI1 : Hid (RInv w wB B B b5 b6 N (k + 1) false c (rA.after 4) ({ nA with kids := nA.kids ++ [rA.num 4] })) := by
          refine ⟨?_, ?_, ?_, ?_, ?_, ?_, ?_, ?_, (HInv.out.bel.trans hbelA).trans hbelB, ⟨_, _, _, hrdB⟩⟩
          · rw [← hnA2]; exact HInv.out.lf
          · rw [← hnA2]; simp [hkl]
          · rw [← hnA2]; simp [hil]
          · rw [← hnA2]; simp [hdl]
          · exact Nat.le_trans (after_size rA 4) hrsA
          · rw [← hnA2]
            intro x hx
            simp only [List.mem_append, List.mem_singleton] at hx
            rcases hx with hx | rfl
            · exact HInv.out.ks x hx
            · exact Nat.le_trans (keyR_le r) hrs
          · rw [← hnA2]
            intro x hx
            exact HInv.out.is_ x hx
          · have := HInv.out.run
            rw [show N - k = N - (k + 1) + 1 by omega, runR_succ _ _ HSh.out, hstep] at this
            exact this
        clear hrdB hbelB hrdA hbelA hstep
        go_wp2_with fail
        go_roundw
        case rel => exact ⟨k + 1, by omega, by go_num, _, _, HI1.out⟩
        case measure => simp [intOf]; omega
      | true =>
        rw [hsh] at s1
        have hfin : (runR (N - k) (r, n)).2 = n := by rw [runR_short _ _ hsh]
        clear hsh
        obtain ⟨ak, ck, rfl, hatk, hck1, hck2⟩ := at_of_own hrd.ok
        obtain ⟨ai, ci, rfl, hati, hci1, hci2⟩ := at_of_own hrd.oi
        obtain ⟨ad, cd, rfl, hatd, hcd1, hcd2⟩ := at_of_own hrd.od
        obtain ⟨⟨z0, z1, z2, z3⟩, hfz⟩ := cells4 hrd.z
        have g0 := hfz 0
        have g1 := hfz 1
        have g2 := hfz 2
        have g3 := hfz 3
        obtain ⟨⟨n0, n1, n2, n3⟩, _⟩ := cells4 hrd.nd
        rw [hinv.lf] at n0
        have HRD := hid hrd
        have HFin : Hid ((readN false c) = n) := by unfold readN Hid; rw [← HN.out, ← hinv.run, hfin]
        have HInv := hid hinv
        clear hinv hrd hatk hati hatd hfz hfin
        go_wp2_with fail
        refine bodyPost_ret (results_cell26 rfl rfl (set4 HRD.out.z _ _ _ _)) rfl ?_
        have hkz := kept_set4 wr B (.bool false) (.slice ak n.keys.length ck) (.slice ai n.items.length ci) (.slice ad n.kids.length cd)
        have hSz : ∀ k ∈ [B], ∀ cs t m, wr.heap[k]? = some (.cells cs t m) → t = 26 := fun k hk cs t m hh => by
          simp only [List.mem_singleton] at hk
          subst hk
          rw [HRD.out.z] at hh
          simp at hh
          exact hh.2.1.symm
        obtain ⟨bk, dk, ek, hbk, hb1, hb2⟩ := at_of_own (own_kept hkz HRD.out.ok (fun k hm cs t m hh => by rw [hSz k hm cs t m hh]; decide))
        obtain ⟨bi, di, ei, hbi, hb3, hb4⟩ := at_of_own (own_kept hkz HRD.out.oi (fun k hm cs t m hh => by rw [hSz k hm cs t m hh]; decide))
        obtain ⟨bd, dd, ed, hbd, hb5, hb6⟩ := at_of_own (own_kept hkz HRD.out.od (fun k hm cs t m hh => by rw [hSz k hm cs t m hh]; decide))
        simp only [Value.slice.injEq, true_and] at ek ei ed
        obtain ⟨rfl, rfl⟩ := ek
        obtain ⟨rfl, rfl⟩ := ei
        obtain ⟨rfl, rfl⟩ := ed
        refine ⟨_, rfl, ?_, ?_⟩
        · rw [HFin.out]
          refine ⟨?_, ⟨?_, ?_, ?_⟩, HInv.out.lf⟩
          · exact ⟨⟨_, _, _, _, _, _, by unfold nv; rw [HInv.out.lf], hbk, hbi, hbd, ⟨hb1, hb2⟩, ⟨hb3, hb4⟩, ⟨hb5, hb6⟩⟩, (fun x hx => by have := HInv.out.ks x hx; unfold maxLen; omega), (fun x hx => by have := HInv.out.is_ x hx; unfold maxLen; omega)⟩
          · have := HInv.out.kl; omega
          · rw [HInv.out.il]; split <;> omega
          · rw [HInv.out.dl]; split <;> omega
        · have := HInv.out.bel.trans (below_set4 HRD.out.h4 (.bool false) (.slice ak n.keys.length ck) (.slice ai n.items.length ci) (.slice ad n.kids.length cd))
          first | exact this | exact hBe ▸ this | (rw [hBe]; exact this)
    · have hlt' : ¬ (k : Int) < N := by omega
      have hfin : (runR (N - k) (r, n)).2 = n := by rw [show N - k = 0 by omega]; rfl
      clear s0 s1
      obtain ⟨ak, ck, rfl, hatk, hck1, hck2⟩ := at_of_own hrd.ok
      obtain ⟨ai, ci, rfl, hati, hci1, hci2⟩ := at_of_own hrd.oi
      obtain ⟨ad, cd, rfl, hatd, hcd1, hcd2⟩ := at_of_own hrd.od
      obtain ⟨⟨z0, z1, z2, z3⟩, hfz⟩ := cells4 hrd.z
      have g0 := hfz 0
      have g1 := hfz 1
      have g2 := hfz 2
      have g3 := hfz 3
      obtain ⟨⟨n0, n1, n2, n3⟩, _⟩ := cells4 hrd.nd
      rw [hinv.lf] at n0
      have HRD := hid hrd
      have HFin : Hid ((readN false c) = n) := by unfold readN Hid; rw [← HN.out, ← hinv.run, hfin]
      have HInv := hid hinv
      clear hinv hrd hatk hati hatd hfz hfin
      go_wp2_with fail
      refine bodyPost_ret (results_cell26 rfl rfl (set4 HRD.out.z _ _ _ _)) rfl ?_
      have hkz := kept_set4 wr B (.bool false) (.slice ak n.keys.length ck) (.slice ai n.items.length ci) (.slice ad n.kids.length cd)
      have hSz : ∀ k ∈ [B], ∀ cs t m, wr.heap[k]? = some (.cells cs t m) → t = 26 := fun k hk cs t m hh => by
        simp only [List.mem_singleton] at hk
        subst hk
        rw [HRD.out.z] at hh
        simp at hh
        exact hh.2.1.symm
      obtain ⟨bk, dk, ek, hbk, hb1, hb2⟩ := at_of_own (own_kept hkz HRD.out.ok (fun k hm cs t m hh => by rw [hSz k hm cs t m hh]; decide))
      obtain ⟨bi, di, ei, hbi, hb3, hb4⟩ := at_of_own (own_kept hkz HRD.out.oi (fun k hm cs t m hh => by rw [hSz k hm cs t m hh]; decide))
      obtain ⟨bd, dd, ed, hbd, hb5, hb6⟩ := at_of_own (own_kept hkz HRD.out.od (fun k hm cs t m hh => by rw [hSz k hm cs t m hh]; decide))
      simp only [Value.slice.injEq, true_and] at ek ei ed
      obtain ⟨rfl, rfl⟩ := ek
      obtain ⟨rfl, rfl⟩ := ei
      obtain ⟨rfl, rfl⟩ := ed
      refine ⟨_, rfl, ?_, ?_⟩
      · rw [HFin.out]
        refine ⟨?_, ⟨?_, ?_, ?_⟩, HInv.out.lf⟩
        · exact ⟨⟨_, _, _, _, _, _, by unfold nv; rw [HInv.out.lf], hbk, hbi, hbd, ⟨hb1, hb2⟩, ⟨hb3, hb4⟩, ⟨hb5, hb6⟩⟩, (fun x hx => by have := HInv.out.ks x hx; unfold maxLen; omega), (fun x hx => by have := HInv.out.is_ x hx; unfold maxLen; omega)⟩
        · have := HInv.out.kl; omega
        · rw [HInv.out.il]; split <;> omega
        · rw [HInv.out.dl]; split <;> omega
      · have := HInv.out.bel.trans (below_set4 HRD.out.h4 (.bool false) (.slice ak n.keys.length ck) (.slice ai n.items.length ci) (.slice ad n.kids.length cd))
        first | exact this | exact hBe ▸ this | (rw [hBe]; exact this)

end Go.Proofs.Ytkipigbfbhecjaa
