/- What this text holds: slices.Insert and slices.Delete of keys. -/
import Derived.Test.YtkipigbfbhecjaaN39
import Derived.Test.YtkipigbfbhecjaaN16
import Derived.Test.YtkipigbfbhecjaaN24
namespace Go.Proofs.Ytkipigbfbhecjaa
open Go.RowKit
set_option linter.unusedVariables false
set_option linter.unusedSimpArgs false

theorem OthT.refl (t : TypeId) (w : World) : OthT t w w := fun _ _ _ _ _ h => h
theorem OthT.trans {t : TypeId} {a b c : World} (h : OthT t a b) (k : OthT t b c) : OthT t a c := fun i cs t' m ht hi => k i cs t' m ht (h i cs t' m ht hi)
theorem oth_drew (t : TypeId) (w : World) : OthT t w w.drew := fun _ _ _ _ _ h => h
theorem oth_row {w : World} {g e : Nat} {L : List Value} (h : Row w g e L) (M : Array Value) : OthT e w (w.setRow g M) := fun k cs t m ht hk =>
  (setRow_other w g k M (fun e' => by
    subst e'
    rw [show w.heap[k]? = some (.cells L.toArray e (0, 0)) from h] at hk
    simp only [Option.some.injEq, Obj.cells.injEq] at hk
    exact ht hk.2.1.symm)).trans hk
theorem oth_below {w w' : World} (t : TypeId) (h : Below w.heap.size w w') : OthT t w w' := fun k cs t' m ht hk => (h.block k (Array.getElem?_eq_some_iff.1 hk).1).trans hk
theorem oth_new {w w' : World} {g : Nat} (t : TypeId) (h : w.heap.size ≤ g) (ho : OthT t w w') (M : Array Value) : OthT t w (w'.setRow g M) := fun k cs t' m ht hk => (setRow_other w' g k M (by have := (Array.getElem?_eq_some_iff.1 hk).1; omega)).trans (ho k cs t' m ht hk)
/-- One list more, and what else there is. -/
theorem app_seg2 {t ty e size bytes : Nat} {z : Value} (ht : Try.prog.underlying t = some (.slice e)) (hinfo : (Try.prog.info? e).map (fun i => (i.zero, i.size, i.bytes)) = some (some z, size, bytes)) (hzs : z.cells.size = size) (hsz : 0 < size) (hby : bytes ≤ 32)
    {w : World} {B n : Nat} {v : Value} {cs : List Value} (ho : w.ownsRow B e size v n cs) (hB : B ≤ w.heap.size) {p : Addr} {m c : Nat} {xs : List Value} (hat : At w (some p) xs) (hlen : xs.length = m * size) (hone : ∀ u ∈ xs, u.oneCell' = true) (hn : n + m ≤ 1000000) :
    ∃ v' w', (Builtin.append_ #[t, t] ty #[v, .slice (some p) m c]).run Try.prog w = .ok v' w' ∧ w'.ownsRow B e size v' (n + m) (cs ++ xs) ∧ Below B w w' ∧ OthT e w w' := by
  obtain ⟨i, hi, hz0, hz1, hz2⟩ := info_parts hinfo
  obtain ⟨v', w', hr, ho', hg, _⟩ := run_append_own (P := Try.prog) w B t ty e i _ size bytes ht hi hz0 hz1 hz2 hzs hsz _ n cs ho p m c xs
      hlen hat.add hone (by unfold maxLen; omega) (by have := Nat.mul_le_mul hn hby; omega) hB
  exact ⟨v', w', hr, ho', (Below.refl B w).grown hg hB (fun k hk => (ho.lt k hk).1), OthT.grown ho hg⟩
theorem exec_mv2 {a : Act} {x : Operand} {X : Value} {w : World} {d : Option Tmp} {ty : Nat} {pos : String} {af : Array Edge} {g : Option (Nat × Bool)} (hx : a.eval x = X) :
    (execOp a.eval ⟨d, .move x, ty, pos, af, g⟩).run Try.prog w = .ok (.value X) w := by
  simp only [execOp, hx]
  rfl
theorem exec_addI {a : Act} {x y : Operand} {i : Nat} {w : World} {d : Option Tmp} {ty : Nat} {pos : String} {af : Array Edge} {g : Option (Nat × Bool)} (hx : a.eval x = .int .i64 (i : Nat)) (hy : a.eval y = .int .i64 1) (hi : i ≤ 100000) :
    (execOp a.eval ⟨d, .binOp .add 3 x y 3, ty, pos, af, g⟩).run Try.prog w = .ok (.value (.int .i64 ((i + 1 : Nat) : Int))) w := by
  have e : IntKind.i64.wrap ((i : Int) + 1) = ((i + 1 : Nat) : Int) := by rw [IntKind.wrap_i64]; omega
  rw [← e]
  simp [execOp, hx, hy, eqGuard, binOp]
  rfl
theorem exec_copy {a : Act} {x y : Operand} {u s : Value} {w w' : World} {v : Value} {d : Option Tmp} {t t2 ty : Nat} {pos : String} {af : Array Edge} {g : Option (Nat × Bool)} (hx : a.eval x = u) (hy : a.eval y = s)
    (h : (Builtin.copy_ #[t, t2] ty #[u, s]).run Try.prog w = .ok v w') : (execOp a.eval ⟨d, .call { callee := .builtin .copy, args := #[x, y], argTypes := #[t, t2] }, ty, pos, af, g⟩).run Try.prog w = .ok (.value v) w' := by
  simp only [execOp, resolve, invoke, builtin, Sem.run_bind, Sem.run_pure, Result.andThen_ok, List.map_toArray, List.map_cons, List.map_nil, hx, hy, h]
theorem wpList_copy_run {ops : Array Oper} {rest : List Oper} {Q : Exit → Act → World → Prop} {a : Act} {x y : Operand} {u s : Value} {w w' : World} {v : Value} {d : Option Tmp} {t t2 ty : Nat} {pos : String} {af : Array Edge} (hx : a.eval x = u) (hy : a.eval y = s)
    (hrun : (Builtin.copy_ #[t, t2] ty #[u, s]).run Try.prog w = .ok v w') (h : wpList Try.prog ops Q rest (a.put d v) w') : wpList Try.prog ops Q (⟨d, .call { callee := .builtin .copy, args := #[x, y], argTypes := #[t, t2] }, ty, pos, af, none⟩ :: rest) a w := by
  refine wpList_plain rfl fun K hK => ?_
  unfold Oper.wp
  simp only [execOp, resolve, invoke, builtin, Sem.run_bind, Sem.run_pure, Result.andThen_ok, List.map_toArray, List.map_cons, List.map_nil, hx, hy, hrun]
  exact hK _ _ h
theorem wpList_clear_run {ops : Array Oper} {rest : List Oper} {Q : Exit → Act → World → Prop} {a : Act} {x : Operand} {u : Value} {w w' : World} {v : Value} {d : Option Tmp} {t ty : Nat} {pos : String} {af : Array Edge} (hx : a.eval x = u)
    (hrun : (Builtin.clear_ #[t] ty #[u]).run Try.prog w = .ok v w') (h : wpList Try.prog ops Q rest (a.put d v) w') : wpList Try.prog ops Q (⟨d, .call { callee := .builtin .clear, args := #[x], argTypes := #[t] }, ty, pos, af, none⟩ :: rest) a w := by
  refine wpList_plain rfl fun K hK => ?_
  unfold Oper.wp
  simp only [execOp, resolve, invoke, builtin, Sem.run_bind, Sem.run_pure, Result.andThen_ok, List.map_toArray, List.map_cons, List.map_nil, hx, hrun]
  exact hK _ _ h
theorem overk : ∃ fn, Try.prog.funcs[74]? = some fn ∧ (fn.name == "runtime.NumGoroutine") = false ∧ fn.body.isNone = true ∧ Extern.findNext fn = none ∧ Extern.find fn = some (Extern.SlicesOverlaps.overlaps #[22, 22] #[4]) := ⟨_, Try.func74, by kernel_rfl, by kernel_rfl, by kernel_rfl, by kernel_rfl⟩
theorem sizek : (Try.prog.info? 9).map (·.size) = some 1 := by kernel_rfl
theorem sizeOk (w : World) : (sizeOf 9).run Try.prog w = .ok 1 w := by kernel_rfl

set_option maxRecDepth 100000 in
set_option maxHeartbeats 2000000 in
theorem insertk_end {w : World} {B n xb : Nat} {v : Value} {cs X : List Value} (ho : w.ownsRow B 9 1 v n cs) (hB : B ≤ w.heap.size) (hn : n ≤ 70000) (hx : Row w xb 9 X) (hxl : X.length = 1) (h1x : ∀ u ∈ X, u.oneCell' = true) :
    Calls Try.prog 51 #[v, .int .i64 n, .slice (some ⟨xb, 0, none⟩) 1 1] w fun r w' => ∃ v', r = .returned v' ∧ w'.ownsRow B 9 1 v' (n + 1) (cs ++ X) ∧ Below B w w' ∧ OthT 9 w w' := by
  obtain ⟨v', w', hrun, ho', hb', hoth⟩ := app_seg2 (ty := 22) (p := ⟨xb, 0, none⟩) (m := 1) (c := 1) (xs := X) Try.underlying22 Try.info9 rfl (by omega) (by omega) ho hB
    (.inr ⟨xb, 0, rfl, fun j u hu => by rw [Nat.zero_add]; exact hx.cell hu⟩) (by simpa using hxl) h1x (by omega)
  have HR := hid hrun
  have HO : Hid (w'.ownsRow B 9 1 v' (n + 1) (cs ++ X)) := ho'
  have HB := hid (And.intro hb' hoth)
  rcases own_row ho with ⟨rfl, rfl, rfl⟩ | ⟨g, cap, L, rfl, hg, hr, hnc, hcm, _⟩
  · clear hrun ho' hb' hoth ho hx h1x hxl
    go_enter Try.func51, Try.ntmps51
    go_wp2_with (at_builtin; refine wpList_append_run rfl rfl HR.out ?_)
    go_ret
    exact ⟨_, rfl, HO.out, HB.out⟩
  · unfold maxLen at hcm
    clear hrun ho' hb' hoth ho hx h1x hxl hr
    go_enter Try.func51, Try.ntmps51
    go_wp2_with (at_builtin; refine wpList_append_run rfl rfl HR.out ?_)
    all_goals go_ret
    all_goals exact ⟨_, rfl, HO.out, HB.out⟩

set_option maxRecDepth 100000 in
set_option maxHeartbeats 4000000 in
theorem insertk_grow {w : World} {B g n cap i xb : Nat} {cs L X : List Value} (hg : B ≤ g) (hr : Row w g 9 L) (hL : L.length = cap * 1) (hcs : L.take (n * 1) = cs) (hnc : n ≤ cap) (hcap : cap < n + 1) (hi : i < n) (hn : n ≤ 70000) (hB : B ≤ w.heap.size) (hx : Row w xb 9 X) (hxl : X.length = 1) (h1 : ∀ u ∈ cs, u.oneCell' = true) (h1x : ∀ u ∈ X, u.oneCell' = true) :
    Calls Try.prog 51 #[.slice (some ⟨g, 0, none⟩) n cap, .int .i64 i, .slice (some ⟨xb, 0, none⟩) 1 1] w fun r w' => ∃ v', r = .returned v' ∧ w'.ownsRow B 9 1 v' (n + 1) (cs.take (i * 1) ++ X ++ cs.drop (i * 1)) ∧ Below B w w' ∧ OthT 9 w w' := by
  obtain ⟨inf, hinf, hz0, hz1, hz2⟩ := info_parts Try.info9
  have hcl : cs.length = n * 1 := by rw [← hcs, List.length_take, hL]; exact Nat.min_eq_left (Nat.mul_le_mul_right _ hnc)
  have hcell : ∀ j u, cs[j]? = some u → w.cell? ⟨g, j, none⟩ = some u := fun j u hu => by
    rw [← hcs, List.getElem?_take] at hu
    split at hu
    · exact hr.cell hu
    · cases hu
  have hA : (cs.take (i * 1)).length = i * 1 := by rw [List.length_take, hcl]; omega
  have hD : (cs.drop (i * 1)).length = (n - i) * 1 := by rw [List.length_drop, hcl]; omega
  have hold : (Builtin.firstCells inf.size i (.slice (some ⟨g, 0, none⟩) i cap)).run Try.prog w.drew = .ok (cs.take (i * 1)).toArray w.drew := by
    rw [hz1]
    exact run_firstCells_some w.drew 1 i ⟨g, 0, none⟩ i cap (cs.take (i * 1)) hA (fun j u hu => by
      rw [Addr.add_lit, Nat.zero_add]
      rw [List.getElem?_take] at hu
      split at hu
      · exact hcell j u hu
      · cases hu)
  have hkk : (n : Int) + 1 - (i : Int) = ((n + 1 - i : Nat) : Int) := by omega
  obtain ⟨G, hG⟩ : ∃ G, G = grownCap w (n + 1) cap 9 := ⟨_, rfl⟩
  have hG1 : n + 1 ≤ G := by rw [hG]; exact grownCap_ge _ _ _ _
  have hG2 : G ≤ maxLen := by rw [hG]; exact grownCap_le_maxLen _ _ _ _ (by unfold maxLen; omega)
  obtain ⟨L0, hL0⟩ : ∃ L0 : List Value, L0.toArray = (cs.take (i * 1)).toArray ++ Builtin.zeroCells (Value.string ⟨#[]⟩).cells (n + 1 - i) ++ Builtin.zeroCells (Value.string ⟨#[]⟩).cells (G - (n + 1)) := ⟨_, Array.toArray_toList⟩
  have hL0l : L0.length = G * 1 := by
    have := congrArg Array.size hL0
    rw [Array.size_append, Array.size_append, zeroCells_size, zeroCells_size, List.size_toArray, List.size_toArray, hA, show ((Value.string ⟨#[]⟩).cells).size = 1 from rfl] at this
    omega
  have hL0t : L0.take (i * 1) = cs.take (i * 1) := by
    have := congrArg Array.toList hL0
    simp only [Array.toList_append] at this
    rw [this, List.append_assoc, List.take_append_of_le_length (by rw [hA]; exact Nat.le_refl _)]
    exact List.take_of_length_le (by rw [hA]; exact Nat.le_refl _)
  obtain ⟨W1, hW1⟩ : ∃ W1, W1 = w.drew.alloc (.cells L0.toArray 9) := ⟨_, rfl⟩
  obtain ⟨g', hg'⟩ : ∃ g', g' = w.heap.size := ⟨_, rfl⟩
  have hrz : ∀ ty, (Builtin.append_ #[22, 3] ty #[.slice (some ⟨g, 0, none⟩) i cap, .int .i64 ((n : Int) + 1 - (i : Int))]).run Try.prog w = .ok (.slice (some ⟨g', 0, none⟩) (n + 1) G) W1 := fun ty => by
    have h := Lib.run_append_grow_zeros w 22 3 ty 9 inf _ .i64 .i64 Try.underlying22 Try.underlying3 hinf hz0 (some ⟨g, 0, none⟩) i cap (cs.take (i * 1)) hold (n + 1 - i) (by omega) (by rw [hz1]; omega) (by omega) (by omega) (by rw [hz2]; omega) (by
      rw [hz2, show i + (n + 1 - i) = n + 1 by omega]
      exact growslice_fits hcap (by omega))
    rw [show i + (n + 1 - i) = n + 1 by omega, ← hG, ← hL0, ← hW1, ← hg'] at h
    rw [hkk]
    exact h
  have hR1 : Row W1 g' 9 L0 := by rw [hW1, hg']; exact heap_alloc_new w.drew _
  have hb1 : Below w.heap.size w W1 := by rw [hW1]; exact ((Below.refl _ w).drew).alloc (Nat.le_refl _) _
  have hx1 := hx.later hb1
  have hr1 := hr.later hb1
  have hgg : g ≠ g' := by have := hr.lt; omega
  have hxg : xb ≠ g' := by have := hx.lt; omega
  have hfit1 : i * 1 + X.length ≤ L0.length := by rw [hxl, hL0l]; have := Nat.mul_le_mul_right 1 (show i + 1 ≤ G by omega); omega
  have hcp1 : ∀ ty dc, (Builtin.copy_ #[22, 22] ty #[.slice (some ⟨g', i, none⟩) (n + 1 - i) dc, .slice (some ⟨xb, 0, none⟩) 1 1]).run Try.prog W1 = .ok (goInt (1 : Nat)) (W1.setRow g' (splice L0 (i) X).toArray) := fun ty dc =>
    run_copy_to Try.underlying22 sizek hR1 (by simp only [Nat.min_def]; split <;> omega) (by simpa using hxl) (fun j u hu => by rw [Addr.add_lit, Nat.zero_add]; exact hx1.cell hu) (by simpa using hfit1) h1x ty
  have l1 : (splice L0 (i * 1) X).length = L0.length := splice_length hfit1
  obtain ⟨W2, hW2⟩ : ∃ W2, W2 = W1.setRow g' (splice L0 (i) X).toArray := ⟨_, rfl⟩
  rw [← hW2] at hcp1
  have hR2 : Row W2 g' 9 (splice L0 (i * 1) X) := by rw [hW2]; exact (by simpa using hR1.set (splice L0 (i * 1) X))
  have hr2 : Row W2 g 9 L := by rw [hW2]; exact (setRow_other _ _ _ _ hgg).trans hr1
  have hfit2 : (i + 1) * 1 + (cs.drop (i * 1)).length ≤ (splice L0 (i * 1) X).length := by rw [l1, hD, hL0l]; have := Nat.mul_le_mul_right 1 (show i + 1 + (n - i) ≤ G by omega); omega
  have hcp2 : ∀ ty dc sc, (Builtin.copy_ #[22, 22] ty #[.slice (some ⟨g', 0 + (i + 1) * 1, none⟩) (n + 1 - (i + 1)) dc, .slice (some ⟨g, 0 + i * 1, none⟩) (n - i) sc]).run Try.prog W2.drew = .ok (goInt ((n - i : Nat) : Int)) (W2.drew.setRow g' (splice (splice L0 (i * 1) X) ((i + 1) * 1) (cs.drop (i * 1))).toArray) := fun ty dc sc => by
    have := run_copy_to (w := W2.drew) (o := (i + 1) * 1) (dLen := n + 1 - (i + 1)) (dCap := dc) (sLen := n - i) (sCap := sc) (a := ⟨g, i * 1, none⟩) Try.underlying22 sizek hR2 (by simp only [Nat.min_def]; split <;> omega) hD (fun j u hu => by
      rw [Addr.add_lit]
      rw [List.getElem?_drop] at hu
      rw [← hcs, List.getElem?_take] at hu
      split at hu
      · exact hr2.cell hu
      · cases hu) hfit2 (fun u hu => h1 u (List.mem_of_mem_drop hu)) ty
    rw [Nat.zero_add, Nat.zero_add]
    exact this
  have hfin := fresh_list (A := cs.take (i * 1)) (B := cs.drop (i * 1)) (k := 1) hA hxl hL0t (by rw [hD, hL0l]; have := Nat.mul_le_mul_right 1 (show i + 1 + (n - i) ≤ G by omega); omega)
  obtain ⟨L2, hL2⟩ : ∃ L2, L2 = splice (splice L0 (i * 1) X) ((i + 1) * 1) (cs.drop (i * 1)) := ⟨_, rfl⟩
  rw [← hL2] at hcp2
  have hfin2 : L2.take ((n + 1) * 1) = cs.take (i * 1) ++ X ++ cs.drop (i * 1) := by
    rw [hL2]
    rw [hD, show i * 1 + 1 = (i + 1) * 1 by omega, show (i + 1) * 1 + (n - i) * 1 = (n + 1) * 1 by omega] at hfin
    exact hfin
  have hL2l : L2.length = G * 1 := by rw [hL2, splice_length hfit2, l1, hL0l]
  have HO : Hid ((W2.drew.setRow g' L2.toArray).ownsRow B 9 1 (.slice (some ⟨g', 0, none⟩) (n + 1) G) (n + 1) (cs.take (i * 1) ++ X ++ cs.drop (i * 1))) :=
    row_own (by omega) ((show Row W2.drew g' 9 _ from hR2).set L2) hG1 hG2 hL2l hfin2
  have HB : Hid (Below B w (W2.drew.setRow g' L2.toArray) ∧ OthT 9 w (W2.drew.setRow g' L2.toArray)) := by
    have hBg : B ≤ g' := by omega
    have b2 : Below B W1 W2 := by rw [hW2]; exact below_row hBg _
    have o2 : OthT 9 w W2 := by rw [hW2]; exact oth_new 9 (by omega) (oth_below 9 hb1) _
    exact ⟨(((hb1.mono hB).trans b2).drew).trans (below_row hBg _), oth_new 9 (by omega) (o2.trans (oth_drew 9 W2)) _⟩
  have HC1 := hid hcp1
  have HC2 := hid hcp2
  have HZ := hid hrz
  unfold maxLen at hG2
  have hz2' : ¬ ((i : Int) = (n : Int)) := by omega
  have hz3 : (cap : Int) < (n : Int) + 1 := by omega
  have hGi : ¬ (G = i) := by omega
  have hGim : ¬ (G = i + 1) := by omega
  have hci : ¬ (cap = i) := by omega
  have hw1 : IntKind.i64.wrap ((i : Int) + 1) = (i : Int) + 1 := by rw [IntKind.wrap_i64]; omega
  have hw2 : IntKind.i64.wrap ((n : Int) + 1) = (n : Int) + 1 := by rw [IntKind.wrap_i64]; omega
  have hb9 : (0 : Int) ≤ (i : Int) + 1 := by omega
  have htn : ((i : Int) + 1).toNat = i + 1 := by omega
  have hin : i ≤ n := by omega
  clear hcp1 hcp2 hrz hL2l hfin2 hfin hfit2 hr2 hR2 hW2 l1 hfit1 hgg hxg hx1 hr1 hb1 hR1 hg' hW1 hL0t hL0l hL0 hG hkk hold hA hD hcell hcl hinf hz0 hz1 hz2 h1x h1 hxl hx hcs hL hr hL2
  go_enter Try.func51, Try.ntmps51
  go_wp2_with (first | (at_builtin; refine wpList_append_run rfl rfl (HZ.out _) ?_) | (refine wpList_copy_run rfl rfl (HC1.out _ _) ?_))
  refine wp_region_held_drew (S := fun _ => True) (by kernel_rfl) trivial ?_
  intro _
  refine anyH_take 0 ⟨some 46, .move (.tmp 9), _, _, _, none⟩ (.slice (some ⟨g', 0, none⟩) (n + 1) G) rfl rfl (by kernel_rfl) (by kernel_rfl) (by kernel_rfl) (fun _ _ _ h => h) (fun w _ => exec_mv2 rfl) trivial ?_
  simp only [Act.put, List.setIfInBounds_toArray, List.set_cons_zero, List.set_cons_succ]
  refine anyH_take 1 ⟨some 47, .move (.tmp 1), _, _, _, none⟩ (.int .i64 (i : Nat)) rfl rfl (by kernel_rfl) (by kernel_rfl) (by kernel_rfl) (fun _ _ _ h => h) (fun w _ => exec_mv2 rfl) trivial ?_
  simp only [Act.put, List.setIfInBounds_toArray, List.set_cons_zero, List.set_cons_succ]
  refine anyH_take 2 ⟨some 48, .move (.tmp 7), _, _, _, none⟩ (.int .i64 1) rfl rfl (by kernel_rfl) (by kernel_rfl) (by kernel_rfl) (fun _ _ _ h => h) (fun w _ => exec_mv2 rfl) trivial ?_
  simp only [Act.put, List.setIfInBounds_toArray, List.set_cons_zero, List.set_cons_succ]
  refine anyH_take 3 ⟨some 49, .binOp .add 3 (.tmp 47) (.tmp 48) 3, _, _, _, none⟩ (.int .i64 ((i + 1 : Nat) : Int)) rfl rfl (by kernel_rfl) (by kernel_rfl) (by kernel_rfl) (fun _ _ _ h => h) (fun w _ => exec_addI rfl rfl (by omega)) trivial ?_
  simp only [Act.put, List.setIfInBounds_toArray, List.set_cons_zero, List.set_cons_succ]
  refine anyH_take 4 ⟨some 50, .slice 22 (.tmp 46) (some (.tmp 49)) none none, _, _, _, none⟩ (.slice (some ⟨g', 0 + (i + 1) * 1, none⟩) (n + 1 - (i + 1)) (G - (i + 1))) rfl rfl (by kernel_rfl) (by kernel_rfl) (by kernel_rfl) (fun _ _ _ h => h) (fun w _ => exec_v (lo22 g' 0 (n + 1) G (i + 1) w (by omega) (by omega))) trivial ?_
  simp only [Act.put, List.setIfInBounds_toArray, List.set_cons_zero, List.set_cons_succ]
  refine anyH_take 5 ⟨some 51, .move (.tmp 0), _, _, _, none⟩ (.slice (some ⟨g, 0, none⟩) n cap) rfl rfl (by kernel_rfl) (by kernel_rfl) (by kernel_rfl) (fun _ _ _ h => h) (fun w _ => exec_mv2 rfl) trivial ?_
  simp only [Act.put, List.setIfInBounds_toArray, List.set_cons_zero, List.set_cons_succ]
  refine anyH_take 6 ⟨some 52, .move (.tmp 1), _, _, _, none⟩ (.int .i64 (i : Nat)) rfl rfl (by kernel_rfl) (by kernel_rfl) (by kernel_rfl) (fun _ _ _ h => h) (fun w _ => exec_mv2 rfl) trivial ?_
  simp only [Act.put, List.setIfInBounds_toArray, List.set_cons_zero, List.set_cons_succ]
  refine anyH_take 7 ⟨some 53, .slice 22 (.tmp 51) (some (.tmp 52)) none none, _, _, _, none⟩ (.slice (some ⟨g, 0 + i * 1, none⟩) (n - i) (cap - i)) rfl rfl (by kernel_rfl) (by kernel_rfl) (by kernel_rfl) (fun _ _ _ h => h) (fun w _ => exec_v (lo22 g 0 n cap i w (by omega) (by omega))) trivial ?_
  simp only [Act.put, List.setIfInBounds_toArray, List.set_cons_zero, List.set_cons_succ]
  refine anyH_one 8 ⟨some 54, .call { callee := .builtin .copy, args := #[.tmp 50, .tmp 53], argTypes := #[22, 22] }, _, _, _, none⟩ (goInt ((n - i : Nat) : Int)) (W2.drew.setRow g' L2.toArray) (by kernel_rfl) rfl rfl (exec_copy rfl rfl (HC2.out _ _ _)) trivial ?_
  simp only [Act.put, List.setIfInBounds_toArray, List.set_cons_zero, List.set_cons_succ]
  refine wpAnyH_done (by kernel_rfl) ?_ _
  go_wp2_with fail
  go_ret
  exact ⟨_, rfl, HO.out, HB.out⟩
end Go.Proofs.Ytkipigbfbhecjaa
