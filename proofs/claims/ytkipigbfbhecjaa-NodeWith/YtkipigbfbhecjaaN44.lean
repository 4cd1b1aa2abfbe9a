/- What this text holds: slices.Insert and slices.Delete of keys: Delete. -/
import Derived.Test.YtkipigbfbhecjaaN40
import Derived.Test.YtkipigbfbhecjaaN16
import Derived.Test.YtkipigbfbhecjaaN24
namespace Go.Proofs.Ytkipigbfbhecjaa
open Go.RowKit
set_option linter.unusedVariables false
set_option linter.unusedSimpArgs false

theorem exec_as {a : Act} {x : Operand} {X : Value} {w : World} {d : Option Tmp} {ty : Nat} {pos : String} {af : Array Edge} {g : Option (Nat × Bool)} (hx : a.eval x = X) :
    (execOp a.eval ⟨d, .assign x, ty, pos, af, g⟩).run Try.prog w = .ok (.value X) w := by
  simp only [execOp, hx]
  rfl
theorem le22 (b o len cp i : Nat) (w : World) (h : i ≤ len) (hc : i = cp) : (Instr.sliceAt 22 (.slice (some ⟨b, o, none⟩) len cp) (some (.int .i64 i)) none none).run Try.prog w = .ok (.slice (some ⟨b, o, none⟩) (len - i) (cp - i)) w := by
  obtain ⟨inf, hin, hz0, hz1, hz2⟩ := info_parts Try.info9
  have e : Try.prog.elem 22 = 9 := by kernel_rfl
  have ht : Try.prog.underlying 22 = some (.slice (Try.prog.elem 22)) := by kernel_rfl
  simp only [Instr.sliceAt, Sem.run_bind, run_underlying ht, Result.andThen_ok]
  have := run_slice_l w 22 (some ⟨b, o, none⟩) len cp ht .i64 (i : Int) (by omega) (by omega)
  rw [this, e, Int.toNat_natCast]
  simp [sizeOf, typeInfo, hin, hz1, sliced, hc, Addr.add_mid]
theorem zck : ∀ v ∈ (Builtin.zeroCells (Value.string ⟨#[]⟩).cells 1).toList, v.oneCell' = true := by
  have e : (Builtin.zeroCells (Value.string ⟨#[]⟩).cells 1).toList = (Value.string ⟨#[]⟩).cells.toList := by kernel_rfl
  rw [e]
  intro v hv
  simp [Value.cells] at hv
  subst hv; rfl

set_option maxRecDepth 100000 in
set_option maxHeartbeats 4000000 in
theorem deletek_mid {w : World} {B g m cap i : Nat} {cs L : List Value} (hg : B ≤ g) (hr : Row w g 9 L) (hL : L.length = cap * 1) (hcs : L.take ((m + 1) * 1) = cs) (hnc : m + 1 ≤ cap) (hcm : cap ≤ maxLen) (hi : i ≤ m) (hic : i + 1 < cap) (hn : m ≤ 70000) (h1 : ∀ u ∈ cs, u.oneCell' = true) :
    Calls Try.prog 53 #[.slice (some ⟨g, 0, none⟩) (m + 1) cap, .int .i64 i, .int .i64 ((i + 1 : Nat) : Int)] w fun r w' => ∃ v', r = .returned v' ∧ w'.ownsRow B 9 1 v' m (cs.take (i * 1) ++ cs.drop ((i + 1) * 1)) ∧ Below B w w' ∧ OthT 9 w w' := by
  have hcl : cs.length = (m + 1) * 1 := by rw [← hcs, List.length_take, hL]; exact Nat.min_eq_left (Nat.mul_le_mul_right _ hnc)
  have hD : (cs.drop ((i + 1) * 1)).length = (m - i) * 1 := by rw [List.length_drop, hcl]; omega
  have hfit1 : i * 1 + (cs.drop ((i + 1) * 1)).length ≤ L.length := by rw [hD, hL]; have := Nat.mul_le_mul_right 1 (show i + (m - i) ≤ cap by omega); omega
  obtain ⟨L1, hL1⟩ : ∃ L1, L1 = splice L (i * 1) (cs.drop ((i + 1) * 1)) := ⟨_, rfl⟩
  have l1 : L1.length = L.length := by rw [hL1]; exact splice_length hfit1
  have hR1 : Row (w.drew.setRow g L1.toArray) g 9 L1 := (show Row w.drew g 9 L from hr).set L1
  have hzl : (Builtin.zeroCells (Value.string ⟨#[]⟩).cells 1).toList.length = 1 := by rw [Array.length_toList, zeroCells_size]; rfl
  have hfit2 : m * 1 + (Builtin.zeroCells (Value.string ⟨#[]⟩).cells 1).toList.length ≤ L1.length := by rw [l1, hL, hzl]; have := Nat.mul_le_mul_right 1 hnc; omega
  obtain ⟨L2, hL2⟩ : ∃ L2, L2 = splice L1 (m * 1) (Builtin.zeroCells (Value.string ⟨#[]⟩).cells 1).toList := ⟨_, rfl⟩
  have hcl2 : ∀ ty c, (Builtin.clear_ #[22] ty #[.slice (some ⟨g, m, none⟩) 1 c]).run Try.prog (w.drew.setRow g L1.toArray) = .ok (.tuple #[]) ((w.drew.setRow g L1.toArray).setRow g L2.toArray) := fun ty c => by
    rw [hL2]
    have := run_clear_to (w := w.drew.setRow g L1.toArray) (z := (Value.string ⟨#[]⟩)) (o := m * 1) (n := 1) (c := c) Try.underlying22 (by kernel_rfl) hR1 (by omega) (by have := hfit2; rw [hzl] at this; simpa [Value.cells] using this) zck ty
    simpa using this
  have hfin : L2.take (m * 1) = cs.take (i * 1) ++ cs.drop ((i + 1) * 1) := by
    rw [hL2, splice_take (Nat.le_refl _) hfit2, hL1]
    have := splice_head hfit1
    rw [hD, show i * 1 + (m - i) * 1 = m * 1 by omega] at this
    rw [this]
    congr 1
    rw [← hcs, List.take_take, show min (i * 1) ((m + 1) * 1) = i * 1 by omega]
  have HO : Hid (((w.drew.setRow g L1.toArray).setRow g L2.toArray).ownsRow B 9 1 (.slice (some ⟨g, 0, none⟩) m cap) m (cs.take (i * 1) ++ cs.drop ((i + 1) * 1))) :=
    row_own hg (hR1.set L2) (by omega) hcm (by rw [hL2, splice_length hfit2, l1, hL]) hfin
  have HB : Hid (Below B w ((w.drew.setRow g L1.toArray).setRow g L2.toArray) ∧ OthT 9 w ((w.drew.setRow g L1.toArray).setRow g L2.toArray)) := ⟨(((Below.refl B w).drew).trans (below_row hg _)).trans (below_row hg _), ((oth_drew 9 w).trans (oth_row (show Row w.drew g 9 L from hr) _)).trans (oth_row hR1 _)⟩
  have HCl := hid hcl2
  unfold maxLen at hcm
  have hii : ¬ ((i : Int) = (i : Int) + 1) := by omega
  have hb9 : (0 : Int) ≤ (i : Int) + 1 := by omega
  have htn : ((i : Int) + 1).toNat = i + 1 := by omega
  have htm : ((m : Int) + 1).toNat = m + 1 := by omega
  have hi1 : (i : Int) + 1 ≤ (m : Int) + 1 := by omega
  have hcm1 : ¬ (cap = m) := by omega
  have hcm2 : (m : Int) + 1 ≤ cap := by omega
  have hmm : (m : Int) ≤ (m : Int) + 1 := by omega
  clear hcl2 hfin hL2 hfit2 hzl hR1 l1 hL
  have hrun0 : ∀ ty c, (Builtin.append_ #[22, 22] ty #[.slice (some ⟨g, 0, none⟩) i cap, .slice (some ⟨g, 0 + (i + 1) * 1, none⟩) (m + 1 - (i + 1)) c]).run Try.prog w.drew = .ok (.slice (some ⟨g, 0, none⟩) m cap) (w.drew.setRow g L1.toArray) := fun ty c => by
    have h := run_app_to (w := w.drew) (n := i) (cap := cap) (m := m + 1 - (i + 1)) (c := c) (a := ⟨g, 0 + (i + 1) * 1, none⟩) (cs := cs.drop ((i + 1) * 1)) Try.underlying22 sizek hr (by rw [hD]; congr 1; omega) (fun j u hu => by
      rw [Addr.add_lit, Nat.zero_add]
      rw [List.getElem?_drop] at hu
      rw [← hcs, List.getElem?_take] at hu
      split at hu
      · exact (show Row w.drew g 9 L from hr).cell hu
      · cases hu) (fun u hu => h1 u (List.mem_of_mem_drop hu)) (by omega) hfit1 ty
    rw [show i + (m + 1 - (i + 1)) = m by omega, ← hL1] at h
    exact h
  have HA := hid hrun0
  clear hrun0 hL1 hD hcl h1 hcs hr hfit1
  go_enter Try.func53, Try.ntmps53
  go_wp2_with fail
  refine wp_region_held_drew (S := fun _ => True) (by kernel_rfl) trivial ?_
  intro _
  refine anyH_take 0 ⟨some 20, .move (.tmp 0), _, _, _, none⟩ (.slice (some ⟨g, 0, none⟩) (m + 1) cap) rfl rfl (by kernel_rfl) (by kernel_rfl) (by kernel_rfl) (fun _ _ _ h => h) (fun w _ => exec_mv2 rfl) trivial ?_
  simp only [Act.put, List.setIfInBounds_toArray, List.set_cons_zero, List.set_cons_succ]
  refine anyH_take 1 ⟨some 21, .move (.tmp 1), _, _, _, none⟩ (.int .i64 (i : Nat)) rfl rfl (by kernel_rfl) (by kernel_rfl) (by kernel_rfl) (fun _ _ _ h => h) (fun w _ => exec_mv2 rfl) trivial ?_
  simp only [Act.put, List.setIfInBounds_toArray, List.set_cons_zero, List.set_cons_succ]
  refine anyH_take 2 ⟨some 22, .slice 22 (.tmp 20) none (some (.tmp 21)) none, _, _, _, none⟩ (.slice (some ⟨g, 0, none⟩) i cap) rfl rfl (by kernel_rfl) (by kernel_rfl) (by kernel_rfl) (fun _ _ _ h => h) (fun w _ => exec_v (hi22 g 0 (m + 1) cap i w (by omega))) trivial ?_
  simp only [Act.put, List.setIfInBounds_toArray, List.set_cons_zero, List.set_cons_succ]
  refine anyH_take 3 ⟨some 23, .move (.tmp 0), _, _, _, none⟩ (.slice (some ⟨g, 0, none⟩) (m + 1) cap) rfl rfl (by kernel_rfl) (by kernel_rfl) (by kernel_rfl) (fun _ _ _ h => h) (fun w _ => exec_mv2 rfl) trivial ?_
  simp only [Act.put, List.setIfInBounds_toArray, List.set_cons_zero, List.set_cons_succ]
  refine anyH_take 4 ⟨some 24, .move (.tmp 2), _, _, _, none⟩ (.int .i64 ((i + 1 : Nat) : Int)) rfl rfl (by kernel_rfl) (by kernel_rfl) (by kernel_rfl) (fun _ _ _ h => h) (fun w _ => exec_mv2 rfl) trivial ?_
  simp only [Act.put, List.setIfInBounds_toArray, List.set_cons_zero, List.set_cons_succ]
  refine anyH_take 5 ⟨some 25, .slice 22 (.tmp 23) (some (.tmp 24)) none none, _, _, _, none⟩ (.slice (some ⟨g, 0 + (i + 1) * 1, none⟩) (m + 1 - (i + 1)) (cap - (i + 1))) rfl rfl (by kernel_rfl) (by kernel_rfl) (by kernel_rfl) (fun _ _ _ h => h) (fun w _ => exec_v (lo22 g 0 (m + 1) cap (i + 1) w (by omega) (by omega))) trivial ?_
  simp only [Act.put, List.setIfInBounds_toArray, List.set_cons_zero, List.set_cons_succ]
  refine anyH_one 6 ⟨some 26, .call { callee := .builtin .append, args := #[.tmp 22, .tmp 25], argTypes := #[22, 22] }, _, _, _, none⟩ (.slice (some ⟨g, 0, none⟩) m cap) (w.drew.setRow g L1.toArray) (by kernel_rfl) rfl rfl (exec_append rfl rfl (HA.out _ _)) trivial ?_
  simp only [Act.put, List.setIfInBounds_toArray, List.set_cons_zero, List.set_cons_succ]
  refine anyH_one 7 ⟨some 0, .assign (.tmp 26), _, _, _, none⟩ (.slice (some ⟨g, 0, none⟩) m cap) (w.drew.setRow g L1.toArray) (by kernel_rfl) rfl rfl (exec_as rfl) trivial ?_
  simp only [Act.put, List.setIfInBounds_toArray, List.set_cons_zero, List.set_cons_succ]
  refine wpAnyH_done (by kernel_rfl) ?_ _
  go_wp2_with (refine wpList_clear_run rfl (HCl.out _ _) ?_)
  go_ret
  exact ⟨_, rfl, HO.out, HB.out⟩

set_option maxRecDepth 100000 in
set_option maxHeartbeats 4000000 in
theorem deletek_last {w : World} {B g m cap i : Nat} {cs L : List Value} (hg : B ≤ g) (hr : Row w g 9 L) (hL : L.length = cap * 1) (hcs : L.take ((m + 1) * 1) = cs) (hnc : m + 1 ≤ cap) (hcm : cap ≤ maxLen) (hi : i ≤ m) (hic : i + 1 = cap) (hn : m ≤ 70000) (h1 : ∀ u ∈ cs, u.oneCell' = true) :
    Calls Try.prog 53 #[.slice (some ⟨g, 0, none⟩) (m + 1) cap, .int .i64 i, .int .i64 ((i + 1 : Nat) : Int)] w fun r w' => ∃ v', r = .returned v' ∧ w'.ownsRow B 9 1 v' m (cs.take (i * 1) ++ cs.drop ((i + 1) * 1)) ∧ Below B w w' ∧ OthT 9 w w' := by
  have hcl : cs.length = (m + 1) * 1 := by rw [← hcs, List.length_take, hL]; exact Nat.min_eq_left (Nat.mul_le_mul_right _ hnc)
  have hD : (cs.drop ((i + 1) * 1)).length = (m - i) * 1 := by rw [List.length_drop, hcl]; omega
  have hfit1 : i * 1 + (cs.drop ((i + 1) * 1)).length ≤ L.length := by rw [hD, hL]; have := Nat.mul_le_mul_right 1 (show i + (m - i) ≤ cap by omega); omega
  obtain ⟨L1, hL1⟩ : ∃ L1, L1 = splice L (i * 1) (cs.drop ((i + 1) * 1)) := ⟨_, rfl⟩
  have l1 : L1.length = L.length := by rw [hL1]; exact splice_length hfit1
  have hR1 : Row (w.drew.setRow g L1.toArray) g 9 L1 := (show Row w.drew g 9 L from hr).set L1
  have hzl : (Builtin.zeroCells (Value.string ⟨#[]⟩).cells 1).toList.length = 1 := by rw [Array.length_toList, zeroCells_size]; rfl
  have hfit2 : m * 1 + (Builtin.zeroCells (Value.string ⟨#[]⟩).cells 1).toList.length ≤ L1.length := by rw [l1, hL, hzl]; have := Nat.mul_le_mul_right 1 hnc; omega
  obtain ⟨L2, hL2⟩ : ∃ L2, L2 = splice L1 (m * 1) (Builtin.zeroCells (Value.string ⟨#[]⟩).cells 1).toList := ⟨_, rfl⟩
  have hcl2 : ∀ ty c, (Builtin.clear_ #[22] ty #[.slice (some ⟨g, m, none⟩) 1 c]).run Try.prog (w.drew.setRow g L1.toArray) = .ok (.tuple #[]) ((w.drew.setRow g L1.toArray).setRow g L2.toArray) := fun ty c => by
    rw [hL2]
    have := run_clear_to (w := w.drew.setRow g L1.toArray) (z := (Value.string ⟨#[]⟩)) (o := m * 1) (n := 1) (c := c) Try.underlying22 (by kernel_rfl) hR1 (by omega) (by have := hfit2; rw [hzl] at this; simpa [Value.cells] using this) zck ty
    simpa using this
  have hfin : L2.take (m * 1) = cs.take (i * 1) ++ cs.drop ((i + 1) * 1) := by
    rw [hL2, splice_take (Nat.le_refl _) hfit2, hL1]
    have := splice_head hfit1
    rw [hD, show i * 1 + (m - i) * 1 = m * 1 by omega] at this
    rw [this]
    congr 1
    rw [← hcs, List.take_take, show min (i * 1) ((m + 1) * 1) = i * 1 by omega]
  have HO : Hid (((w.drew.setRow g L1.toArray).setRow g L2.toArray).ownsRow B 9 1 (.slice (some ⟨g, 0, none⟩) m cap) m (cs.take (i * 1) ++ cs.drop ((i + 1) * 1))) :=
    row_own hg (hR1.set L2) (by omega) hcm (by rw [hL2, splice_length hfit2, l1, hL]) hfin
  have HB : Hid (Below B w ((w.drew.setRow g L1.toArray).setRow g L2.toArray) ∧ OthT 9 w ((w.drew.setRow g L1.toArray).setRow g L2.toArray)) := ⟨(((Below.refl B w).drew).trans (below_row hg _)).trans (below_row hg _), ((oth_drew 9 w).trans (oth_row (show Row w.drew g 9 L from hr) _)).trans (oth_row hR1 _)⟩
  have HCl := hid hcl2
  unfold maxLen at hcm
  have hii : ¬ ((i : Int) = (i : Int) + 1) := by omega
  have hb9 : (0 : Int) ≤ (i : Int) + 1 := by omega
  have htn : ((i : Int) + 1).toNat = i + 1 := by omega
  have htm : ((m : Int) + 1).toNat = m + 1 := by omega
  have hi1 : (i : Int) + 1 ≤ (m : Int) + 1 := by omega
  have hcm1 : ¬ (cap = m) := by omega
  have hcm2 : (m : Int) + 1 ≤ cap := by omega
  have hmm : (m : Int) ≤ (m : Int) + 1 := by omega
  clear hcl2 hfin hL2 hfit2 hzl hR1 l1 hL
  have hrun0 : ∀ ty c, (Builtin.append_ #[22, 22] ty #[.slice (some ⟨g, 0, none⟩) i cap, .slice (some ⟨g, 0, none⟩) (m + 1 - (i + 1)) c]).run Try.prog w.drew = .ok (.slice (some ⟨g, 0, none⟩) m cap) (w.drew.setRow g L1.toArray) := fun ty c => by
    have h := run_app_to (w := w.drew) (n := i) (cap := cap) (m := m + 1 - (i + 1)) (c := c) (a := ⟨g, 0, none⟩) (cs := cs.drop ((i + 1) * 1)) Try.underlying22 sizek hr (by rw [hD]; congr 1; omega) (fun j u hu => by
      rw [List.drop_of_length_le (by rw [hcl]; have := Nat.mul_le_mul_right 1 (show m + 1 ≤ i + 1 by omega); omega)] at hu
      simp at hu) (fun u hu => h1 u (List.mem_of_mem_drop hu)) (by omega) hfit1 ty
    rw [show i + (m + 1 - (i + 1)) = m by omega, ← hL1] at h
    exact h
  have HA := hid hrun0
  clear hrun0 hL1 hD hcl h1 hcs hr hfit1
  go_enter Try.func53, Try.ntmps53
  go_wp2_with fail
  refine wp_region_held_drew (S := fun _ => True) (by kernel_rfl) trivial ?_
  intro _
  refine anyH_take 0 ⟨some 20, .move (.tmp 0), _, _, _, none⟩ (.slice (some ⟨g, 0, none⟩) (m + 1) cap) rfl rfl (by kernel_rfl) (by kernel_rfl) (by kernel_rfl) (fun _ _ _ h => h) (fun w _ => exec_mv2 rfl) trivial ?_
  simp only [Act.put, List.setIfInBounds_toArray, List.set_cons_zero, List.set_cons_succ]
  refine anyH_take 1 ⟨some 21, .move (.tmp 1), _, _, _, none⟩ (.int .i64 (i : Nat)) rfl rfl (by kernel_rfl) (by kernel_rfl) (by kernel_rfl) (fun _ _ _ h => h) (fun w _ => exec_mv2 rfl) trivial ?_
  simp only [Act.put, List.setIfInBounds_toArray, List.set_cons_zero, List.set_cons_succ]
  refine anyH_take 2 ⟨some 22, .slice 22 (.tmp 20) none (some (.tmp 21)) none, _, _, _, none⟩ (.slice (some ⟨g, 0, none⟩) i cap) rfl rfl (by kernel_rfl) (by kernel_rfl) (by kernel_rfl) (fun _ _ _ h => h) (fun w _ => exec_v (hi22 g 0 (m + 1) cap i w (by omega))) trivial ?_
  simp only [Act.put, List.setIfInBounds_toArray, List.set_cons_zero, List.set_cons_succ]
  refine anyH_take 3 ⟨some 23, .move (.tmp 0), _, _, _, none⟩ (.slice (some ⟨g, 0, none⟩) (m + 1) cap) rfl rfl (by kernel_rfl) (by kernel_rfl) (by kernel_rfl) (fun _ _ _ h => h) (fun w _ => exec_mv2 rfl) trivial ?_
  simp only [Act.put, List.setIfInBounds_toArray, List.set_cons_zero, List.set_cons_succ]
  refine anyH_take 4 ⟨some 24, .move (.tmp 2), _, _, _, none⟩ (.int .i64 ((i + 1 : Nat) : Int)) rfl rfl (by kernel_rfl) (by kernel_rfl) (by kernel_rfl) (fun _ _ _ h => h) (fun w _ => exec_mv2 rfl) trivial ?_
  simp only [Act.put, List.setIfInBounds_toArray, List.set_cons_zero, List.set_cons_succ]
  refine anyH_take 5 ⟨some 25, .slice 22 (.tmp 23) (some (.tmp 24)) none none, _, _, _, none⟩ (.slice (some ⟨g, 0, none⟩) (m + 1 - (i + 1)) (cap - (i + 1))) rfl rfl (by kernel_rfl) (by kernel_rfl) (by kernel_rfl) (fun _ _ _ h => h) (fun w _ => exec_v (le22 g 0 (m + 1) cap (i + 1) w (by omega) (by omega))) trivial ?_
  simp only [Act.put, List.setIfInBounds_toArray, List.set_cons_zero, List.set_cons_succ]
  refine anyH_one 6 ⟨some 26, .call { callee := .builtin .append, args := #[.tmp 22, .tmp 25], argTypes := #[22, 22] }, _, _, _, none⟩ (.slice (some ⟨g, 0, none⟩) m cap) (w.drew.setRow g L1.toArray) (by kernel_rfl) rfl rfl (exec_append rfl rfl (HA.out _ _)) trivial ?_
  simp only [Act.put, List.setIfInBounds_toArray, List.set_cons_zero, List.set_cons_succ]
  refine anyH_one 7 ⟨some 0, .assign (.tmp 26), _, _, _, none⟩ (.slice (some ⟨g, 0, none⟩) m cap) (w.drew.setRow g L1.toArray) (by kernel_rfl) rfl rfl (exec_as rfl) trivial ?_
  simp only [Act.put, List.setIfInBounds_toArray, List.set_cons_zero, List.set_cons_succ]
  refine wpAnyH_done (by kernel_rfl) ?_ _
  go_wp2_with (refine wpList_clear_run rfl (HCl.out _ _) ?_)
  go_ret
  exact ⟨_, rfl, HO.out, HB.out⟩

theorem deletek_any {w : World} {B m i : Nat} {v : Value} {cs : List Value} (ho : w.ownsRow B 9 1 v (m + 1) cs) (hi : i ≤ m) (hn : m ≤ 70000) (h1 : ∀ u ∈ cs, u.oneCell' = true) :
    Calls Try.prog 53 #[v, .int .i64 i, .int .i64 ((i + 1 : Nat) : Int)] w fun r w' => ∃ v', r = .returned v' ∧ w'.ownsRow B 9 1 v' m (cs.take (i * 1) ++ cs.drop ((i + 1) * 1)) ∧ Below B w w' ∧ OthT 9 w w' := by
  rcases own_row ho with ⟨_, h, _⟩ | ⟨g, cap, L, rfl, hg, hr, hnc, hcm, hL, hcs⟩
  · omega
  · by_cases hic : i + 1 < cap
    · exact deletek_mid hg hr hL hcs hnc hcm hi hic hn h1
    · exact deletek_last hg hr hL hcs hnc hcm hi (by omega) hn h1
end Go.Proofs.Ytkipigbfbhecjaa
