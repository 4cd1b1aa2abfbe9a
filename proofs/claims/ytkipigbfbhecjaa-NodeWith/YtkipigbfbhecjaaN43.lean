/- What this text holds: slices.Insert and slices.Delete of items, in place. -/
import Derived.Test.YtkipigbfbhecjaaN41
import Derived.Test.YtkipigbfbhecjaaN16
import Derived.Test.YtkipigbfbhecjaaN24
namespace Go.Proofs.Ytkipigbfbhecjaa
open Go.RowKit
set_option linter.unusedVariables false
set_option linter.unusedSimpArgs false


set_option maxRecDepth 100000 in
set_option maxHeartbeats 4000000 in
theorem inserti_place {w : World} {B g n cap i xb : Nat} {cs L X : List Value} (hg : B ≤ g) (hr : Row w g 51 L) (hL : L.length = cap * 3) (hcs : L.take (n * 3) = cs) (hnc : n + 1 ≤ cap) (hcm : cap ≤ maxLen) (hi : i < n) (hn : n ≤ 70000) (hx : Row w xb 51 X) (hxl : X.length = 3) (hxg : xb ≠ g) (h1 : ∀ u ∈ cs, u.oneCell' = true) (h1x : ∀ u ∈ X, u.oneCell' = true) :
    Calls Try.prog 52 #[.slice (some ⟨g, 0, none⟩) n cap, .int .i64 i, .slice (some ⟨xb, 0, none⟩) 1 1] w fun r w' => ∃ v', r = .returned v' ∧ w'.ownsRow B 51 3 v' (n + 1) (cs.take (i * 3) ++ X ++ cs.drop (i * 3)) ∧ Below B w w' ∧ OthT 51 w w' := by
  have hcl : cs.length = n * 3 := by rw [← hcs, List.length_take, hL]; exact Nat.min_eq_left (Nat.mul_le_mul_right _ (by omega))
  have hA : (cs.take (i * 3)).length = i * 3 := by rw [List.length_take, hcl]; omega
  have hD : (cs.drop (i * 3)).length = (n - i) * 3 := by rw [List.length_drop, hcl]; omega
  have hov : ∀ o lb cb, (callFunc 76 #[.slice (some ⟨xb, 0, none⟩) 1 1, .slice (some ⟨g, o, none⟩) lb cb]).run Try.prog w = .ok (.value (.bool false)) w := fun o lb cb =>
    overlaps_no overi Try.underlying23 sizeOi hx hr hxg (by intro h; rw [h, List.length_nil] at hL; omega) o 1 1 lb cb
  have hfit1 : (i + 1) * 3 + (cs.drop (i * 3)).length ≤ L.length := by rw [hD, hL]; have := Nat.mul_le_mul_right 3 (show i + 1 + (n - i) ≤ cap by omega); omega
  obtain ⟨L1, hL1⟩ : ∃ L1, L1 = splice L ((i + 1) * 3) (cs.drop (i * 3)) := ⟨_, rfl⟩
  have hcp1 : ∀ ty dc sc, (Builtin.copy_ #[23, 23] ty #[.slice (some ⟨g, 0 + (i + 1) * 3, none⟩) (n + 1 - (i + 1)) dc, .slice (some ⟨g, 0 + i * 3, none⟩) (n + 1 - i) sc]).run Try.prog w.drew = .ok (goInt ((n - i : Nat) : Int)) (w.drew.setRow g L1.toArray) := fun ty dc sc => by
    have := run_copy_to (w := w.drew) (o := (i + 1) * 3) (dLen := n + 1 - (i + 1)) (dCap := dc) (sLen := n + 1 - i) (sCap := sc) (a := ⟨g, i * 3, none⟩) Try.underlying23 sizei hr (k := n - i) (by simp only [Nat.min_def]; split <;> omega) hD (fun j u hu => by
      rw [Addr.add_lit]
      rw [List.getElem?_drop] at hu
      rw [← hcs, List.getElem?_take] at hu
      split at hu
      · exact (show Row w.drew g 51 L from hr).cell hu
      · cases hu) hfit1 (fun u hu => h1 u (List.mem_of_mem_drop hu)) ty
    rw [Nat.zero_add, Nat.zero_add, hL1]
    exact this
  have l1 : L1.length = L.length := by rw [hL1]; exact splice_length hfit1
  have hR1 : Row (w.drew.setRow g L1.toArray) g 51 L1 := (show Row w.drew g 51 L from hr).set L1
  have hx1 : Row (w.drew.setRow g L1.toArray) xb 51 X := (setRow_other _ _ _ _ hxg).trans hx
  obtain ⟨W1, hW1⟩ : ∃ W1, W1 = w.drew.setRow g L1.toArray := ⟨_, rfl⟩
  rw [← hW1] at hcp1 hR1 hx1
  have hfit2 : i * 3 + X.length ≤ L1.length := by rw [l1, hL, hxl]; have := Nat.mul_le_mul_right 3 (show i + 1 ≤ cap by omega); omega
  obtain ⟨L2, hL2⟩ : ∃ L2, L2 = splice L1 (i * 3) X := ⟨_, rfl⟩
  have hcp2 : ∀ ty dc, (Builtin.copy_ #[23, 23] ty #[.slice (some ⟨g, i * 3, none⟩) (n + 1 - i) dc, .slice (some ⟨xb, 0, none⟩) 1 1]).run Try.prog W1 = .ok (goInt (1 : Nat)) (W1.setRow g L2.toArray) := fun ty dc => by
    rw [hL2]
    have := run_copy_to (w := W1) (o := i * 3) (dLen := n + 1 - i) (dCap := dc) (sLen := 1) (sCap := 1) (a := ⟨xb, 0, none⟩) Try.underlying23 sizei hR1 (k := 1) (by simp only [Nat.min_def]; split <;> omega) (by simpa using hxl) (fun j u hu => by rw [Addr.add_lit, Nat.zero_add]; exact hx1.cell hu) hfit2 h1x ty
    simpa using this
  have hfin : L2.take ((n + 1) * 3) = cs.take (i * 3) ++ X ++ cs.drop (i * 3) := by
    have := place_list (L := L) (A := cs.take (i * 3)) (B := cs.drop (i * 3)) (k := 3) hA hxl (by rw [hD, ← Nat.add_mul, show i + (n - i) = n by omega, hcs, List.take_append_drop]) (by rw [hD, hL]; have := Nat.mul_le_mul_right 3 (show i + 1 + (n - i) ≤ cap by omega); omega)
    rw [hD, show i * 3 + 3 = (i + 1) * 3 by omega, show (i + 1) * 3 + (n - i) * 3 = (n + 1) * 3 by omega, ← hL1, ← hL2] at this
    exact this
  have hL2l : L2.length = cap * 3 := by rw [hL2, splice_length hfit2, l1, hL]
  have HO : Hid ((W1.setRow g L2.toArray).ownsRow B 51 3 (.slice (some ⟨g, 0, none⟩) (n + 1) cap) (n + 1) (cs.take (i * 3) ++ X ++ cs.drop (i * 3))) :=
    row_own hg (hR1.set L2) hnc hcm hL2l hfin
  have HB : Hid (Below B w (W1.setRow g L2.toArray) ∧ OthT 51 w (W1.setRow g L2.toArray)) := by
    have b1 : Below B w W1 := by rw [hW1]; exact ((Below.refl B w).drew).trans (below_row hg _)
    have o1 : OthT 51 w W1 := by rw [hW1]; exact (oth_drew 51 w).trans (oth_row (show Row w.drew g 51 L from hr) _)
    exact ⟨b1.trans (below_row hg _), o1.trans (oth_row hR1 _)⟩
  have HC1 := hid hcp1
  have HC2 := hid hcp2
  have HV := hid hov
  unfold maxLen at hcm
  have hz2' : ¬ ((i : Int) = (n : Int)) := by omega
  have hz3 : ¬ ((cap : Int) < (n : Int) + 1) := by omega
  have hci : ¬ (cap = i) := by omega
  have hci1 : ¬ (cap = i + 1) := by omega
  have hw1 : IntKind.i64.wrap ((i : Int) + 1) = (i : Int) + 1 := by rw [IntKind.wrap_i64]; omega
  have hw2 : IntKind.i64.wrap ((n : Int) + 1) = (n : Int) + 1 := by rw [IntKind.wrap_i64]; omega
  have hb9 : (0 : Int) ≤ (i : Int) + 1 := by omega
  have hb8 : (0 : Int) ≤ (n : Int) + 1 := by omega
  have htn : ((i : Int) + 1).toNat = i + 1 := by omega
  have htn2 : ((n : Int) + 1).toNat = n + 1 := by omega
  have hin : i ≤ n := by omega
  have hin1 : (i : Int) ≤ (n : Int) + 1 := by omega
  clear hcp1 hcp2 hov hL2l hfin hfit2 hx1 hR1 l1 hfit1 hA hD hcl h1x h1 hxl hx hcs hL hr hL2 hL1 hW1
  go_enter Try.func52, Try.ntmps52
  go_wp2_with (simp only [HV.out])
  refine wp_region_held_drew (S := fun _ => True) (by kernel_rfl) trivial ?_
  intro _
  refine anyH_take 0 ⟨some 69, .move (.tmp 0), _, _, _, none⟩ (.slice (some ⟨g, 0, none⟩) (n + 1) cap) rfl rfl (by kernel_rfl) (by kernel_rfl) (by kernel_rfl) (fun _ _ _ h => h) (fun w _ => exec_mv2 rfl) trivial ?_
  simp only [Act.put, List.setIfInBounds_toArray, List.set_cons_zero, List.set_cons_succ]
  refine anyH_take 1 ⟨some 70, .move (.tmp 1), _, _, _, none⟩ (.int .i64 (i : Nat)) rfl rfl (by kernel_rfl) (by kernel_rfl) (by kernel_rfl) (fun _ _ _ h => h) (fun w _ => exec_mv2 rfl) trivial ?_
  simp only [Act.put, List.setIfInBounds_toArray, List.set_cons_zero, List.set_cons_succ]
  refine anyH_take 2 ⟨some 71, .move (.tmp 7), _, _, _, none⟩ (.int .i64 1) rfl rfl (by kernel_rfl) (by kernel_rfl) (by kernel_rfl) (fun _ _ _ h => h) (fun w _ => exec_mv2 rfl) trivial ?_
  simp only [Act.put, List.setIfInBounds_toArray, List.set_cons_zero, List.set_cons_succ]
  refine anyH_take 3 ⟨some 72, .binOp .add 3 (.tmp 70) (.tmp 71) 3, _, _, _, none⟩ (.int .i64 ((i + 1 : Nat) : Int)) rfl rfl (by kernel_rfl) (by kernel_rfl) (by kernel_rfl) (fun _ _ _ h => h) (fun w _ => exec_addI rfl rfl (by omega)) trivial ?_
  simp only [Act.put, List.setIfInBounds_toArray, List.set_cons_zero, List.set_cons_succ]
  refine anyH_take 4 ⟨some 73, .slice 23 (.tmp 69) (some (.tmp 72)) none none, _, _, _, none⟩ (.slice (some ⟨g, 0 + (i + 1) * 3, none⟩) (n + 1 - (i + 1)) (cap - (i + 1))) rfl rfl (by kernel_rfl) (by kernel_rfl) (by kernel_rfl) (fun _ _ _ h => h) (fun w _ => exec_v (lo23 g 0 (n + 1) cap (i + 1) w (by omega) (by omega))) trivial ?_
  simp only [Act.put, List.setIfInBounds_toArray, List.set_cons_zero, List.set_cons_succ]
  refine anyH_take 5 ⟨some 74, .move (.tmp 0), _, _, _, none⟩ (.slice (some ⟨g, 0, none⟩) (n + 1) cap) rfl rfl (by kernel_rfl) (by kernel_rfl) (by kernel_rfl) (fun _ _ _ h => h) (fun w _ => exec_mv2 rfl) trivial ?_
  simp only [Act.put, List.setIfInBounds_toArray, List.set_cons_zero, List.set_cons_succ]
  refine anyH_take 6 ⟨some 75, .move (.tmp 1), _, _, _, none⟩ (.int .i64 (i : Nat)) rfl rfl (by kernel_rfl) (by kernel_rfl) (by kernel_rfl) (fun _ _ _ h => h) (fun w _ => exec_mv2 rfl) trivial ?_
  simp only [Act.put, List.setIfInBounds_toArray, List.set_cons_zero, List.set_cons_succ]
  refine anyH_take 7 ⟨some 76, .slice 23 (.tmp 74) (some (.tmp 75)) none none, _, _, _, none⟩ (.slice (some ⟨g, 0 + i * 3, none⟩) (n + 1 - i) (cap - i)) rfl rfl (by kernel_rfl) (by kernel_rfl) (by kernel_rfl) (fun _ _ _ h => h) (fun w _ => exec_v (lo23 g 0 (n + 1) cap i w (by omega) (by omega))) trivial ?_
  simp only [Act.put, List.setIfInBounds_toArray, List.set_cons_zero, List.set_cons_succ]
  refine anyH_one 8 ⟨some 77, .call { callee := .builtin .copy, args := #[.tmp 73, .tmp 76], argTypes := #[23, 23] }, _, _, _, none⟩ (goInt ((n - i : Nat) : Int)) W1 (by kernel_rfl) rfl rfl (exec_copy rfl rfl (HC1.out _ _ _)) trivial ?_
  simp only [Act.put, List.setIfInBounds_toArray, List.set_cons_zero, List.set_cons_succ]
  refine wpAnyH_done (by kernel_rfl) ?_ _
  go_wp2_with (refine wpList_copy_run rfl rfl (HC2.out _ _) ?_)
  go_ret
  exact ⟨_, rfl, HO.out, HB.out⟩

theorem inserti_any {w : World} {B n i xb : Nat} {v : Value} {cs X : List Value} (ho : w.ownsRow B 51 3 v n cs) (hB : B ≤ w.heap.size) (hi : i ≤ n) (hn : n ≤ 70000) (hx : Row w xb 51 X) (hxl : X.length = 3) (hxg : ∀ g, v.ownBlock = some g → xb ≠ g) (h1 : ∀ u ∈ cs, u.oneCell' = true) (h1x : ∀ u ∈ X, u.oneCell' = true) :
    Calls Try.prog 52 #[v, .int .i64 i, .slice (some ⟨xb, 0, none⟩) 1 1] w fun r w' => ∃ v', r = .returned v' ∧ w'.ownsRow B 51 3 v' (n + 1) (cs.take (i * 3) ++ X ++ cs.drop (i * 3)) ∧ Below B w w' ∧ OthT 51 w w' := by
  by_cases hin : i = n
  · subst hin
    have hcl := ho.1
    have := inserti_end ho hB hn hx hxl h1x
    rw [List.take_of_length_le (by omega), List.drop_of_length_le (by omega), List.append_nil]
    exact this
  · rcases own_row ho with ⟨rfl, rfl, rfl⟩ | ⟨g, cap, L, rfl, hg, hr, hnc, hcm, hL, hcs⟩
    · omega
    · by_cases hcap : cap < n + 1
      · exact inserti_grow hg hr hL hcs hnc hcap (by omega) hn hB hx hxl h1 h1x
      · exact inserti_place hg hr hL hcs (by omega) hcm (by omega) hn hx hxl (hxg g rfl) h1 h1x
end Go.Proofs.Ytkipigbfbhecjaa
