/- What this text holds: Join of nodes that are no leaves. -/
import Derived.Test.YtkipigbfbhecjaaN36
namespace Go.Proofs.Ytkipigbfbhecjaa
open Go.RowKit
set_option linter.unusedVariables false
set_option linter.unusedSimpArgs false

theorem seg_key {w : World} {g : Nat} {key : ByteArray} (h : w.cell? ⟨g, 0, none⟩ = some (.string key)) : Seg.ok w 1 ⟨some ⟨g, 0, none⟩, 1, 1, kc [key]⟩ :=
  ⟨.inr ⟨g, 0, rfl, fun j v hv => by
    cases j with
    | zero => simp [kc] at hv; subst hv; exact h
    | succ j => simp [kc] at hv⟩, rfl, kc_oneCell _, ⟨Nat.le_refl _, by show 1 ≤ maxLen; unfold maxLen; omega⟩⟩

set_option maxRecDepth 100000 in
set_option maxHeartbeats 8000000 in
theorem join_other {w : World} {va vb : Value} {a b : Nd} {key : ByteArray} (ha : NAt w va a) (hb : NAt w vb b) (sa : a.small) (sb : b.small) (hal : a.leaf = false) (hbl : b.leaf = false) (hkey : key.size ≤ maxLen) :
    Calls Try.prog 25 #[va, .string key, vb] w fun e w' => ∃ v, e = .returned v ∧ NAt w' v ⟨false, a.keys ++ ([key] ++ b.keys), [], a.kids ++ b.kids⟩ ∧ Below w.heap.size w w' := by
  obtain ⟨ka, kp, ia, ip, da, dp, rfl, hka, hia, hda, cKa, cIa, cDa⟩ := ha.at_
  obtain ⟨kA, kP, iA, iP, dA, dP, rfl, hkb, hib, hdb, cKb, cIb, cDb⟩ := hb.at_
  have HKsA := hid ha.ks
  have HIsA := hid ha.is_
  have HKsB := hid hb.ks
  have HIsB := hid hb.is_
  obtain ⟨sak, sai, sad⟩ := sa
  obtain ⟨sbk, sbi, sbd⟩ := sb
  have HbA := hid (below_box w (.cells #[.bool false, .slice ka a.keys.length kp, .slice ia a.items.length ip, .slice da a.kids.length dp] 26))
  have HbB := hid (below_box (w.alloc (.cells #[.bool false, .slice ka a.keys.length kp, .slice ia a.items.length ip, .slice da a.kids.length dp] 26)) (.cells #[.bool false, .slice kA b.keys.length kP, .slice iA b.items.length iP, .slice dA b.kids.length dP] 26))
  have HbZ := hid (below_box ((w.alloc (.cells #[.bool false, .slice ka a.keys.length kp, .slice ia a.items.length ip, .slice da a.kids.length dp] 26)).alloc (.cells #[.bool false, .slice kA b.keys.length kP, .slice iA b.items.length iP, .slice dA b.kids.length dP] 26)) (.cells #[.bool false, .slice none 0 0, .slice none 0 0, .slice none 0 0] 26))
  have HKa := hid (((hka.later HbA.out).later HbB.out).later HbZ.out)
  have HIa := hid (((hia.later HbA.out).later HbB.out).later HbZ.out)
  have HDa := hid (((hda.later HbA.out).later HbB.out).later HbZ.out)
  have HKb := hid (((hkb.later HbA.out).later HbB.out).later HbZ.out)
  have HIb := hid (((hib.later HbA.out).later HbB.out).later HbZ.out)
  have HDb := hid (((hdb.later HbA.out).later HbB.out).later HbZ.out)
  have e1 : (w.alloc (.cells #[.bool false, .slice ka a.keys.length kp, .slice ia a.items.length ip, .slice da a.kids.length dp] 26)).heap.size = w.heap.size + 1 := by simp
  have e2 : ((w.alloc (.cells #[.bool false, .slice ka a.keys.length kp, .slice ia a.items.length ip, .slice da a.kids.length dp] 26)).alloc (.cells #[.bool false, .slice kA b.keys.length kP, .slice iA b.items.length iP, .slice dA b.kids.length dP] 26)).heap.size = w.heap.size + 1 + 1 := by simp
  have e3 : (((w.alloc (.cells #[.bool false, .slice ka a.keys.length kp, .slice ia a.items.length ip, .slice da a.kids.length dp] 26)).alloc (.cells #[.bool false, .slice kA b.keys.length kP, .slice iA b.items.length iP, .slice dA b.kids.length dP] 26)).alloc (.cells #[.bool false, .slice none 0 0, .slice none 0 0, .slice none 0 0] 26)).heap.size = w.heap.size + 1 + 1 + 1 := by simp
  have hS : Boxes w.heap.size (w.heap.size + 1) #[.bool false, .slice ka a.keys.length kp, .slice ia a.items.length ip, .slice da a.kids.length dp] #[.bool false, .slice kA b.keys.length kP, .slice iA b.items.length iP, .slice dA b.kids.length dP] (((w.alloc (.cells #[.bool false, .slice ka a.keys.length kp, .slice ia a.items.length ip, .slice da a.kids.length dp] 26)).alloc (.cells #[.bool false, .slice kA b.keys.length kP, .slice iA b.items.length iP, .slice dA b.kids.length dP] 26)).alloc (.cells #[.bool false, .slice none 0 0, .slice none 0 0, .slice none 0 0] 26)) := by
    refine ⟨(HbZ.out.block _ (by rw [e2]; omega)).trans ((HbB.out.block _ (by rw [e1]; omega)).trans (heap_alloc_new w _)), (HbZ.out.block _ (by rw [e2]; omega)).trans ?_⟩
    have := heap_alloc_new (w.alloc (.cells #[.bool false, .slice ka a.keys.length kp, .slice ia a.items.length ip, .slice da a.kids.length dp] 26)) (.cells #[.bool false, .slice kA b.keys.length kP, .slice iA b.items.length iP, .slice dA b.kids.length dP] 26)
    rw [e1] at this
    exact this
  have HR : Hid ((((w.alloc (.cells #[.bool false, .slice ka a.keys.length kp, .slice ia a.items.length ip, .slice da a.kids.length dp] 26)).alloc (.cells #[.bool false, .slice kA b.keys.length kP, .slice iA b.items.length iP, .slice dA b.kids.length dP] 26)).alloc (.cells #[.bool false, .slice none 0 0, .slice none 0 0, .slice none 0 0] 26)).heap[w.heap.size + 1 + 1]? = some (.cells #[.bool false, .slice none 0 0, .slice none 0 0, .slice none 0 0] 26 (0, 0))) := by
    have := heap_alloc_new ((w.alloc (.cells #[.bool false, .slice ka a.keys.length kp, .slice ia a.items.length ip, .slice da a.kids.length dp] 26)).alloc (.cells #[.bool false, .slice kA b.keys.length kP, .slice iA b.items.length iP, .slice dA b.kids.length dP] 26)) (.cells #[.bool false, .slice none 0 0, .slice none 0 0, .slice none 0 0] 26)
    rw [e2] at this
    exact this
  have HSb := hid hS
  have HBW := hid (HbA.out.trans ((HbB.out.mono (by rw [e1]; omega)).trans (HbZ.out.mono (by rw [e2]; omega))))
  clear hka hia hda hkb hib hdb ha hb HbA HbB HbZ hS
  unfold nv
  rw [hal, hbl]
  clear hal hbl
  obtain ⟨x0, x1, x2, x3⟩ := (cells4 HSb.out.1).1
  obtain ⟨y0, y1, y2, y3⟩ := (cells4 HSb.out.2).1
  go_enter Try.func25, Try.ntmps25
  go_wp2_with fail
  clear x0 x1 x2 x3 y0 y1 y2 y3
  generalize ((w.alloc (.cells #[.bool false, .slice ka a.keys.length kp, .slice ia a.items.length ip, .slice da a.kids.length dp] 26)).alloc (.cells #[.bool false, .slice kA b.keys.length kP, .slice iA b.items.length iP, .slice dA b.kids.length dP] 26)).alloc (.cells #[.bool false, .slice none 0 0, .slice none 0 0, .slice none 0 0] 26) = W at *
  clear e1 e2
  generalize hBe : w.heap.size = b0 at *
  obtain ⟨b1, hb1⟩ : ∃ b1, b1 = b0 + 1 := ⟨_, rfl⟩
  obtain ⟨b2, hb2⟩ : ∃ b2, b2 = b0 + 1 + 1 := ⟨_, rfl⟩
  rw [← hb2] at HR ⊢
  rw [← hb1] at HSb ⊢
  have h02 : b0 ≠ b2 := by omega
  have h12 : b1 ≠ b2 := by omega
  have hb2B : b0 ≤ b2 := by omega
  have hb2lt : b2 < W.heap.size := by omega
  have hBW : b0 ≤ W.heap.size := by omega
  clear hb1 hb2 e3
  have HDr : Below W.heap.size W W.drew := (Below.refl _ W).drew
  have HS0 : Boxes b0 b1 #[.bool false, .slice ka a.keys.length kp, .slice ia a.items.length ip, .slice da a.kids.length dp] #[.bool false, .slice kA b.keys.length kP, .slice iA b.items.length iP, .slice dA b.kids.length dP] W.drew := HSb.out.later HDr
  have HB0d : Below W.heap.size W W.drew := HDr
  refine wp_region_held_drew (S := Boxes b0 b1 #[.bool false, .slice ka a.keys.length kp, .slice ia a.items.length ip, .slice da a.kids.length dp] #[.bool false, .slice kA b.keys.length kP, .slice iA b.items.length iP, .slice dA b.kids.length dP]) (by kernel_rfl) HS0 ?_
  intro _
  refine anyH_take 0 ⟨some 29, .fieldAddr 26 (.tmp 3) 1, _, _, _, none⟩ (.pointer (some ⟨b0, 1, none⟩)) rfl rfl (by kernel_rfl) (by kernel_rfl) (by kernel_rfl) (fun _ _ _ h => h) (fun w _ => exec_v (field26 b0 w).1) (HS0) ?_
  simp only [Act.put, List.setIfInBounds_toArray, List.set_cons_zero, List.set_cons_succ]
  refine anyH_take 1 ⟨some 30, .load 22 (.tmp 29), _, _, _, none⟩ (.slice ka a.keys.length kp) rfl rfl (by kernel_rfl) (by kernel_rfl) (by kernel_rfl) (fun _ _ _ h => h) (fun w hS => exec_v (load22 (cells4 hS.1).1.2.1)) (HS0) ?_
  simp only [Act.put, List.setIfInBounds_toArray, List.set_cons_zero, List.set_cons_succ]
  refine anyH_take 2 ⟨some 31, .move (.tmp 1), _, _, _, none⟩ (.string key) rfl rfl (by kernel_rfl) (by kernel_rfl) (by kernel_rfl) (fun _ _ _ h => h) (fun w _ => exec_mv rfl) (HS0) ?_
  simp only [Act.put, List.setIfInBounds_toArray, List.set_cons_zero, List.set_cons_succ]
  refine anyH_take 4 ⟨some 33, .fieldAddr 26 (.tmp 5) 1, _, _, _, none⟩ (.pointer (some ⟨b1, 1, none⟩)) rfl rfl (by kernel_rfl) (by kernel_rfl) (by kernel_rfl) (fun _ _ _ h => h) (fun w _ => exec_v (field26 b1 w).1) (HS0) ?_
  simp only [Act.put, List.setIfInBounds_toArray, List.set_cons_zero, List.set_cons_succ]
  refine anyH_take 5 ⟨some 34, .load 22 (.tmp 33), _, _, _, none⟩ (.slice kA b.keys.length kP) rfl rfl (by kernel_rfl) (by kernel_rfl) (by kernel_rfl) (fun _ _ _ h => h) (fun w hS => exec_v (load22 (cells4 hS.2).1.2.1)) (HS0) ?_
  simp only [Act.put, List.setIfInBounds_toArray, List.set_cons_zero, List.set_cons_succ]
  refine anyH_take 8 ⟨some 37, .fieldAddr 26 (.tmp 3) 3, _, _, _, none⟩ (.pointer (some ⟨b0, 3, none⟩)) rfl rfl (by kernel_rfl) (by kernel_rfl) (by kernel_rfl) (fun _ _ _ h => h) (fun w _ => exec_v (field26 b0 w).2.2) (HS0) ?_
  simp only [Act.put, List.setIfInBounds_toArray, List.set_cons_zero, List.set_cons_succ]
  refine anyH_take 9 ⟨some 38, .load 24 (.tmp 37), _, _, _, none⟩ (.slice da a.kids.length dp) rfl rfl (by kernel_rfl) (by kernel_rfl) (by kernel_rfl) (fun _ _ _ h => h) (fun w hS => exec_v (load24 (cells4 hS.1).1.2.2.2)) (HS0) ?_
  simp only [Act.put, List.setIfInBounds_toArray, List.set_cons_zero, List.set_cons_succ]
  refine anyH_take 10 ⟨some 39, .fieldAddr 26 (.tmp 5) 3, _, _, _, none⟩ (.pointer (some ⟨b1, 3, none⟩)) rfl rfl (by kernel_rfl) (by kernel_rfl) (by kernel_rfl) (fun _ _ _ h => h) (fun w _ => exec_v (field26 b1 w).2.2) (HS0) ?_
  simp only [Act.put, List.setIfInBounds_toArray, List.set_cons_zero, List.set_cons_succ]
  refine anyH_take 11 ⟨some 40, .load 24 (.tmp 39), _, _, _, none⟩ (.slice dA b.kids.length dP) rfl rfl (by kernel_rfl) (by kernel_rfl) (by kernel_rfl) (fun _ _ _ h => h) (fun w hS => exec_v (load24 (cells4 hS.2).1.2.2.2)) (HS0) ?_
  simp only [Act.put, List.setIfInBounds_toArray, List.set_cons_zero, List.set_cons_succ]
  refine anyH_two 3 12 (by kernel_rfl) ?_ ?_
  · have hbd1 := bs22_1 key W.drew
    obtain ⟨gb1, hgb1⟩ : ∃ g, g = W.drew.heap.size := ⟨_, rfl⟩
    obtain ⟨wb1, hwb1⟩ : ∃ w', w' = W.drew.alloc (.cells #[.string key] 9) := ⟨_, rfl⟩
    rw [← hgb1, ← hwb1] at hbd1
    have hx1_0 : wb1.cell? ⟨gb1, 0, none⟩ = some (.string key) := by rw [hwb1, hgb1]; exact alloc_cell rfl
    have hst1 : Below W.drew.heap.size W.drew wb1 := by rw [hwb1]; exact below_box _ _
    have hSwb1 := HS0.later hst1
    have hBwb1 := HB0d.trans (hst1.mono HB0d.size)
    refine wpOp_run (o := ⟨some 32, .buildSlice 22 1 #[(0, .tmp 31)], _, _, _, none⟩) rfl rfl (exec_lay1 rfl hbd1) ⟨hSwb1, ?_⟩
    simp only [Act.put, List.setIfInBounds_toArray, List.set_cons_zero, List.set_cons_succ]
    refine anyH_two 6 12 (by kernel_rfl) ?_ ?_
    · have hbd2 := bs99_3 ka a.keys.length kp (some ⟨gb1, 0, none⟩) 1 1 kA b.keys.length kP wb1
      obtain ⟨gb2, hgb2⟩ : ∃ g, g = wb1.heap.size := ⟨_, rfl⟩
      obtain ⟨wb2, hwb2⟩ : ∃ w', w' = wb1.alloc (.cells #[.slice ka a.keys.length kp, .slice (some ⟨gb1, 0, none⟩) 1 1, .slice kA b.keys.length kP] 22) := ⟨_, rfl⟩
      rw [← hgb2, ← hwb2] at hbd2
      have hx2_0 : wb2.cell? ⟨gb2, 0, none⟩ = some (.slice ka a.keys.length kp) := by rw [hwb2, hgb2]; exact alloc_cell rfl
      have hx2_1 : wb2.cell? ⟨gb2, 1, none⟩ = some (.slice (some ⟨gb1, 0, none⟩) 1 1) := by rw [hwb2, hgb2]; exact alloc_cell rfl
      have hx2_2 : wb2.cell? ⟨gb2, 2, none⟩ = some (.slice kA b.keys.length kP) := by rw [hwb2, hgb2]; exact alloc_cell rfl
      have hst2 : Below wb1.heap.size wb1 wb2 := by rw [hwb2]; exact below_box _ _
      have hSwb2 := hSwb1.later hst2
      have hBwb2 := hBwb1.trans (hst2.mono hBwb1.size)
      refine wpOp_run (o := ⟨some 35, .buildSlice 99 3 #[(0, .tmp 30), (1, .tmp 32), (2, .tmp 34)], _, _, _, none⟩) rfl rfl (exec_lay3 rfl rfl rfl hbd2) ⟨hSwb2, ?_⟩
      simp only [Act.put, List.setIfInBounds_toArray, List.set_cons_zero, List.set_cons_succ]
      refine anyH_two 7 12 (by kernel_rfl) ?_ ?_
      · have hok3 : ∀ s ∈ ([⟨ka, a.keys.length, kp, kc a.keys⟩, ⟨some ⟨gb1, 0, none⟩, 1, 1, kc [key]⟩, ⟨kA, b.keys.length, kP, kc b.keys⟩] : List Seg), s.ok wb2 1 := by
          intro s hs
          simp only [List.mem_cons, List.not_mem_nil, or_false] at hs
          rcases hs with rfl | rfl | rfl
          · exact ⟨(At.later (At.later (At.later HKa.out HDr) hst1) hst2), by rw [kc_length]; simp, kc_oneCell _, cKa⟩
          · exact seg_key (cell_later hst2 hx1_0)
          · exact ⟨(At.later (At.later (At.later HKb.out HDr) hst1) hst2), by rw [kc_length]; simp, kc_oneCell _, cKb⟩
        have hce3 : ∀ j (h : j < ([⟨ka, a.keys.length, kp, kc a.keys⟩, ⟨some ⟨gb1, 0, none⟩, 1, 1, kc [key]⟩, ⟨kA, b.keys.length, kP, kc b.keys⟩] : List Seg).length), wb2.cell? ⟨gb2, j, none⟩ = some ([⟨ka, a.keys.length, kp, kc a.keys⟩, ⟨some ⟨gb1, 0, none⟩, 1, 1, kc [key]⟩, ⟨kA, b.keys.length, kP, kc b.keys⟩] : List Seg)[j].v := by
          intro j h
          rcases j with _ | _ | _ | j
          · exact hx2_0
          · exact hx2_1
          · exact hx2_2
          · simp at h; try omega
        refine wpOp_callW (o := ⟨some 36, .call { callee := .value (.func 48), args := #[.tmp 35], argTypes := #[99] }, _, _, _, none⟩) rfl rfl (exec_call48 rfl) ?_
        refine (concatk_any gb2 3 3 _ rfl (by omega) ⟨by omega, by omega⟩ hce3 hok3 (by simp only [tot]; omega)).mono ?_
        rintro e wc3 ⟨r3, q3, rfl, hat3, hcap3, hst3⟩
        have hSwc3 := hSwb2.later hst3
        have hBwc3 := hBwb2.trans (hst3.mono hBwb2.size)
        refine ⟨_, rfl, hSwc3, ?_⟩
        simp only [Act.put, List.setIfInBounds_toArray, List.set_cons_zero, List.set_cons_succ]
        have hbd4 := bs103_2 da a.kids.length dp dA b.kids.length dP wc3
        obtain ⟨gb4, hgb4⟩ : ∃ g, g = wc3.heap.size := ⟨_, rfl⟩
        obtain ⟨wb4, hwb4⟩ : ∃ w', w' = wc3.alloc (.cells #[.slice da a.kids.length dp, .slice dA b.kids.length dP] 24) := ⟨_, rfl⟩
        rw [← hgb4, ← hwb4] at hbd4
        have hx4_0 : wb4.cell? ⟨gb4, 0, none⟩ = some (.slice da a.kids.length dp) := by rw [hwb4, hgb4]; exact alloc_cell rfl
        have hx4_1 : wb4.cell? ⟨gb4, 1, none⟩ = some (.slice dA b.kids.length dP) := by rw [hwb4, hgb4]; exact alloc_cell rfl
        have hst4 : Below wc3.heap.size wc3 wb4 := by rw [hwb4]; exact below_box _ _
        have hSwb4 := hSwc3.later hst4
        have hBwb4 := hBwc3.trans (hst4.mono hBwc3.size)
        refine anyH_one 12 ⟨some 41, .buildSlice 103 2 #[(0, .tmp 38), (1, .tmp 40)], _, _, _, none⟩ (.slice (some ⟨gb4, 0, none⟩) 2 2) wb4 (by kernel_rfl) rfl rfl (exec_lay2 rfl rfl hbd4) hSwb4 ?_
        simp only [Act.put, List.setIfInBounds_toArray, List.set_cons_zero, List.set_cons_succ]
        have hok5 : ∀ s ∈ ([⟨da, a.kids.length, dp, dc a.kids⟩, ⟨dA, b.kids.length, dP, dc b.kids⟩] : List Seg), s.ok wb4 1 := by
          intro s hs
          simp only [List.mem_cons, List.not_mem_nil, or_false] at hs
          rcases hs with rfl | rfl
          · exact ⟨(At.later (At.later (At.later (At.later (At.later HDa.out HDr) hst1) hst2) hst3) hst4), by rw [dc_length]; simp, dc_oneCell _, cDa⟩
          · exact ⟨(At.later (At.later (At.later (At.later (At.later HDb.out HDr) hst1) hst2) hst3) hst4), by rw [dc_length]; simp, dc_oneCell _, cDb⟩
        have hce5 : ∀ j (h : j < ([⟨da, a.kids.length, dp, dc a.kids⟩, ⟨dA, b.kids.length, dP, dc b.kids⟩] : List Seg).length), wb4.cell? ⟨gb4, j, none⟩ = some ([⟨da, a.kids.length, dp, dc a.kids⟩, ⟨dA, b.kids.length, dP, dc b.kids⟩] : List Seg)[j].v := by
          intro j h
          rcases j with _ | _ | j
          · exact hx4_0
          · exact hx4_1
          · simp at h; try omega
        refine anyH_callW 13 ⟨some 42, .call { callee := .value (.func 50), args := #[.tmp 41], argTypes := #[103] }, _, _, _, none⟩ 50 _ (by kernel_rfl) rfl rfl (exec_call50 rfl) ?_
        refine (concatd_any gb4 2 2 _ rfl (by omega) ⟨by omega, by omega⟩ hce5 hok5 (by simp only [tot]; omega)).mono ?_
        rintro e wc5 ⟨r5, q5, rfl, hat5, hcap5, hst5⟩
        have hSwc5 := hSwb4.later hst5
        have hBwc5 := hBwb4.trans (hst5.mono hBwb4.size)
        refine ⟨_, rfl, hSwc5, ?_⟩
        simp only [Act.put, List.setIfInBounds_toArray, List.set_cons_zero, List.set_cons_succ]
        refine anyH_one 14 ⟨some 43, .build 26 #[(1, .tmp 36), (3, .tmp 42)], _, _, _, none⟩ (.agg #[.bool false, .slice r3 (tot [⟨ka, a.keys.length, kp, kc a.keys⟩, ⟨some ⟨gb1, 0, none⟩, 1, 1, kc [key]⟩, ⟨kA, b.keys.length, kP, kc b.keys⟩]) q3, .slice none 0 0, .slice r5 (tot [⟨da, a.kids.length, dp, dc a.kids⟩, ⟨dA, b.kids.length, dP, dc b.kids⟩]) q5]) wc5 (by kernel_rfl) rfl rfl (exec_build26b rfl rfl (build26b _ _ _ _ _ _ _)) hSwc5 ?_
        simp only [Act.put, List.setIfInBounds_toArray, List.set_cons_zero, List.set_cons_succ]
        have hR' : wc5.heap[b2]? = some (.cells #[.bool false, .slice none 0 0, .slice none 0 0, .slice none 0 0] 26 (0, 0)) := (hBwc5.block b2 hb2lt).trans HR.out
        refine anyH_oneSkip 15 ⟨none, .store 26 (.tmp 6) (.tmp 43), _, _, _, none⟩ (wc5.setRow b2 #[.bool false, .slice r3 (tot [⟨ka, a.keys.length, kp, kc a.keys⟩, ⟨some ⟨gb1, 0, none⟩, 1, 1, kc [key]⟩, ⟨kA, b.keys.length, kP, kc b.keys⟩]) q3, .slice none 0 0, .slice r5 (tot [⟨da, a.kids.length, dp, dc a.kids⟩, ⟨dA, b.kids.length, dP, dc b.kids⟩]) q5]) (by kernel_rfl) rfl rfl (exec_store26 rfl rfl hR') ⟨(setRow_other _ _ _ _ h02).trans hSwc5.1, (setRow_other _ _ _ _ h12).trans hSwc5.2⟩ ?_
        simp only [Act.put, List.setIfInBounds_toArray, List.set_cons_zero, List.set_cons_succ]
        refine wpAnyH_done (by kernel_rfl) ?_ _
        have HA1 := hid ((At.setRow (At.later (At.later hat3 hst4) hst5) (by simp only [flat]; intro v hv; simp only [List.mem_append, List.not_mem_nil, or_false] at hv; rcases hv with h | h | h <;> exact kc_plain _ _ h) hR' #[.bool false, .slice r3 (tot [⟨ka, a.keys.length, kp, kc a.keys⟩, ⟨some ⟨gb1, 0, none⟩, 1, 1, kc [key]⟩, ⟨kA, b.keys.length, kP, kc b.keys⟩]) q3, .slice none 0 0, .slice r5 (tot [⟨da, a.kids.length, dp, dc a.kids⟩, ⟨dA, b.kids.length, dP, dc b.kids⟩]) q5]))
        have HA2 := hid ((At.setRow hat5 (by simp only [flat]; intro v hv; simp only [List.mem_append, List.not_mem_nil, or_false] at hv; rcases hv with h | h <;> exact dc_plain _ _ h) hR' #[.bool false, .slice r3 (tot [⟨ka, a.keys.length, kp, kc a.keys⟩, ⟨some ⟨gb1, 0, none⟩, 1, 1, kc [key]⟩, ⟨kA, b.keys.length, kP, kc b.keys⟩]) q3, .slice none 0 0, .slice r5 (tot [⟨da, a.kids.length, dp, dc a.kids⟩, ⟨dA, b.kids.length, dP, dc b.kids⟩]) q5]))
        have HBF := hid ((HBW.out.trans (hBwc5.mono hBW)).trans (below_setRow (w := wc5) hb2B #[.bool false, .slice r3 (tot [⟨ka, a.keys.length, kp, kc a.keys⟩, ⟨some ⟨gb1, 0, none⟩, 1, 1, kc [key]⟩, ⟨kA, b.keys.length, kP, kc b.keys⟩]) q3, .slice none 0 0, .slice r5 (tot [⟨da, a.kids.length, dp, dc a.kids⟩, ⟨dA, b.kids.length, dP, dc b.kids⟩]) q5]))
        have HRF := hid (setRow_heap wc5 b2 _ #[.bool false, .slice r3 (tot [⟨ka, a.keys.length, kp, kc a.keys⟩, ⟨some ⟨gb1, 0, none⟩, 1, 1, kc [key]⟩, ⟨kA, b.keys.length, kP, kc b.keys⟩]) q3, .slice none 0 0, .slice r5 (tot [⟨da, a.kids.length, dp, dc a.kids⟩, ⟨dA, b.kids.length, dP, dc b.kids⟩]) q5] 26 _ hR')
        generalize wc5.setRow b2 #[.bool false, .slice r3 (tot [⟨ka, a.keys.length, kp, kc a.keys⟩, ⟨some ⟨gb1, 0, none⟩, 1, 1, kc [key]⟩, ⟨kA, b.keys.length, kP, kc b.keys⟩]) q3, .slice none 0 0, .slice r5 (tot [⟨da, a.kids.length, dp, dc a.kids⟩, ⟨dA, b.kids.length, dP, dc b.kids⟩]) q5] = WF at HA1 HA2 HBF HRF ⊢
        go_wp2_with fail
        refine bodyPost_ret (results_cell26 rfl rfl HRF.out) rfl ?_
        exact ⟨_, rfl, ⟨⟨r3, q3, none, 0, r5, q5, by simp [nv, tot, Nat.add_comm], by have h := HA1.out; simp only [flat, List.append_nil] at h; show At WF _ (kc (a.keys ++ ([key] ++ b.keys))); rw [kc_app, kc_app]; exact h, .inl rfl, by have h := HA2.out; simp only [flat, List.append_nil] at h; show At WF _ (dc (a.kids ++ b.kids)); rw [dc_app]; exact h, by simpa [tot, Nat.add_comm] using hcap3, ⟨Nat.le_refl _, Nat.zero_le _⟩, by simpa [tot] using hcap5⟩, (fun k hk => (List.mem_append.1 hk).elim (HKsA.out k) (fun h => (List.mem_append.1 h).elim (fun h => by rw [List.mem_singleton.1 h]; exact hkey) (HKsB.out k))), fun x hx => by cases hx⟩, hBe ▸ HBF.out⟩

      · have hbd6 := bs103_2 da a.kids.length dp dA b.kids.length dP wb2
        obtain ⟨gb6, hgb6⟩ : ∃ g, g = wb2.heap.size := ⟨_, rfl⟩
        obtain ⟨wb6, hwb6⟩ : ∃ w', w' = wb2.alloc (.cells #[.slice da a.kids.length dp, .slice dA b.kids.length dP] 24) := ⟨_, rfl⟩
        rw [← hgb6, ← hwb6] at hbd6
        have hx6_0 : wb6.cell? ⟨gb6, 0, none⟩ = some (.slice da a.kids.length dp) := by rw [hwb6, hgb6]; exact alloc_cell rfl
        have hx6_1 : wb6.cell? ⟨gb6, 1, none⟩ = some (.slice dA b.kids.length dP) := by rw [hwb6, hgb6]; exact alloc_cell rfl
        have hst6 : Below wb2.heap.size wb2 wb6 := by rw [hwb6]; exact below_box _ _
        have hSwb6 := hSwb2.later hst6
        have hBwb6 := hBwb2.trans (hst6.mono hBwb2.size)
        refine wpOp_run (o := ⟨some 41, .buildSlice 103 2 #[(0, .tmp 38), (1, .tmp 40)], _, _, _, none⟩) rfl rfl (exec_lay2 rfl rfl hbd6) ⟨hSwb6, ?_⟩
        simp only [Act.put, List.setIfInBounds_toArray, List.set_cons_zero, List.set_cons_succ]
        have hok7 : ∀ s ∈ ([⟨ka, a.keys.length, kp, kc a.keys⟩, ⟨some ⟨gb1, 0, none⟩, 1, 1, kc [key]⟩, ⟨kA, b.keys.length, kP, kc b.keys⟩] : List Seg), s.ok wb6 1 := by
          intro s hs
          simp only [List.mem_cons, List.not_mem_nil, or_false] at hs
          rcases hs with rfl | rfl | rfl
          · exact ⟨(At.later (At.later (At.later (At.later HKa.out HDr) hst1) hst2) hst6), by rw [kc_length]; simp, kc_oneCell _, cKa⟩
          · exact seg_key (cell_later hst6 (cell_later hst2 hx1_0))
          · exact ⟨(At.later (At.later (At.later (At.later HKb.out HDr) hst1) hst2) hst6), by rw [kc_length]; simp, kc_oneCell _, cKb⟩
        have hce7 : ∀ j (h : j < ([⟨ka, a.keys.length, kp, kc a.keys⟩, ⟨some ⟨gb1, 0, none⟩, 1, 1, kc [key]⟩, ⟨kA, b.keys.length, kP, kc b.keys⟩] : List Seg).length), wb6.cell? ⟨gb2, j, none⟩ = some ([⟨ka, a.keys.length, kp, kc a.keys⟩, ⟨some ⟨gb1, 0, none⟩, 1, 1, kc [key]⟩, ⟨kA, b.keys.length, kP, kc b.keys⟩] : List Seg)[j].v := by
          intro j h
          rcases j with _ | _ | _ | j
          · exact (cell_later hst6 hx2_0)
          · exact (cell_later hst6 hx2_1)
          · exact (cell_later hst6 hx2_2)
          · simp at h; try omega
        refine anyH_callW 7 ⟨some 36, .call { callee := .value (.func 48), args := #[.tmp 35], argTypes := #[99] }, _, _, _, none⟩ 48 _ (by kernel_rfl) rfl rfl (exec_call48 rfl) ?_
        refine (concatk_any gb2 3 3 _ rfl (by omega) ⟨by omega, by omega⟩ hce7 hok7 (by simp only [tot]; omega)).mono ?_
        rintro e wc7 ⟨r7, q7, rfl, hat7, hcap7, hst7⟩
        have hSwc7 := hSwb6.later hst7
        have hBwc7 := hBwb6.trans (hst7.mono hBwb6.size)
        refine ⟨_, rfl, hSwc7, ?_⟩
        simp only [Act.put, List.setIfInBounds_toArray, List.set_cons_zero, List.set_cons_succ]
        have hok8 : ∀ s ∈ ([⟨da, a.kids.length, dp, dc a.kids⟩, ⟨dA, b.kids.length, dP, dc b.kids⟩] : List Seg), s.ok wc7 1 := by
          intro s hs
          simp only [List.mem_cons, List.not_mem_nil, or_false] at hs
          rcases hs with rfl | rfl
          · exact ⟨(At.later (At.later (At.later (At.later (At.later HDa.out HDr) hst1) hst2) hst6) hst7), by rw [dc_length]; simp, dc_oneCell _, cDa⟩
          · exact ⟨(At.later (At.later (At.later (At.later (At.later HDb.out HDr) hst1) hst2) hst6) hst7), by rw [dc_length]; simp, dc_oneCell _, cDb⟩
        have hce8 : ∀ j (h : j < ([⟨da, a.kids.length, dp, dc a.kids⟩, ⟨dA, b.kids.length, dP, dc b.kids⟩] : List Seg).length), wc7.cell? ⟨gb6, j, none⟩ = some ([⟨da, a.kids.length, dp, dc a.kids⟩, ⟨dA, b.kids.length, dP, dc b.kids⟩] : List Seg)[j].v := by
          intro j h
          rcases j with _ | _ | j
          · exact (cell_later hst7 hx6_0)
          · exact (cell_later hst7 hx6_1)
          · simp at h; try omega
        refine anyH_callW 13 ⟨some 42, .call { callee := .value (.func 50), args := #[.tmp 41], argTypes := #[103] }, _, _, _, none⟩ 50 _ (by kernel_rfl) rfl rfl (exec_call50 rfl) ?_
        refine (concatd_any gb6 2 2 _ rfl (by omega) ⟨by omega, by omega⟩ hce8 hok8 (by simp only [tot]; omega)).mono ?_
        rintro e wc8 ⟨r8, q8, rfl, hat8, hcap8, hst8⟩
        have hSwc8 := hSwc7.later hst8
        have hBwc8 := hBwc7.trans (hst8.mono hBwc7.size)
        refine ⟨_, rfl, hSwc8, ?_⟩
        simp only [Act.put, List.setIfInBounds_toArray, List.set_cons_zero, List.set_cons_succ]
        refine anyH_one 14 ⟨some 43, .build 26 #[(1, .tmp 36), (3, .tmp 42)], _, _, _, none⟩ (.agg #[.bool false, .slice r7 (tot [⟨ka, a.keys.length, kp, kc a.keys⟩, ⟨some ⟨gb1, 0, none⟩, 1, 1, kc [key]⟩, ⟨kA, b.keys.length, kP, kc b.keys⟩]) q7, .slice none 0 0, .slice r8 (tot [⟨da, a.kids.length, dp, dc a.kids⟩, ⟨dA, b.kids.length, dP, dc b.kids⟩]) q8]) wc8 (by kernel_rfl) rfl rfl (exec_build26b rfl rfl (build26b _ _ _ _ _ _ _)) hSwc8 ?_
        simp only [Act.put, List.setIfInBounds_toArray, List.set_cons_zero, List.set_cons_succ]
        have hR' : wc8.heap[b2]? = some (.cells #[.bool false, .slice none 0 0, .slice none 0 0, .slice none 0 0] 26 (0, 0)) := (hBwc8.block b2 hb2lt).trans HR.out
        refine anyH_oneSkip 15 ⟨none, .store 26 (.tmp 6) (.tmp 43), _, _, _, none⟩ (wc8.setRow b2 #[.bool false, .slice r7 (tot [⟨ka, a.keys.length, kp, kc a.keys⟩, ⟨some ⟨gb1, 0, none⟩, 1, 1, kc [key]⟩, ⟨kA, b.keys.length, kP, kc b.keys⟩]) q7, .slice none 0 0, .slice r8 (tot [⟨da, a.kids.length, dp, dc a.kids⟩, ⟨dA, b.kids.length, dP, dc b.kids⟩]) q8]) (by kernel_rfl) rfl rfl (exec_store26 rfl rfl hR') ⟨(setRow_other _ _ _ _ h02).trans hSwc8.1, (setRow_other _ _ _ _ h12).trans hSwc8.2⟩ ?_
        simp only [Act.put, List.setIfInBounds_toArray, List.set_cons_zero, List.set_cons_succ]
        refine wpAnyH_done (by kernel_rfl) ?_ _
        have HA1 := hid ((At.setRow (At.later hat7 hst8) (by simp only [flat]; intro v hv; simp only [List.mem_append, List.not_mem_nil, or_false] at hv; rcases hv with h | h | h <;> exact kc_plain _ _ h) hR' #[.bool false, .slice r7 (tot [⟨ka, a.keys.length, kp, kc a.keys⟩, ⟨some ⟨gb1, 0, none⟩, 1, 1, kc [key]⟩, ⟨kA, b.keys.length, kP, kc b.keys⟩]) q7, .slice none 0 0, .slice r8 (tot [⟨da, a.kids.length, dp, dc a.kids⟩, ⟨dA, b.kids.length, dP, dc b.kids⟩]) q8]))
        have HA2 := hid ((At.setRow hat8 (by simp only [flat]; intro v hv; simp only [List.mem_append, List.not_mem_nil, or_false] at hv; rcases hv with h | h <;> exact dc_plain _ _ h) hR' #[.bool false, .slice r7 (tot [⟨ka, a.keys.length, kp, kc a.keys⟩, ⟨some ⟨gb1, 0, none⟩, 1, 1, kc [key]⟩, ⟨kA, b.keys.length, kP, kc b.keys⟩]) q7, .slice none 0 0, .slice r8 (tot [⟨da, a.kids.length, dp, dc a.kids⟩, ⟨dA, b.kids.length, dP, dc b.kids⟩]) q8]))
        have HBF := hid ((HBW.out.trans (hBwc8.mono hBW)).trans (below_setRow (w := wc8) hb2B #[.bool false, .slice r7 (tot [⟨ka, a.keys.length, kp, kc a.keys⟩, ⟨some ⟨gb1, 0, none⟩, 1, 1, kc [key]⟩, ⟨kA, b.keys.length, kP, kc b.keys⟩]) q7, .slice none 0 0, .slice r8 (tot [⟨da, a.kids.length, dp, dc a.kids⟩, ⟨dA, b.kids.length, dP, dc b.kids⟩]) q8]))
        have HRF := hid (setRow_heap wc8 b2 _ #[.bool false, .slice r7 (tot [⟨ka, a.keys.length, kp, kc a.keys⟩, ⟨some ⟨gb1, 0, none⟩, 1, 1, kc [key]⟩, ⟨kA, b.keys.length, kP, kc b.keys⟩]) q7, .slice none 0 0, .slice r8 (tot [⟨da, a.kids.length, dp, dc a.kids⟩, ⟨dA, b.kids.length, dP, dc b.kids⟩]) q8] 26 _ hR')
        generalize wc8.setRow b2 #[.bool false, .slice r7 (tot [⟨ka, a.keys.length, kp, kc a.keys⟩, ⟨some ⟨gb1, 0, none⟩, 1, 1, kc [key]⟩, ⟨kA, b.keys.length, kP, kc b.keys⟩]) q7, .slice none 0 0, .slice r8 (tot [⟨da, a.kids.length, dp, dc a.kids⟩, ⟨dA, b.kids.length, dP, dc b.kids⟩]) q8] = WF at HA1 HA2 HBF HRF ⊢
        go_wp2_with fail
        refine bodyPost_ret (results_cell26 rfl rfl HRF.out) rfl ?_
        exact ⟨_, rfl, ⟨⟨r7, q7, none, 0, r8, q8, by simp [nv, tot, Nat.add_comm], by have h := HA1.out; simp only [flat, List.append_nil] at h; show At WF _ (kc (a.keys ++ ([key] ++ b.keys))); rw [kc_app, kc_app]; exact h, .inl rfl, by have h := HA2.out; simp only [flat, List.append_nil] at h; show At WF _ (dc (a.kids ++ b.kids)); rw [dc_app]; exact h, by simpa [tot, Nat.add_comm] using hcap7, ⟨Nat.le_refl _, Nat.zero_le _⟩, by simpa [tot] using hcap8⟩, (fun k hk => (List.mem_append.1 hk).elim (HKsA.out k) (fun h => (List.mem_append.1 h).elim (fun h => by rw [List.mem_singleton.1 h]; exact hkey) (HKsB.out k))), fun x hx => by cases hx⟩, hBe ▸ HBF.out⟩

    · have hbd9 := bs103_2 da a.kids.length dp dA b.kids.length dP wb1
      obtain ⟨gb9, hgb9⟩ : ∃ g, g = wb1.heap.size := ⟨_, rfl⟩
      obtain ⟨wb9, hwb9⟩ : ∃ w', w' = wb1.alloc (.cells #[.slice da a.kids.length dp, .slice dA b.kids.length dP] 24) := ⟨_, rfl⟩
      rw [← hgb9, ← hwb9] at hbd9
      have hx9_0 : wb9.cell? ⟨gb9, 0, none⟩ = some (.slice da a.kids.length dp) := by rw [hwb9, hgb9]; exact alloc_cell rfl
      have hx9_1 : wb9.cell? ⟨gb9, 1, none⟩ = some (.slice dA b.kids.length dP) := by rw [hwb9, hgb9]; exact alloc_cell rfl
      have hst9 : Below wb1.heap.size wb1 wb9 := by rw [hwb9]; exact below_box _ _
      have hSwb9 := hSwb1.later hst9
      have hBwb9 := hBwb1.trans (hst9.mono hBwb1.size)
      refine wpOp_run (o := ⟨some 41, .buildSlice 103 2 #[(0, .tmp 38), (1, .tmp 40)], _, _, _, none⟩) rfl rfl (exec_lay2 rfl rfl hbd9) ⟨hSwb9, ?_⟩
      simp only [Act.put, List.setIfInBounds_toArray, List.set_cons_zero, List.set_cons_succ]
      have hbd10 := bs99_3 ka a.keys.length kp (some ⟨gb1, 0, none⟩) 1 1 kA b.keys.length kP wb9
      obtain ⟨gb10, hgb10⟩ : ∃ g, g = wb9.heap.size := ⟨_, rfl⟩
      obtain ⟨wb10, hwb10⟩ : ∃ w', w' = wb9.alloc (.cells #[.slice ka a.keys.length kp, .slice (some ⟨gb1, 0, none⟩) 1 1, .slice kA b.keys.length kP] 22) := ⟨_, rfl⟩
      rw [← hgb10, ← hwb10] at hbd10
      have hx10_0 : wb10.cell? ⟨gb10, 0, none⟩ = some (.slice ka a.keys.length kp) := by rw [hwb10, hgb10]; exact alloc_cell rfl
      have hx10_1 : wb10.cell? ⟨gb10, 1, none⟩ = some (.slice (some ⟨gb1, 0, none⟩) 1 1) := by rw [hwb10, hgb10]; exact alloc_cell rfl
      have hx10_2 : wb10.cell? ⟨gb10, 2, none⟩ = some (.slice kA b.keys.length kP) := by rw [hwb10, hgb10]; exact alloc_cell rfl
      have hst10 : Below wb9.heap.size wb9 wb10 := by rw [hwb10]; exact below_box _ _
      have hSwb10 := hSwb9.later hst10
      have hBwb10 := hBwb9.trans (hst10.mono hBwb9.size)
      refine anyH_one 6 ⟨some 35, .buildSlice 99 3 #[(0, .tmp 30), (1, .tmp 32), (2, .tmp 34)], _, _, _, none⟩ (.slice (some ⟨gb10, 0, none⟩) 3 3) wb10 (by kernel_rfl) rfl rfl (exec_lay3 rfl rfl rfl hbd10) hSwb10 ?_
      simp only [Act.put, List.setIfInBounds_toArray, List.set_cons_zero, List.set_cons_succ]
      have hok11 : ∀ s ∈ ([⟨ka, a.keys.length, kp, kc a.keys⟩, ⟨some ⟨gb1, 0, none⟩, 1, 1, kc [key]⟩, ⟨kA, b.keys.length, kP, kc b.keys⟩] : List Seg), s.ok wb10 1 := by
        intro s hs
        simp only [List.mem_cons, List.not_mem_nil, or_false] at hs
        rcases hs with rfl | rfl | rfl
        · exact ⟨(At.later (At.later (At.later (At.later HKa.out HDr) hst1) hst9) hst10), by rw [kc_length]; simp, kc_oneCell _, cKa⟩
        · exact seg_key (cell_later hst10 (cell_later hst9 hx1_0))
        · exact ⟨(At.later (At.later (At.later (At.later HKb.out HDr) hst1) hst9) hst10), by rw [kc_length]; simp, kc_oneCell _, cKb⟩
      have hce11 : ∀ j (h : j < ([⟨ka, a.keys.length, kp, kc a.keys⟩, ⟨some ⟨gb1, 0, none⟩, 1, 1, kc [key]⟩, ⟨kA, b.keys.length, kP, kc b.keys⟩] : List Seg).length), wb10.cell? ⟨gb10, j, none⟩ = some ([⟨ka, a.keys.length, kp, kc a.keys⟩, ⟨some ⟨gb1, 0, none⟩, 1, 1, kc [key]⟩, ⟨kA, b.keys.length, kP, kc b.keys⟩] : List Seg)[j].v := by
        intro j h
        rcases j with _ | _ | _ | j
        · exact hx10_0
        · exact hx10_1
        · exact hx10_2
        · simp at h; try omega
      refine anyH_callW 7 ⟨some 36, .call { callee := .value (.func 48), args := #[.tmp 35], argTypes := #[99] }, _, _, _, none⟩ 48 _ (by kernel_rfl) rfl rfl (exec_call48 rfl) ?_
      refine (concatk_any gb10 3 3 _ rfl (by omega) ⟨by omega, by omega⟩ hce11 hok11 (by simp only [tot]; omega)).mono ?_
      rintro e wc11 ⟨r11, q11, rfl, hat11, hcap11, hst11⟩
      have hSwc11 := hSwb10.later hst11
      have hBwc11 := hBwb10.trans (hst11.mono hBwb10.size)
      refine ⟨_, rfl, hSwc11, ?_⟩
      simp only [Act.put, List.setIfInBounds_toArray, List.set_cons_zero, List.set_cons_succ]
      have hok12 : ∀ s ∈ ([⟨da, a.kids.length, dp, dc a.kids⟩, ⟨dA, b.kids.length, dP, dc b.kids⟩] : List Seg), s.ok wc11 1 := by
        intro s hs
        simp only [List.mem_cons, List.not_mem_nil, or_false] at hs
        rcases hs with rfl | rfl
        · exact ⟨(At.later (At.later (At.later (At.later (At.later HDa.out HDr) hst1) hst9) hst10) hst11), by rw [dc_length]; simp, dc_oneCell _, cDa⟩
        · exact ⟨(At.later (At.later (At.later (At.later (At.later HDb.out HDr) hst1) hst9) hst10) hst11), by rw [dc_length]; simp, dc_oneCell _, cDb⟩
      have hce12 : ∀ j (h : j < ([⟨da, a.kids.length, dp, dc a.kids⟩, ⟨dA, b.kids.length, dP, dc b.kids⟩] : List Seg).length), wc11.cell? ⟨gb9, j, none⟩ = some ([⟨da, a.kids.length, dp, dc a.kids⟩, ⟨dA, b.kids.length, dP, dc b.kids⟩] : List Seg)[j].v := by
        intro j h
        rcases j with _ | _ | j
        · exact (cell_later hst11 (cell_later hst10 hx9_0))
        · exact (cell_later hst11 (cell_later hst10 hx9_1))
        · simp at h; try omega
      refine anyH_callW 13 ⟨some 42, .call { callee := .value (.func 50), args := #[.tmp 41], argTypes := #[103] }, _, _, _, none⟩ 50 _ (by kernel_rfl) rfl rfl (exec_call50 rfl) ?_
      refine (concatd_any gb9 2 2 _ rfl (by omega) ⟨by omega, by omega⟩ hce12 hok12 (by simp only [tot]; omega)).mono ?_
      rintro e wc12 ⟨r12, q12, rfl, hat12, hcap12, hst12⟩
      have hSwc12 := hSwc11.later hst12
      have hBwc12 := hBwc11.trans (hst12.mono hBwc11.size)
      refine ⟨_, rfl, hSwc12, ?_⟩
      simp only [Act.put, List.setIfInBounds_toArray, List.set_cons_zero, List.set_cons_succ]
      refine anyH_one 14 ⟨some 43, .build 26 #[(1, .tmp 36), (3, .tmp 42)], _, _, _, none⟩ (.agg #[.bool false, .slice r11 (tot [⟨ka, a.keys.length, kp, kc a.keys⟩, ⟨some ⟨gb1, 0, none⟩, 1, 1, kc [key]⟩, ⟨kA, b.keys.length, kP, kc b.keys⟩]) q11, .slice none 0 0, .slice r12 (tot [⟨da, a.kids.length, dp, dc a.kids⟩, ⟨dA, b.kids.length, dP, dc b.kids⟩]) q12]) wc12 (by kernel_rfl) rfl rfl (exec_build26b rfl rfl (build26b _ _ _ _ _ _ _)) hSwc12 ?_
      simp only [Act.put, List.setIfInBounds_toArray, List.set_cons_zero, List.set_cons_succ]
      have hR' : wc12.heap[b2]? = some (.cells #[.bool false, .slice none 0 0, .slice none 0 0, .slice none 0 0] 26 (0, 0)) := (hBwc12.block b2 hb2lt).trans HR.out
      refine anyH_oneSkip 15 ⟨none, .store 26 (.tmp 6) (.tmp 43), _, _, _, none⟩ (wc12.setRow b2 #[.bool false, .slice r11 (tot [⟨ka, a.keys.length, kp, kc a.keys⟩, ⟨some ⟨gb1, 0, none⟩, 1, 1, kc [key]⟩, ⟨kA, b.keys.length, kP, kc b.keys⟩]) q11, .slice none 0 0, .slice r12 (tot [⟨da, a.kids.length, dp, dc a.kids⟩, ⟨dA, b.kids.length, dP, dc b.kids⟩]) q12]) (by kernel_rfl) rfl rfl (exec_store26 rfl rfl hR') ⟨(setRow_other _ _ _ _ h02).trans hSwc12.1, (setRow_other _ _ _ _ h12).trans hSwc12.2⟩ ?_
      simp only [Act.put, List.setIfInBounds_toArray, List.set_cons_zero, List.set_cons_succ]
      refine wpAnyH_done (by kernel_rfl) ?_ _
      have HA1 := hid ((At.setRow (At.later hat11 hst12) (by simp only [flat]; intro v hv; simp only [List.mem_append, List.not_mem_nil, or_false] at hv; rcases hv with h | h | h <;> exact kc_plain _ _ h) hR' #[.bool false, .slice r11 (tot [⟨ka, a.keys.length, kp, kc a.keys⟩, ⟨some ⟨gb1, 0, none⟩, 1, 1, kc [key]⟩, ⟨kA, b.keys.length, kP, kc b.keys⟩]) q11, .slice none 0 0, .slice r12 (tot [⟨da, a.kids.length, dp, dc a.kids⟩, ⟨dA, b.kids.length, dP, dc b.kids⟩]) q12]))
      have HA2 := hid ((At.setRow hat12 (by simp only [flat]; intro v hv; simp only [List.mem_append, List.not_mem_nil, or_false] at hv; rcases hv with h | h <;> exact dc_plain _ _ h) hR' #[.bool false, .slice r11 (tot [⟨ka, a.keys.length, kp, kc a.keys⟩, ⟨some ⟨gb1, 0, none⟩, 1, 1, kc [key]⟩, ⟨kA, b.keys.length, kP, kc b.keys⟩]) q11, .slice none 0 0, .slice r12 (tot [⟨da, a.kids.length, dp, dc a.kids⟩, ⟨dA, b.kids.length, dP, dc b.kids⟩]) q12]))
      have HBF := hid ((HBW.out.trans (hBwc12.mono hBW)).trans (below_setRow (w := wc12) hb2B #[.bool false, .slice r11 (tot [⟨ka, a.keys.length, kp, kc a.keys⟩, ⟨some ⟨gb1, 0, none⟩, 1, 1, kc [key]⟩, ⟨kA, b.keys.length, kP, kc b.keys⟩]) q11, .slice none 0 0, .slice r12 (tot [⟨da, a.kids.length, dp, dc a.kids⟩, ⟨dA, b.kids.length, dP, dc b.kids⟩]) q12]))
      have HRF := hid (setRow_heap wc12 b2 _ #[.bool false, .slice r11 (tot [⟨ka, a.keys.length, kp, kc a.keys⟩, ⟨some ⟨gb1, 0, none⟩, 1, 1, kc [key]⟩, ⟨kA, b.keys.length, kP, kc b.keys⟩]) q11, .slice none 0 0, .slice r12 (tot [⟨da, a.kids.length, dp, dc a.kids⟩, ⟨dA, b.kids.length, dP, dc b.kids⟩]) q12] 26 _ hR')
      generalize wc12.setRow b2 #[.bool false, .slice r11 (tot [⟨ka, a.keys.length, kp, kc a.keys⟩, ⟨some ⟨gb1, 0, none⟩, 1, 1, kc [key]⟩, ⟨kA, b.keys.length, kP, kc b.keys⟩]) q11, .slice none 0 0, .slice r12 (tot [⟨da, a.kids.length, dp, dc a.kids⟩, ⟨dA, b.kids.length, dP, dc b.kids⟩]) q12] = WF at HA1 HA2 HBF HRF ⊢
      go_wp2_with fail
      refine bodyPost_ret (results_cell26 rfl rfl HRF.out) rfl ?_
      exact ⟨_, rfl, ⟨⟨r11, q11, none, 0, r12, q12, by simp [nv, tot, Nat.add_comm], by have h := HA1.out; simp only [flat, List.append_nil] at h; show At WF _ (kc (a.keys ++ ([key] ++ b.keys))); rw [kc_app, kc_app]; exact h, .inl rfl, by have h := HA2.out; simp only [flat, List.append_nil] at h; show At WF _ (dc (a.kids ++ b.kids)); rw [dc_app]; exact h, by simpa [tot, Nat.add_comm] using hcap11, ⟨Nat.le_refl _, Nat.zero_le _⟩, by simpa [tot] using hcap12⟩, (fun k hk => (List.mem_append.1 hk).elim (HKsA.out k) (fun h => (List.mem_append.1 h).elim (fun h => by rw [List.mem_singleton.1 h]; exact hkey) (HKsB.out k))), fun x hx => by cases hx⟩, hBe ▸ HBF.out⟩

  · have hbd13 := bs103_2 da a.kids.length dp dA b.kids.length dP W.drew
    obtain ⟨gb13, hgb13⟩ : ∃ g, g = W.drew.heap.size := ⟨_, rfl⟩
    obtain ⟨wb13, hwb13⟩ : ∃ w', w' = W.drew.alloc (.cells #[.slice da a.kids.length dp, .slice dA b.kids.length dP] 24) := ⟨_, rfl⟩
    rw [← hgb13, ← hwb13] at hbd13
    have hx13_0 : wb13.cell? ⟨gb13, 0, none⟩ = some (.slice da a.kids.length dp) := by rw [hwb13, hgb13]; exact alloc_cell rfl
    have hx13_1 : wb13.cell? ⟨gb13, 1, none⟩ = some (.slice dA b.kids.length dP) := by rw [hwb13, hgb13]; exact alloc_cell rfl
    have hst13 : Below W.drew.heap.size W.drew wb13 := by rw [hwb13]; exact below_box _ _
    have hSwb13 := HS0.later hst13
    have hBwb13 := HB0d.trans (hst13.mono HB0d.size)
    refine wpOp_run (o := ⟨some 41, .buildSlice 103 2 #[(0, .tmp 38), (1, .tmp 40)], _, _, _, none⟩) rfl rfl (exec_lay2 rfl rfl hbd13) ⟨hSwb13, ?_⟩
    simp only [Act.put, List.setIfInBounds_toArray, List.set_cons_zero, List.set_cons_succ]
    have hbd14 := bs22_1 key wb13
    obtain ⟨gb14, hgb14⟩ : ∃ g, g = wb13.heap.size := ⟨_, rfl⟩
    obtain ⟨wb14, hwb14⟩ : ∃ w', w' = wb13.alloc (.cells #[.string key] 9) := ⟨_, rfl⟩
    rw [← hgb14, ← hwb14] at hbd14
    have hx14_0 : wb14.cell? ⟨gb14, 0, none⟩ = some (.string key) := by rw [hwb14, hgb14]; exact alloc_cell rfl
    have hst14 : Below wb13.heap.size wb13 wb14 := by rw [hwb14]; exact below_box _ _
    have hSwb14 := hSwb13.later hst14
    have hBwb14 := hBwb13.trans (hst14.mono hBwb13.size)
    refine anyH_one 3 ⟨some 32, .buildSlice 22 1 #[(0, .tmp 31)], _, _, _, none⟩ (.slice (some ⟨gb14, 0, none⟩) 1 1) wb14 (by kernel_rfl) rfl rfl (exec_lay1 rfl hbd14) hSwb14 ?_
    simp only [Act.put, List.setIfInBounds_toArray, List.set_cons_zero, List.set_cons_succ]
    have hbd15 := bs99_3 ka a.keys.length kp (some ⟨gb14, 0, none⟩) 1 1 kA b.keys.length kP wb14
    obtain ⟨gb15, hgb15⟩ : ∃ g, g = wb14.heap.size := ⟨_, rfl⟩
    obtain ⟨wb15, hwb15⟩ : ∃ w', w' = wb14.alloc (.cells #[.slice ka a.keys.length kp, .slice (some ⟨gb14, 0, none⟩) 1 1, .slice kA b.keys.length kP] 22) := ⟨_, rfl⟩
    rw [← hgb15, ← hwb15] at hbd15
    have hx15_0 : wb15.cell? ⟨gb15, 0, none⟩ = some (.slice ka a.keys.length kp) := by rw [hwb15, hgb15]; exact alloc_cell rfl
    have hx15_1 : wb15.cell? ⟨gb15, 1, none⟩ = some (.slice (some ⟨gb14, 0, none⟩) 1 1) := by rw [hwb15, hgb15]; exact alloc_cell rfl
    have hx15_2 : wb15.cell? ⟨gb15, 2, none⟩ = some (.slice kA b.keys.length kP) := by rw [hwb15, hgb15]; exact alloc_cell rfl
    have hst15 : Below wb14.heap.size wb14 wb15 := by rw [hwb15]; exact below_box _ _
    have hSwb15 := hSwb14.later hst15
    have hBwb15 := hBwb14.trans (hst15.mono hBwb14.size)
    refine anyH_one 6 ⟨some 35, .buildSlice 99 3 #[(0, .tmp 30), (1, .tmp 32), (2, .tmp 34)], _, _, _, none⟩ (.slice (some ⟨gb15, 0, none⟩) 3 3) wb15 (by kernel_rfl) rfl rfl (exec_lay3 rfl rfl rfl hbd15) hSwb15 ?_
    simp only [Act.put, List.setIfInBounds_toArray, List.set_cons_zero, List.set_cons_succ]
    have hok16 : ∀ s ∈ ([⟨ka, a.keys.length, kp, kc a.keys⟩, ⟨some ⟨gb14, 0, none⟩, 1, 1, kc [key]⟩, ⟨kA, b.keys.length, kP, kc b.keys⟩] : List Seg), s.ok wb15 1 := by
      intro s hs
      simp only [List.mem_cons, List.not_mem_nil, or_false] at hs
      rcases hs with rfl | rfl | rfl
      · exact ⟨(At.later (At.later (At.later (At.later HKa.out HDr) hst13) hst14) hst15), by rw [kc_length]; simp, kc_oneCell _, cKa⟩
      · exact seg_key (cell_later hst15 hx14_0)
      · exact ⟨(At.later (At.later (At.later (At.later HKb.out HDr) hst13) hst14) hst15), by rw [kc_length]; simp, kc_oneCell _, cKb⟩
    have hce16 : ∀ j (h : j < ([⟨ka, a.keys.length, kp, kc a.keys⟩, ⟨some ⟨gb14, 0, none⟩, 1, 1, kc [key]⟩, ⟨kA, b.keys.length, kP, kc b.keys⟩] : List Seg).length), wb15.cell? ⟨gb15, j, none⟩ = some ([⟨ka, a.keys.length, kp, kc a.keys⟩, ⟨some ⟨gb14, 0, none⟩, 1, 1, kc [key]⟩, ⟨kA, b.keys.length, kP, kc b.keys⟩] : List Seg)[j].v := by
      intro j h
      rcases j with _ | _ | _ | j
      · exact hx15_0
      · exact hx15_1
      · exact hx15_2
      · simp at h; try omega
    refine anyH_callW 7 ⟨some 36, .call { callee := .value (.func 48), args := #[.tmp 35], argTypes := #[99] }, _, _, _, none⟩ 48 _ (by kernel_rfl) rfl rfl (exec_call48 rfl) ?_
    refine (concatk_any gb15 3 3 _ rfl (by omega) ⟨by omega, by omega⟩ hce16 hok16 (by simp only [tot]; omega)).mono ?_
    rintro e wc16 ⟨r16, q16, rfl, hat16, hcap16, hst16⟩
    have hSwc16 := hSwb15.later hst16
    have hBwc16 := hBwb15.trans (hst16.mono hBwb15.size)
    refine ⟨_, rfl, hSwc16, ?_⟩
    simp only [Act.put, List.setIfInBounds_toArray, List.set_cons_zero, List.set_cons_succ]
    have hok17 : ∀ s ∈ ([⟨da, a.kids.length, dp, dc a.kids⟩, ⟨dA, b.kids.length, dP, dc b.kids⟩] : List Seg), s.ok wc16 1 := by
      intro s hs
      simp only [List.mem_cons, List.not_mem_nil, or_false] at hs
      rcases hs with rfl | rfl
      · exact ⟨(At.later (At.later (At.later (At.later (At.later HDa.out HDr) hst13) hst14) hst15) hst16), by rw [dc_length]; simp, dc_oneCell _, cDa⟩
      · exact ⟨(At.later (At.later (At.later (At.later (At.later HDb.out HDr) hst13) hst14) hst15) hst16), by rw [dc_length]; simp, dc_oneCell _, cDb⟩
    have hce17 : ∀ j (h : j < ([⟨da, a.kids.length, dp, dc a.kids⟩, ⟨dA, b.kids.length, dP, dc b.kids⟩] : List Seg).length), wc16.cell? ⟨gb13, j, none⟩ = some ([⟨da, a.kids.length, dp, dc a.kids⟩, ⟨dA, b.kids.length, dP, dc b.kids⟩] : List Seg)[j].v := by
      intro j h
      rcases j with _ | _ | j
      · exact (cell_later hst16 (cell_later hst15 (cell_later hst14 hx13_0)))
      · exact (cell_later hst16 (cell_later hst15 (cell_later hst14 hx13_1)))
      · simp at h; try omega
    refine anyH_callW 13 ⟨some 42, .call { callee := .value (.func 50), args := #[.tmp 41], argTypes := #[103] }, _, _, _, none⟩ 50 _ (by kernel_rfl) rfl rfl (exec_call50 rfl) ?_
    refine (concatd_any gb13 2 2 _ rfl (by omega) ⟨by omega, by omega⟩ hce17 hok17 (by simp only [tot]; omega)).mono ?_
    rintro e wc17 ⟨r17, q17, rfl, hat17, hcap17, hst17⟩
    have hSwc17 := hSwc16.later hst17
    have hBwc17 := hBwc16.trans (hst17.mono hBwc16.size)
    refine ⟨_, rfl, hSwc17, ?_⟩
    simp only [Act.put, List.setIfInBounds_toArray, List.set_cons_zero, List.set_cons_succ]
    refine anyH_one 14 ⟨some 43, .build 26 #[(1, .tmp 36), (3, .tmp 42)], _, _, _, none⟩ (.agg #[.bool false, .slice r16 (tot [⟨ka, a.keys.length, kp, kc a.keys⟩, ⟨some ⟨gb14, 0, none⟩, 1, 1, kc [key]⟩, ⟨kA, b.keys.length, kP, kc b.keys⟩]) q16, .slice none 0 0, .slice r17 (tot [⟨da, a.kids.length, dp, dc a.kids⟩, ⟨dA, b.kids.length, dP, dc b.kids⟩]) q17]) wc17 (by kernel_rfl) rfl rfl (exec_build26b rfl rfl (build26b _ _ _ _ _ _ _)) hSwc17 ?_
    simp only [Act.put, List.setIfInBounds_toArray, List.set_cons_zero, List.set_cons_succ]
    have hR' : wc17.heap[b2]? = some (.cells #[.bool false, .slice none 0 0, .slice none 0 0, .slice none 0 0] 26 (0, 0)) := (hBwc17.block b2 hb2lt).trans HR.out
    refine anyH_oneSkip 15 ⟨none, .store 26 (.tmp 6) (.tmp 43), _, _, _, none⟩ (wc17.setRow b2 #[.bool false, .slice r16 (tot [⟨ka, a.keys.length, kp, kc a.keys⟩, ⟨some ⟨gb14, 0, none⟩, 1, 1, kc [key]⟩, ⟨kA, b.keys.length, kP, kc b.keys⟩]) q16, .slice none 0 0, .slice r17 (tot [⟨da, a.kids.length, dp, dc a.kids⟩, ⟨dA, b.kids.length, dP, dc b.kids⟩]) q17]) (by kernel_rfl) rfl rfl (exec_store26 rfl rfl hR') ⟨(setRow_other _ _ _ _ h02).trans hSwc17.1, (setRow_other _ _ _ _ h12).trans hSwc17.2⟩ ?_
    simp only [Act.put, List.setIfInBounds_toArray, List.set_cons_zero, List.set_cons_succ]
    refine wpAnyH_done (by kernel_rfl) ?_ _
    have HA1 := hid ((At.setRow (At.later hat16 hst17) (by simp only [flat]; intro v hv; simp only [List.mem_append, List.not_mem_nil, or_false] at hv; rcases hv with h | h | h <;> exact kc_plain _ _ h) hR' #[.bool false, .slice r16 (tot [⟨ka, a.keys.length, kp, kc a.keys⟩, ⟨some ⟨gb14, 0, none⟩, 1, 1, kc [key]⟩, ⟨kA, b.keys.length, kP, kc b.keys⟩]) q16, .slice none 0 0, .slice r17 (tot [⟨da, a.kids.length, dp, dc a.kids⟩, ⟨dA, b.kids.length, dP, dc b.kids⟩]) q17]))
    have HA2 := hid ((At.setRow hat17 (by simp only [flat]; intro v hv; simp only [List.mem_append, List.not_mem_nil, or_false] at hv; rcases hv with h | h <;> exact dc_plain _ _ h) hR' #[.bool false, .slice r16 (tot [⟨ka, a.keys.length, kp, kc a.keys⟩, ⟨some ⟨gb14, 0, none⟩, 1, 1, kc [key]⟩, ⟨kA, b.keys.length, kP, kc b.keys⟩]) q16, .slice none 0 0, .slice r17 (tot [⟨da, a.kids.length, dp, dc a.kids⟩, ⟨dA, b.kids.length, dP, dc b.kids⟩]) q17]))
    have HBF := hid ((HBW.out.trans (hBwc17.mono hBW)).trans (below_setRow (w := wc17) hb2B #[.bool false, .slice r16 (tot [⟨ka, a.keys.length, kp, kc a.keys⟩, ⟨some ⟨gb14, 0, none⟩, 1, 1, kc [key]⟩, ⟨kA, b.keys.length, kP, kc b.keys⟩]) q16, .slice none 0 0, .slice r17 (tot [⟨da, a.kids.length, dp, dc a.kids⟩, ⟨dA, b.kids.length, dP, dc b.kids⟩]) q17]))
    have HRF := hid (setRow_heap wc17 b2 _ #[.bool false, .slice r16 (tot [⟨ka, a.keys.length, kp, kc a.keys⟩, ⟨some ⟨gb14, 0, none⟩, 1, 1, kc [key]⟩, ⟨kA, b.keys.length, kP, kc b.keys⟩]) q16, .slice none 0 0, .slice r17 (tot [⟨da, a.kids.length, dp, dc a.kids⟩, ⟨dA, b.kids.length, dP, dc b.kids⟩]) q17] 26 _ hR')
    generalize wc17.setRow b2 #[.bool false, .slice r16 (tot [⟨ka, a.keys.length, kp, kc a.keys⟩, ⟨some ⟨gb14, 0, none⟩, 1, 1, kc [key]⟩, ⟨kA, b.keys.length, kP, kc b.keys⟩]) q16, .slice none 0 0, .slice r17 (tot [⟨da, a.kids.length, dp, dc a.kids⟩, ⟨dA, b.kids.length, dP, dc b.kids⟩]) q17] = WF at HA1 HA2 HBF HRF ⊢
    go_wp2_with fail
    refine bodyPost_ret (results_cell26 rfl rfl HRF.out) rfl ?_
    exact ⟨_, rfl, ⟨⟨r16, q16, none, 0, r17, q17, by simp [nv, tot, Nat.add_comm], by have h := HA1.out; simp only [flat, List.append_nil] at h; show At WF _ (kc (a.keys ++ ([key] ++ b.keys))); rw [kc_app, kc_app]; exact h, .inl rfl, by have h := HA2.out; simp only [flat, List.append_nil] at h; show At WF _ (dc (a.kids ++ b.kids)); rw [dc_app]; exact h, by simpa [tot, Nat.add_comm] using hcap16, ⟨Nat.le_refl _, Nat.zero_le _⟩, by simpa [tot] using hcap17⟩, (fun k hk => (List.mem_append.1 hk).elim (HKsA.out k) (fun h => (List.mem_append.1 h).elim (fun h => by rw [List.mem_singleton.1 h]; exact hkey) (HKsB.out k))), fun x hx => by cases hx⟩, hBe ▸ HBF.out⟩

end Go.Proofs.Ytkipigbfbhecjaa
