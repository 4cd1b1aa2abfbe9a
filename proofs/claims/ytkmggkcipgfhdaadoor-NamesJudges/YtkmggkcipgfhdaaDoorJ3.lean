/- What this text holds: a name's parts: the document's loop. -/
import Derived.Test.YtkmggkcipgfhdaaDoorJ2
namespace Go.Proofs.YtkmggkcipgfhdaaDoor
open Go.RowKit
set_option linter.unusedVariables false
set_option linter.unusedSimpArgs false

theorem last_at {L : List (List UInt8)} {n : Nat} (hn : L.length = n) (h : 1 ≤ n) (hk : n - 1 < L.length) (x : List UInt8) : L.set (n - 1) x = L.dropLast ++ [x] ∧ L[n - 1] = L.getLastD [] := by
  subst hn
  constructor
  · rw [List.set_eq_take_append_cons_drop, if_pos hk, List.dropLast_eq_take, List.drop_eq_nil_of_le (by omega)]
  · rw [List.getLastD_eq_getLast?, List.getLast?_eq_getElem?, List.getElem?_eq_getElem hk]
    rfl
theorem so_one (w : World) : SO (w.alloc (.cells #[.string ⟨#[]⟩] 9)) w.heap.size (.slice (some ⟨w.heap.size, 0, none⟩) 1 1) [[]] :=
  ⟨rfl, .inr ⟨w.heap.size, 1, #[.string ⟨#[]⟩], rfl, Nat.le_refl _, heap_alloc_new _ _, Nat.le_refl _, by unfold maxLen; omega, rfl, rfl⟩⟩
theorem SO.some {w : World} {B : Nat} {v : Value} {l : List (List UInt8)} (h : SO w B v l) (hne : l ≠ []) : ∃ g n c, v = .slice (some ⟨g, 0, none⟩) n c ∧ l.length = n := by
  rcases h.2 with ⟨_, h0⟩ | ⟨g, cap, cur, e, _⟩
  · exact absurd (List.eq_nil_of_length_eq_zero h0) hne
  · exact ⟨g, _, cap, e, rfl⟩
theorem last_le (l : List UInt8) : ((parts l).getLastD []).length ≤ l.length := by
  induction l with
  | nil => simp [parts]
  | cons b l ih =>
    by_cases hb : b = 47
    · subst hb
      obtain ⟨p, ps, hp⟩ := parts_some l
      rw [parts_slash, hp]
      rw [hp] at ih
      simp only [List.getLastD_cons, List.length_cons] at ih ⊢
      omega
    · obtain ⟨p, ps, hp⟩ := parts_some l
      rw [parts_cons hb hp]
      rw [hp] at ih
      cases ps with
      | nil => simp at ih ⊢; omega
      | cons q qs =>
        simp only [List.getLastD_cons, List.length_cons] at ih ⊢
        omega

set_option maxRecDepth 100000 in
set_option maxHeartbeats 2000000 in
theorem rparts_fn (s : ByteArray) (w : World) (hs : s.size ≤ 100000) :
    Calls Tryd.prog 24 #[.string s] w fun e w' => (∃ v, e = .returned v ∧ SO w' w.heap.size v (parts s.data.toList)) ∧ Below w.heap.size w w' := by
  go_enter Tryd.func24, Tryd.ntmps24
  go_wp2_with fail
  go_loopw [3, 4] (fun v i wr => ∃ k : Nat, k ≤ s.size ∧ i = .int .i64 k ∧ SO wr w.heap.size v (parts (s.data.toList.take k)) ∧ Below w.heap.size w wr) (fun _ i _ => s.size - (intOf i).toNat)
  case atStart => exact ⟨0, by omega, rfl, so_one w, (Below.refl _ _).alloc (Nat.le_refl _) _⟩
  case round =>
    obtain ⟨k, hk, rfl, ho, hb⟩ := hrel
    obtain ⟨g, n, c, rfl, hn⟩ := ho.some (parts_ne _)
    have HO := hid ho
    have HB := hid hb
    have HN := hid hn
    have hplen := parts_len (s.data.toList.take k)
    have hcount := List.count_le_length (a := (47 : UInt8)) (l := s.data.toList.take k)
    rw [List.length_take] at hcount
    have hn1' : 1 ≤ n := by rw [← hn, hplen]; omega
    have hnb : n ≤ 100002 := by rw [← hn, hplen]; omega
    clear ho hb hn hplen hcount
    by_cases hlt : k < s.size
    · have hlt' : (k : Int) < s.size := by omega
      have HT : Hid (s.data.toList.take (k + 1) = s.data.toList.take k ++ [s[k]]) := by
        rw [Hid, List.take_succ_eq_append_getElem (by rw [← Go.Lib.size_eq]; exact hlt)]
        rfl
      by_cases hc : s[k] = 47
      · have hq : ((s[k].toNat : Int) == 47) = true := by rw [hc]; rfl
        have HP : Hid (parts (s.data.toList.take (k + 1)) = parts (s.data.toList.take k) ++ [[]]) := by
          rw [Hid, HT.out, hc, parts_two]
          rfl
        obtain ⟨v', w2, hrun, ho2, hb2⟩ := so_more (w := wr.alloc (.cells #[.string (str [])] 9)) (HO.out.later ((Below.refl _ _).alloc (Nat.le_refl _) _)) (by have := HB.out.size; simp; omega) (sl_one wr []) (by rw [HN.out]; omega) (by simp) (by simp)
        rw [show str [] = (⟨#[]⟩ : ByteArray) from rfl] at hrun
        have HRun := hid hrun
        have HO2 := hid ho2
        have HB2 := hid ((HB.out.alloc HB.out.size _).trans hb2)
        obtain ⟨g2, n2, c2, rfl, hn2⟩ := ho2.some (by simp)
        clear hrun ho2 hb2 hn2 hc
        go_wp2_with (at_builtin; refine wpList_append_run rfl rfl HRun.out ?_)
        go_roundw
        case rel => exact ⟨k + 1, by omega, by go_num, by rw [HP.out]; exact HO2.out, HB2.out⟩
        case measure => simp [intOf]; omega
      · have hq : ((s[k].toNat : Int) == 47) = false := by
          rw [beq_eq_false_iff_ne]
          exact fun e => hc (UInt8.toNat_inj.1 (by show s[k].toNat = 47; omega))
        have HP : Hid (parts (s.data.toList.take (k + 1)) = (parts (s.data.toList.take k)).dropLast ++ [(parts (s.data.toList.take k)).getLastD [] ++ [s[k]]]) := by
          rw [Hid, HT.out, parts_snoc _ _ hc]
        have hkl : n - 1 < (parts (s.data.toList.take k)).length := by rw [HN.out]; omega
        obtain ⟨hcell, hfro, hset, hBg⟩ := so_set HO.out HN.out (n - 1) hkl ((parts (s.data.toList.take k)).getLastD [] ++ [s[k]])
        obtain ⟨l1, l2⟩ := last_at HN.out hn1' hkl ((parts (s.data.toList.take k)).getLastD [] ++ [s[k]])
        rw [l1, ← HP.out] at hset
        rw [l2] at hcell
        have hll := last_le (s.data.toList.take k)
        rw [List.length_take] at hll
        have HSe : Hid (str ((parts (s.data.toList.take k)).getLastD []) ++ s.extract k (k + 1) = str ((parts (s.data.toList.take k)).getLastD [] ++ [s[k]])) := by
          rw [Hid, Go.Lib.extract_eq, app_str, str_data, show k + 1 - k = 1 by omega, List.drop_eq_getElem_cons (by rw [← Go.Lib.size_eq]; exact hlt)]
          rfl
        have hsum : (str ((parts (s.data.toList.take k)).getLastD [])).size + (s.extract k (k + 1)).size ≤ 1000000 := by
          rw [str_size, Go.Lib.extract_eq]
          show _ + (str _).size ≤ _
          rw [str_size, List.length_take]
          omega
        have hn1 : n - 1 < n := by omega
        have wsub : IntKind.i64.wrap ((n : Int) - 1) = ((n - 1 : Nat) : Int) := by rw [IntKind.wrap_i64]; omega
        have wadd : IntKind.i64.wrap ((k : Int) + 1) = ((k + 1 : Nat) : Int) := by rw [IntKind.wrap_i64]; omega
        have HSet : Hid (SO (wr.drew.setCell ⟨g, n - 1, none⟩ (.string (str ((parts (s.data.toList.take k)).getLastD [] ++ [s[k]])))) w.heap.size (.slice (some ⟨g, 0, none⟩) n c) (parts (s.data.toList.take (k + 1)))) := hset
        have HBs : Hid (Below w.heap.size w (wr.drew.setCell ⟨g, n - 1, none⟩ (.string (str ((parts (s.data.toList.take k)).getLastD [] ++ [s[k]]))))) := HB.out.drew.setCell hBg _
        have hcell2 : wr.drew.cell? ⟨g, n - 1, none⟩ = some (.string (str ((parts (s.data.toList.take k)).getLastD []))) := hcell
        have hfro2 : wr.drew.frozen? ⟨g, n - 1, none⟩ = false := hfro
        clear hset l1 l2 hc hll hcell hfro
        have hcell := hcell2
        have hfro := hfro2
        clear hcell2 hfro2
        generalize (parts (s.data.toList.take k)).getLastD [] = last at *
        rw [← HSe.out] at HSet HBs
        have HCell := hid hcell
        have HFro := hid hfro
        clear hcell hfro
        go_wp2_with fail
        have hcell := HCell.out
        have hfro := HFro.out
        refine wp_region_held_drew (S := fun w' => True) (by kernel_rfl) trivial ?_
        intro hS
        refine anyH_take 0 ⟨some 19, .move (.tmp 3), _, _, _, none⟩ (.slice (some ⟨g, 0, none⟩) n c) rfl rfl (by kernel_rfl) (by kernel_rfl) (by kernel_rfl) (fun _ _ _ h => h) (fun w hw => rfl) hS ?_
        simp only [Act.put, List.setIfInBounds_toArray, List.set_cons_zero, List.set_cons_succ]
        refine anyH_take 1 ⟨some 20, .move (.tmp 3), _, _, _, none⟩ (.slice (some ⟨g, 0, none⟩) n c) rfl rfl (by kernel_rfl) (by kernel_rfl) (by kernel_rfl) (fun _ _ _ h => h) (fun w hw => rfl) hS ?_
        simp only [Act.put, List.setIfInBounds_toArray, List.set_cons_zero, List.set_cons_succ]
        refine anyH_take 2 ⟨some 21, .call { callee := .builtin .len, args := #[.tmp 20], argTypes := #[32] }, _, _, _, none⟩ (.int .i64 n) rfl rfl (by kernel_rfl) (by kernel_rfl) (by kernel_rfl) (fun _ _ _ h => h) (fun w hw => exec_len32 rfl) hS ?_
        simp only [Act.put, List.setIfInBounds_toArray, List.set_cons_zero, List.set_cons_succ]
        refine anyH_take 3 ⟨some 22, .binOp .sub 3 (.tmp 21) (.const (.int .i64 1)) 3, _, _, _, none⟩ (.int .i64 ((n - 1 : Nat) : Int)) rfl rfl (by kernel_rfl) (by kernel_rfl) (by kernel_rfl) (fun _ _ _ h => h) (fun w hw => exec_sub3 rfl rfl wsub) hS ?_
        simp only [Act.put, List.setIfInBounds_toArray, List.set_cons_zero, List.set_cons_succ]
        refine anyH_take 4 ⟨some 23, .move (.tmp 3), _, _, _, none⟩ (.slice (some ⟨g, 0, none⟩) n c) rfl rfl (by kernel_rfl) (by kernel_rfl) (by kernel_rfl) (fun _ _ _ h => h) (fun w hw => rfl) hS ?_
        simp only [Act.put, List.setIfInBounds_toArray, List.set_cons_zero, List.set_cons_succ]
        refine anyH_take 5 ⟨some 24, .move (.tmp 3), _, _, _, none⟩ (.slice (some ⟨g, 0, none⟩) n c) rfl rfl (by kernel_rfl) (by kernel_rfl) (by kernel_rfl) (fun _ _ _ h => h) (fun w hw => rfl) hS ?_
        simp only [Act.put, List.setIfInBounds_toArray, List.set_cons_zero, List.set_cons_succ]
        refine anyH_take 6 ⟨some 25, .call { callee := .builtin .len, args := #[.tmp 24], argTypes := #[32] }, _, _, _, none⟩ (.int .i64 n) rfl rfl (by kernel_rfl) (by kernel_rfl) (by kernel_rfl) (fun _ _ _ h => h) (fun w hw => exec_len32 rfl) hS ?_
        simp only [Act.put, List.setIfInBounds_toArray, List.set_cons_zero, List.set_cons_succ]
        refine anyH_take 7 ⟨some 26, .binOp .sub 3 (.tmp 25) (.const (.int .i64 1)) 3, _, _, _, none⟩ (.int .i64 ((n - 1 : Nat) : Int)) rfl rfl (by kernel_rfl) (by kernel_rfl) (by kernel_rfl) (fun _ _ _ h => h) (fun w hw => exec_sub3 rfl rfl wsub) hS ?_
        simp only [Act.put, List.setIfInBounds_toArray, List.set_cons_zero, List.set_cons_succ]
        refine anyH_take 8 ⟨some 27, .indexAddr 32 (.tmp 23) (.tmp 26), _, _, _, none⟩ (.pointer (some ⟨g, n - 1, none⟩)) rfl rfl (by kernel_rfl) (by kernel_rfl) (by kernel_rfl) (fun _ _ _ h => h) (fun w hw => exec_v (index32 g n c (n - 1) w hn1)) hS ?_
        simp only [Act.put, List.setIfInBounds_toArray, List.set_cons_zero, List.set_cons_succ]
        refine anyH_take 10 ⟨some 29, .move (.tmp 0), _, _, _, none⟩ (.string s) rfl rfl (by kernel_rfl) (by kernel_rfl) (by kernel_rfl) (fun _ _ _ h => h) (fun w hw => rfl) hS ?_
        simp only [Act.put, List.setIfInBounds_toArray, List.set_cons_zero, List.set_cons_succ]
        refine anyH_take 11 ⟨some 30, .move (.tmp 4), _, _, _, none⟩ (.int .i64 k) rfl rfl (by kernel_rfl) (by kernel_rfl) (by kernel_rfl) (fun _ _ _ h => h) (fun w hw => rfl) hS ?_
        simp only [Act.put, List.setIfInBounds_toArray, List.set_cons_zero, List.set_cons_succ]
        refine anyH_take 12 ⟨some 31, .move (.tmp 4), _, _, _, none⟩ (.int .i64 k) rfl rfl (by kernel_rfl) (by kernel_rfl) (by kernel_rfl) (fun _ _ _ h => h) (fun w hw => rfl) hS ?_
        simp only [Act.put, List.setIfInBounds_toArray, List.set_cons_zero, List.set_cons_succ]
        refine anyH_take 13 ⟨some 32, .binOp .add 3 (.tmp 31) (.const (.int .i64 1)) 3, _, _, _, none⟩ (.int .i64 ((k + 1 : Nat) : Int)) rfl rfl (by kernel_rfl) (by kernel_rfl) (by kernel_rfl) (fun _ _ _ h => h) (fun w hw => exec_add3 rfl rfl wadd) hS ?_
        simp only [Act.put, List.setIfInBounds_toArray, List.set_cons_zero, List.set_cons_succ]
        refine anyH_take 14 ⟨some 33, .slice 9 (.tmp 29) (some (.tmp 30)) (some (.tmp 32)) none, _, _, _, none⟩ (.string (s.extract k (k + 1))) rfl rfl (by kernel_rfl) (by kernel_rfl) (by kernel_rfl) (fun _ _ _ h => h) (fun w hw => exec_slice9 rfl rfl rfl (by omega) (by omega) (by omega)) hS ?_
        simp only [Act.put, List.setIfInBounds_toArray, List.set_cons_zero, List.set_cons_succ]
        refine anyH_one 9 ⟨some 28, .load 9 (.tmp 27), _, _, _, none⟩ (.string (str last)) wr.drew (by kernel_rfl) rfl rfl (exec_v (load9 hcell)) trivial ?_
        simp only [Act.put, List.setIfInBounds_toArray, List.set_cons_zero, List.set_cons_succ]
        refine anyH_one 15 ⟨some 34, .binOp .add 9 (.tmp 28) (.tmp 33) 9, _, _, _, none⟩ (.string (str last ++ s.extract k (k + 1))) wr.drew (by kernel_rfl) rfl rfl (exec_addStr rfl rfl hsum) trivial ?_
        simp only [Act.put, List.setIfInBounds_toArray, List.set_cons_zero, List.set_cons_succ]
        refine anyH_take 16 ⟨some 35, .indexAddr 32 (.tmp 19) (.tmp 22), _, _, _, none⟩ (.pointer (some ⟨g, n - 1, none⟩)) rfl rfl (by kernel_rfl) (by kernel_rfl) (by kernel_rfl) (fun _ _ _ h => h) (fun w hw => exec_v (index32 g n c (n - 1) w hn1)) hS ?_
        simp only [Act.put, List.setIfInBounds_toArray, List.set_cons_zero, List.set_cons_succ]
        refine anyH_oneSkip 17 ⟨none, .store 9 (.tmp 35) (.tmp 34), _, _, _, none⟩ _ (by kernel_rfl) rfl rfl (exec_store9 rfl rfl hcell hfro) trivial ?_
        refine wpAnyH_done (by kernel_rfl) ?_ _
        go_wp2_with fail
        go_roundw
        case rel => exact ⟨k + 1, by omega, by go_num, HSet.out, HBs.out⟩
        case measure => simp [intOf]; omega
    · have HF : Hid (s.data.toList.take k = s.data.toList) := by rw [Hid, List.take_of_length_le (by rw [← Go.Lib.size_eq]; omega)]
      rw [HF.out] at HO
      go_wp2_with fail
      go_ret
      exact ⟨⟨_, rfl, HO.out⟩, HB.out⟩
end Go.Proofs.YtkmggkcipgfhdaaDoor
