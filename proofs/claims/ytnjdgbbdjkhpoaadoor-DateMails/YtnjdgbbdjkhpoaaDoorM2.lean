/- What this text holds: the document's pieces between blanks. -/
import Derived.Test.YtnjdgbbdjkhpoaaDoorM1
namespace Go.Proofs.YtnjdgbbdjkhpoaaDoor
open Go.RowKit
set_option linter.unusedVariables false
set_option linter.unusedSimpArgs false

def stepS (st : List Bs × Bool) (c : UInt8) : List Bs × Bool :=
  if blankB c then (st.1, false) else if st.2 then (st.1.dropLast ++ [st.1.getLastD [] ++ [c]], true) else (st.1 ++ [[c]], true)
/-- The pieces between blanks, and whether the last one may go on. -/
def spl (l : Bs) : List Bs × Bool := l.foldl stepS ([], false)
theorem spl_next (l : Bs) (k : Nat) (hk : k < l.length) : spl (l.take (k + 1)) = stepS (spl (l.take k)) l[k] := by
  rw [List.take_succ_eq_append_getElem hk, spl, List.foldl_append]
  rfl
theorem spl_snoc (l : Bs) (c : UInt8) : spl (l ++ [c]) = stepS (spl l) c := by rw [spl, List.foldl_append]; rfl
theorem spl_facts (l : Bs) : ((spl l).2 = true → (spl l).1 ≠ []) ∧ (spl l).1.length ≤ l.length ∧ ∀ x ∈ (spl l).1, x.length ≤ l.length := by
  have key : ∀ (n : Nat) (l : Bs), l.length = n → ((spl l).2 = true → (spl l).1 ≠ []) ∧ (spl l).1.length ≤ l.length ∧ ∀ x ∈ (spl l).1, x.length ≤ l.length := by
    intro n
    induction n with
    | zero =>
      intro l hl
      obtain rfl := List.eq_nil_of_length_eq_zero hl
      exact ⟨(fun h => nomatch h), (by simp [spl]), (by simp [spl])⟩
    | succ n ih =>
      intro l hl
      obtain ⟨m, c, rfl⟩ : ∃ m c, l = m ++ [c] := by
        rcases List.eq_nil_or_concat l with rfl | ⟨m, c, h⟩
        · simp at hl
        · exact ⟨m, c, by rw [h]; simp⟩
      obtain ⟨a, b, d⟩ := ih m (by simpa using hl)
      rw [spl_snoc, stepS]
      split
      · exact ⟨(fun h => nomatch h), by simp; omega, fun x hx => by have := d x hx; simp; omega⟩
      · split
        · rename_i h2
          have hne := a h2
          have hl1 : 1 ≤ (spl m).1.length := by rcases hq : (spl m).1 with _ | ⟨y, ys⟩; exact absurd hq hne; simp
          refine ⟨by simp, by simp; omega, fun x hx => ?_⟩
          rw [List.mem_append, List.mem_singleton] at hx
          rcases hx with hx | rfl
          · have := d x (List.dropLast_subset _ hx); simp; omega
          · have := d ((spl m).1.getLastD []) (by rw [List.getLastD_eq_getLast?, List.getLast?_eq_some_getLast hne]; exact List.getLast_mem hne)
            rw [List.length_append, List.length_append]; simp only [List.length_singleton]; omega
        · refine ⟨by simp, by simp; omega, fun x hx => ?_⟩
          rw [List.mem_append, List.mem_singleton] at hx
          rcases hx with hx | rfl
          · have := d x hx; simp; omega
          · simp
  exact key _ l rfl
theorem last_le {l : Bs} {L : List Bs} (h : (spl l).1 = L) : (L.getLastD []).length ≤ l.length := by
  rcases hq : L with _ | ⟨y, ys⟩
  · simp
  · have := (spl_facts l).2.2 (L.getLastD []) (by rw [h, hq, List.getLastD_eq_getLast?, List.getLast?_eq_some_getLast (by simp)]; exact List.getLast_mem _)
    rw [← hq]; exact this

set_option maxRecDepth 100000 in
set_option maxHeartbeats 4000000 in
theorem rsplit_any (s : Bs) (w : World) (hs : s.length ≤ 100000) :
    Calls Tryd.prog 51 #[.string (str s)] w fun e w' => (∃ v, e = .returned v ∧ SO w' w.heap.size v (spl s).1) ∧ Below w.heap.size w w' := by
  have hsl := str_size s
  go_enter Tryd.func51, Tryd.ntmps51
  go_wp2_with fail
  go_loopw [3, 4, 5] (fun v b i wr => ∃ k : Nat, k ≤ s.length ∧ i = .int .i64 k ∧ b = .bool (spl (s.take k)).2 ∧ SO wr w.heap.size v (spl (s.take k)).1 ∧ Below w.heap.size w wr) (fun _ _ i _ => s.length - (intOf i).toNat)
  case atStart => exact ⟨0, by omega, rfl, rfl, ⟨rfl, .inl ⟨rfl, rfl⟩⟩, Below.refl _ _⟩
  case round =>
    rename_i v _ _
    obtain ⟨k, hk, rfl, rfl, ho, hb⟩ := hrel
    obtain ⟨f1, f2, f3⟩ := spl_facts (s.take k)
    have HLast := hid (last_le (l := s.take k) rfl)
    rw [List.length_take] at f2
    have HO := hid ho
    have HB := hid hb
    clear ho hb f3
    by_cases hlt : k < s.length
    · have hlt' : (k : Int) < s.length := by omega
      have hks : k < (str s).size := by omega
      obtain ⟨ch, gg, HT, HDr⟩ : ∃ ch, ((str s)[k]'hks) = ch ∧ Hid (spl (s.take (k + 1)) = stepS (spl (s.take k)) ch) ∧ Hid (s.drop k = ch :: s.drop (k + 1)) := ⟨s[k]'hlt, rfl, hid (spl_next s k hlt), hid (List.drop_eq_getElem_cons hlt)⟩
      have HLe : Hid (((spl (s.take k)).1.getLastD []).length ≤ s.length) := by have := HLast.out; rw [List.length_take] at this; unfold Hid; omega
      clear HLast
      have HLast := HLe
      clear HLe
      rcases Bool.eq_false_or_eq_true (blankB ch) with hbl | hbl
      · have HP : Hid (stepS (spl (s.take k)) ch = ((spl (s.take k)).1, false)) := by unfold Hid stepS; rw [if_pos hbl]
        have HQ := hid (rblank_any ch)
        rw [hbl] at HQ
        clear f1
        obtain ⟨sa, sc', rfl⟩ := HO.out.slice
        generalize hL : (spl (s.take k)).1 = L at *
        clear hL hbl
        go_wp2_with fail
        refine (HQ.out _).mono ?_
        rintro e w1 ⟨rfl, rfl⟩
        go_wp2_with fail
        go_roundw
        case rel => exact ⟨k + 1, by omega, by go_num, by rw [HT.out, HP.out], by rw [HT.out, HP.out]; exact HO.out, HB.out⟩
        case measure => simp [intOf]; omega
      · have HQ := hid (rblank_any ch)
        rw [hbl] at HQ
        rcases Bool.eq_false_or_eq_true (spl (s.take k)).2 with hin | hin
        · have hne := f1 hin
          rw [hin]
          have HP : Hid (stepS (spl (s.take k)) ch = ((spl (s.take k)).1.dropLast ++ [(spl (s.take k)).1.getLastD [] ++ [ch]], true)) := by
            unfold Hid stepS; rw [if_neg (by rw [hbl]; simp), if_pos hin]
          generalize hL : (spl (s.take k)).1 = L at *
          obtain ⟨g, n, c, rfl, hn⟩ := HO.out.some hne
          have HN : Hid (L.length = n) := hid hn
          have hn1' : 1 ≤ n := by rcases hq : L with _ | ⟨y, ys⟩; exact absurd hq hne; rw [← hn, hq]; simp
          have hnb : n ≤ 100002 := by omega
          clear hL hbl hin f1 hne hn f2
          go_wp2_with fail
          refine (HQ.out _).mono ?_
          rintro e w1 ⟨rfl, rfl⟩
          rename_i w1
          have hkl : n - 1 < L.length := by rw [HN.out]; omega
          obtain ⟨hcell, hfro, hset, hBg⟩ := so_set HO.out HN.out (n - 1) hkl (L.getLastD [] ++ [ch])
          obtain ⟨l1, l2⟩ := last_at HN.out hn1' hkl (L.getLastD [] ++ [ch])
          rw [l1] at hset
          rw [l2] at hcell
          have hn1 : n - 1 < n := by omega
          have wsub : IntKind.i64.wrap ((n : Int) - 1) = ((n - 1 : Nat) : Int) := by rw [IntKind.wrap_i64]; omega
          have wadd : IntKind.i64.wrap ((k : Int) + 1) = ((k + 1 : Nat) : Int) := by rw [IntKind.wrap_i64]; omega
          have HSet : Hid (SO (w1.drew.setCell ⟨g, n - 1, none⟩ (.string (str (L.getLastD [] ++ [ch])))) w.heap.size (.slice (some ⟨g, 0, none⟩) n c) (L.dropLast ++ [L.getLastD [] ++ [ch]])) := hset
          have HBs : Hid (Below w.heap.size w (w1.drew.setCell ⟨g, n - 1, none⟩ (.string (str (L.getLastD [] ++ [ch]))))) := HB.out.drew.setCell hBg _
          have HCell : Hid (w1.drew.cell? ⟨g, n - 1, none⟩ = some (.string (str (L.getLastD [])))) := hcell
          have HFro : Hid (w1.drew.frozen? ⟨g, n - 1, none⟩ = false) := hfro
          have HPP := hid (HP.out)
          clear hset l1 l2 hcell hfro hkl HP
          generalize L.getLastD [] = last at *
          have HSe : Hid (str last ++ (str s).extract k (k + 1) = str (last ++ [ch])) := by
            rw [Hid, mid_str, app_str, show k + 1 - k = 1 by omega, HDr.out]
            rfl
          have hsum : (str last).size + ((str s).extract k (k + 1)).size ≤ 1000000 := by
            rw [str_size, mid_str, str_size, List.length_take]
            have := HLast.out
            omega
          rw [← HSe.out] at HSet HBs
          go_wp2_with fail
          have hcell := HCell.out
          have hfro := HFro.out
          refine wp_region_held_drew (S := fun w' => True) (by kernel_rfl) trivial ?_
          intro hS
          refine anyH_take 0 ⟨some 21, .move (.tmp 3), _, _, _, none⟩ (.slice (some ⟨g, 0, none⟩) n c) rfl rfl (by kernel_rfl) (by kernel_rfl) (by kernel_rfl) (fun _ _ _ h => h) (fun w hw => rfl) hS ?_
          simp only [Act.put, List.setIfInBounds_toArray, List.set_cons_zero, List.set_cons_succ]
          refine anyH_take 1 ⟨some 22, .move (.tmp 3), _, _, _, none⟩ (.slice (some ⟨g, 0, none⟩) n c) rfl rfl (by kernel_rfl) (by kernel_rfl) (by kernel_rfl) (fun _ _ _ h => h) (fun w hw => rfl) hS ?_
          simp only [Act.put, List.setIfInBounds_toArray, List.set_cons_zero, List.set_cons_succ]
          refine anyH_take 2 ⟨some 23, .call { callee := .builtin .len, args := #[.tmp 22], argTypes := #[64] }, _, _, _, none⟩ (.int .i64 n) rfl rfl (by kernel_rfl) (by kernel_rfl) (by kernel_rfl) (fun _ _ _ h => h) (fun w hw => exec_len64 rfl) hS ?_
          simp only [Act.put, List.setIfInBounds_toArray, List.set_cons_zero, List.set_cons_succ]
          refine anyH_take 3 ⟨some 24, .binOp .sub 3 (.tmp 23) (.const (.int .i64 1)) 3, _, _, _, none⟩ (.int .i64 ((n - 1 : Nat) : Int)) rfl rfl (by kernel_rfl) (by kernel_rfl) (by kernel_rfl) (fun _ _ _ h => h) (fun w hw => exec_sub3 rfl rfl wsub) hS ?_
          simp only [Act.put, List.setIfInBounds_toArray, List.set_cons_zero, List.set_cons_succ]
          refine anyH_take 4 ⟨some 25, .move (.tmp 3), _, _, _, none⟩ (.slice (some ⟨g, 0, none⟩) n c) rfl rfl (by kernel_rfl) (by kernel_rfl) (by kernel_rfl) (fun _ _ _ h => h) (fun w hw => rfl) hS ?_
          simp only [Act.put, List.setIfInBounds_toArray, List.set_cons_zero, List.set_cons_succ]
          refine anyH_take 5 ⟨some 26, .move (.tmp 3), _, _, _, none⟩ (.slice (some ⟨g, 0, none⟩) n c) rfl rfl (by kernel_rfl) (by kernel_rfl) (by kernel_rfl) (fun _ _ _ h => h) (fun w hw => rfl) hS ?_
          simp only [Act.put, List.setIfInBounds_toArray, List.set_cons_zero, List.set_cons_succ]
          refine anyH_take 6 ⟨some 27, .call { callee := .builtin .len, args := #[.tmp 26], argTypes := #[64] }, _, _, _, none⟩ (.int .i64 n) rfl rfl (by kernel_rfl) (by kernel_rfl) (by kernel_rfl) (fun _ _ _ h => h) (fun w hw => exec_len64 rfl) hS ?_
          simp only [Act.put, List.setIfInBounds_toArray, List.set_cons_zero, List.set_cons_succ]
          refine anyH_take 7 ⟨some 28, .binOp .sub 3 (.tmp 27) (.const (.int .i64 1)) 3, _, _, _, none⟩ (.int .i64 ((n - 1 : Nat) : Int)) rfl rfl (by kernel_rfl) (by kernel_rfl) (by kernel_rfl) (fun _ _ _ h => h) (fun w hw => exec_sub3 rfl rfl wsub) hS ?_
          simp only [Act.put, List.setIfInBounds_toArray, List.set_cons_zero, List.set_cons_succ]
          refine anyH_take 8 ⟨some 29, .indexAddr 64 (.tmp 25) (.tmp 28), _, _, _, none⟩ (.pointer (some ⟨g, n - 1, none⟩)) rfl rfl (by kernel_rfl) (by kernel_rfl) (by kernel_rfl) (fun _ _ _ h => h) (fun w hw => exec_v (index64 g n c (n - 1) w hn1)) hS ?_
          simp only [Act.put, List.setIfInBounds_toArray, List.set_cons_zero, List.set_cons_succ]
          refine anyH_take 10 ⟨some 31, .move (.tmp 0), _, _, _, none⟩ (.string (str s)) rfl rfl (by kernel_rfl) (by kernel_rfl) (by kernel_rfl) (fun _ _ _ h => h) (fun w hw => rfl) hS ?_
          simp only [Act.put, List.setIfInBounds_toArray, List.set_cons_zero, List.set_cons_succ]
          refine anyH_take 11 ⟨some 32, .move (.tmp 5), _, _, _, none⟩ (.int .i64 k) rfl rfl (by kernel_rfl) (by kernel_rfl) (by kernel_rfl) (fun _ _ _ h => h) (fun w hw => rfl) hS ?_
          simp only [Act.put, List.setIfInBounds_toArray, List.set_cons_zero, List.set_cons_succ]
          refine anyH_take 12 ⟨some 33, .move (.tmp 5), _, _, _, none⟩ (.int .i64 k) rfl rfl (by kernel_rfl) (by kernel_rfl) (by kernel_rfl) (fun _ _ _ h => h) (fun w hw => rfl) hS ?_
          simp only [Act.put, List.setIfInBounds_toArray, List.set_cons_zero, List.set_cons_succ]
          refine anyH_take 13 ⟨some 34, .binOp .add 3 (.tmp 33) (.const (.int .i64 1)) 3, _, _, _, none⟩ (.int .i64 ((k + 1 : Nat) : Int)) rfl rfl (by kernel_rfl) (by kernel_rfl) (by kernel_rfl) (fun _ _ _ h => h) (fun w hw => exec_add3 rfl rfl wadd) hS ?_
          simp only [Act.put, List.setIfInBounds_toArray, List.set_cons_zero, List.set_cons_succ]
          refine anyH_take 14 ⟨some 35, .slice 9 (.tmp 31) (some (.tmp 32)) (some (.tmp 34)) none, _, _, _, none⟩ (.string ((str s).extract k (k + 1))) rfl rfl (by kernel_rfl) (by kernel_rfl) (by kernel_rfl) (fun _ _ _ h => h) (fun w hw => exec_slice9 rfl rfl rfl (by omega) (by omega) (by omega)) hS ?_
          simp only [Act.put, List.setIfInBounds_toArray, List.set_cons_zero, List.set_cons_succ]
          refine anyH_one 9 ⟨some 30, .load 9 (.tmp 29), _, _, _, none⟩ (.string (str last)) w1.drew (by kernel_rfl) rfl rfl (exec_v (load9 hcell)) trivial ?_
          simp only [Act.put, List.setIfInBounds_toArray, List.set_cons_zero, List.set_cons_succ]
          refine anyH_one 15 ⟨some 36, .binOp .add 9 (.tmp 30) (.tmp 35) 9, _, _, _, none⟩ (.string (str last ++ (str s).extract k (k + 1))) w1.drew (by kernel_rfl) rfl rfl (exec_addStr rfl rfl hsum) trivial ?_
          simp only [Act.put, List.setIfInBounds_toArray, List.set_cons_zero, List.set_cons_succ]
          refine anyH_take 16 ⟨some 37, .indexAddr 64 (.tmp 21) (.tmp 24), _, _, _, none⟩ (.pointer (some ⟨g, n - 1, none⟩)) rfl rfl (by kernel_rfl) (by kernel_rfl) (by kernel_rfl) (fun _ _ _ h => h) (fun w hw => exec_v (index64 g n c (n - 1) w hn1)) hS ?_
          simp only [Act.put, List.setIfInBounds_toArray, List.set_cons_zero, List.set_cons_succ]
          refine anyH_oneSkip 17 ⟨none, .store 9 (.tmp 37) (.tmp 36), _, _, _, none⟩ _ (by kernel_rfl) rfl rfl (exec_store9 rfl rfl hcell hfro) trivial ?_
          refine wpAnyH_done (by kernel_rfl) ?_ _
          go_wp2_with fail
          go_roundw
          case rel => exact ⟨k + 1, by omega, by go_num, by rw [HT.out, HPP.out], by rw [HT.out, HPP.out]; exact HSet.out, HBs.out⟩
          case measure => simp [intOf]; omega
        · rw [hin]
          have HP0 : Hid (stepS (spl (s.take k)) ch = ((spl (s.take k)).1 ++ [[ch]], true)) := by
            unfold Hid stepS; rw [if_neg (by rw [hbl]; simp), if_neg (by rw [hin]; simp)]
          generalize hL : (spl (s.take k)).1 = L0 at *
          clear hL hbl hin f1
          obtain ⟨sa, sc', rfl⟩ := HO.out.slice
          go_wp2_with fail
          refine (HQ.out _).mono ?_
          rintro e w1 ⟨rfl, rfl⟩
          rename_i w1
          obtain ⟨v', w2, hrun, ho2, hb2⟩ := so_more (w := w1.alloc (.cells #[.string (str [])] 9)) (HO.out.later ((Below.refl _ _).alloc (Nat.le_refl _) _)) (by have := HB.out.size; simp; omega) (sl_one w1 []) (by omega) (by simp) (by simp)
          rw [show str [] = (⟨#[]⟩ : ByteArray) from rfl] at hrun
          have HRun := hid hrun
          have HB2 := hid ((HB.out.alloc HB.out.size _).trans hb2)
          obtain ⟨g, n, c, rfl, hn⟩ := ho2.some (by simp)
          have HP : Hid (stepS (spl (s.take k)) ch = ((L0 ++ [[]]).dropLast ++ [(L0 ++ [[]]).getLastD [] ++ [ch]], true)) := by
            rw [Hid, HP0.out]; simp
          have hnb : n ≤ 100002 := by rw [← hn]; simp; omega
          have hn1' : 1 ≤ n := by rw [← hn]; simp
          have HLe : Hid (((L0 ++ [[]]).getLastD []).length ≤ s.length) := by unfold Hid; simp
          clear HO HB HLast HP0 f2 hb2 hrun
          have HO := hid ho2
          have HB := HB2
          have HLast := HLe
          generalize L0 ++ [[]] = L at *
          have HN := hid hn
          clear ho2 hn HB2 HLe
          have hkl : n - 1 < L.length := by rw [HN.out]; omega
          obtain ⟨hcell, hfro, hset, hBg⟩ := so_set HO.out HN.out (n - 1) hkl (L.getLastD [] ++ [ch])
          obtain ⟨l1, l2⟩ := last_at HN.out hn1' hkl (L.getLastD [] ++ [ch])
          rw [l1] at hset
          rw [l2] at hcell
          have hn1 : n - 1 < n := by omega
          have wsub : IntKind.i64.wrap ((n : Int) - 1) = ((n - 1 : Nat) : Int) := by rw [IntKind.wrap_i64]; omega
          have wadd : IntKind.i64.wrap ((k : Int) + 1) = ((k + 1 : Nat) : Int) := by rw [IntKind.wrap_i64]; omega
          have HSet : Hid (SO (w2.drew.setCell ⟨g, n - 1, none⟩ (.string (str (L.getLastD [] ++ [ch])))) w.heap.size (.slice (some ⟨g, 0, none⟩) n c) (L.dropLast ++ [L.getLastD [] ++ [ch]])) := hset
          have HBs : Hid (Below w.heap.size w (w2.drew.setCell ⟨g, n - 1, none⟩ (.string (str (L.getLastD [] ++ [ch]))))) := HB.out.drew.setCell hBg _
          have HCell : Hid (w2.drew.cell? ⟨g, n - 1, none⟩ = some (.string (str (L.getLastD [])))) := hcell
          have HFro : Hid (w2.drew.frozen? ⟨g, n - 1, none⟩ = false) := hfro
          have HPP := hid (HP.out)
          clear hset l1 l2 hcell hfro hkl HP
          generalize L.getLastD [] = last at *
          have HSe : Hid (str last ++ (str s).extract k (k + 1) = str (last ++ [ch])) := by
            rw [Hid, mid_str, app_str, show k + 1 - k = 1 by omega, HDr.out]
            rfl
          have hsum : (str last).size + ((str s).extract k (k + 1)).size ≤ 1000000 := by
            rw [str_size, mid_str, str_size, List.length_take]
            have := HLast.out
            omega
          rw [← HSe.out] at HSet HBs
          go_wp2_with (at_builtin; refine wpList_append_run rfl rfl HRun.out ?_)
          have hcell := HCell.out
          have hfro := HFro.out
          refine wp_region_held_drew (S := fun w' => True) (by kernel_rfl) trivial ?_
          intro hS
          refine anyH_take 0 ⟨some 21, .move (.tmp 3), _, _, _, none⟩ (.slice (some ⟨g, 0, none⟩) n c) rfl rfl (by kernel_rfl) (by kernel_rfl) (by kernel_rfl) (fun _ _ _ h => h) (fun w hw => rfl) hS ?_
          simp only [Act.put, List.setIfInBounds_toArray, List.set_cons_zero, List.set_cons_succ]
          refine anyH_take 1 ⟨some 22, .move (.tmp 3), _, _, _, none⟩ (.slice (some ⟨g, 0, none⟩) n c) rfl rfl (by kernel_rfl) (by kernel_rfl) (by kernel_rfl) (fun _ _ _ h => h) (fun w hw => rfl) hS ?_
          simp only [Act.put, List.setIfInBounds_toArray, List.set_cons_zero, List.set_cons_succ]
          refine anyH_take 2 ⟨some 23, .call { callee := .builtin .len, args := #[.tmp 22], argTypes := #[64] }, _, _, _, none⟩ (.int .i64 n) rfl rfl (by kernel_rfl) (by kernel_rfl) (by kernel_rfl) (fun _ _ _ h => h) (fun w hw => exec_len64 rfl) hS ?_
          simp only [Act.put, List.setIfInBounds_toArray, List.set_cons_zero, List.set_cons_succ]
          refine anyH_take 3 ⟨some 24, .binOp .sub 3 (.tmp 23) (.const (.int .i64 1)) 3, _, _, _, none⟩ (.int .i64 ((n - 1 : Nat) : Int)) rfl rfl (by kernel_rfl) (by kernel_rfl) (by kernel_rfl) (fun _ _ _ h => h) (fun w hw => exec_sub3 rfl rfl wsub) hS ?_
          simp only [Act.put, List.setIfInBounds_toArray, List.set_cons_zero, List.set_cons_succ]
          refine anyH_take 4 ⟨some 25, .move (.tmp 3), _, _, _, none⟩ (.slice (some ⟨g, 0, none⟩) n c) rfl rfl (by kernel_rfl) (by kernel_rfl) (by kernel_rfl) (fun _ _ _ h => h) (fun w hw => rfl) hS ?_
          simp only [Act.put, List.setIfInBounds_toArray, List.set_cons_zero, List.set_cons_succ]
          refine anyH_take 5 ⟨some 26, .move (.tmp 3), _, _, _, none⟩ (.slice (some ⟨g, 0, none⟩) n c) rfl rfl (by kernel_rfl) (by kernel_rfl) (by kernel_rfl) (fun _ _ _ h => h) (fun w hw => rfl) hS ?_
          simp only [Act.put, List.setIfInBounds_toArray, List.set_cons_zero, List.set_cons_succ]
          refine anyH_take 6 ⟨some 27, .call { callee := .builtin .len, args := #[.tmp 26], argTypes := #[64] }, _, _, _, none⟩ (.int .i64 n) rfl rfl (by kernel_rfl) (by kernel_rfl) (by kernel_rfl) (fun _ _ _ h => h) (fun w hw => exec_len64 rfl) hS ?_
          simp only [Act.put, List.setIfInBounds_toArray, List.set_cons_zero, List.set_cons_succ]
          refine anyH_take 7 ⟨some 28, .binOp .sub 3 (.tmp 27) (.const (.int .i64 1)) 3, _, _, _, none⟩ (.int .i64 ((n - 1 : Nat) : Int)) rfl rfl (by kernel_rfl) (by kernel_rfl) (by kernel_rfl) (fun _ _ _ h => h) (fun w hw => exec_sub3 rfl rfl wsub) hS ?_
          simp only [Act.put, List.setIfInBounds_toArray, List.set_cons_zero, List.set_cons_succ]
          refine anyH_take 8 ⟨some 29, .indexAddr 64 (.tmp 25) (.tmp 28), _, _, _, none⟩ (.pointer (some ⟨g, n - 1, none⟩)) rfl rfl (by kernel_rfl) (by kernel_rfl) (by kernel_rfl) (fun _ _ _ h => h) (fun w hw => exec_v (index64 g n c (n - 1) w hn1)) hS ?_
          simp only [Act.put, List.setIfInBounds_toArray, List.set_cons_zero, List.set_cons_succ]
          refine anyH_take 10 ⟨some 31, .move (.tmp 0), _, _, _, none⟩ (.string (str s)) rfl rfl (by kernel_rfl) (by kernel_rfl) (by kernel_rfl) (fun _ _ _ h => h) (fun w hw => rfl) hS ?_
          simp only [Act.put, List.setIfInBounds_toArray, List.set_cons_zero, List.set_cons_succ]
          refine anyH_take 11 ⟨some 32, .move (.tmp 5), _, _, _, none⟩ (.int .i64 k) rfl rfl (by kernel_rfl) (by kernel_rfl) (by kernel_rfl) (fun _ _ _ h => h) (fun w hw => rfl) hS ?_
          simp only [Act.put, List.setIfInBounds_toArray, List.set_cons_zero, List.set_cons_succ]
          refine anyH_take 12 ⟨some 33, .move (.tmp 5), _, _, _, none⟩ (.int .i64 k) rfl rfl (by kernel_rfl) (by kernel_rfl) (by kernel_rfl) (fun _ _ _ h => h) (fun w hw => rfl) hS ?_
          simp only [Act.put, List.setIfInBounds_toArray, List.set_cons_zero, List.set_cons_succ]
          refine anyH_take 13 ⟨some 34, .binOp .add 3 (.tmp 33) (.const (.int .i64 1)) 3, _, _, _, none⟩ (.int .i64 ((k + 1 : Nat) : Int)) rfl rfl (by kernel_rfl) (by kernel_rfl) (by kernel_rfl) (fun _ _ _ h => h) (fun w hw => exec_add3 rfl rfl wadd) hS ?_
          simp only [Act.put, List.setIfInBounds_toArray, List.set_cons_zero, List.set_cons_succ]
          refine anyH_take 14 ⟨some 35, .slice 9 (.tmp 31) (some (.tmp 32)) (some (.tmp 34)) none, _, _, _, none⟩ (.string ((str s).extract k (k + 1))) rfl rfl (by kernel_rfl) (by kernel_rfl) (by kernel_rfl) (fun _ _ _ h => h) (fun w hw => exec_slice9 rfl rfl rfl (by omega) (by omega) (by omega)) hS ?_
          simp only [Act.put, List.setIfInBounds_toArray, List.set_cons_zero, List.set_cons_succ]
          refine anyH_one 9 ⟨some 30, .load 9 (.tmp 29), _, _, _, none⟩ (.string (str last)) w2.drew (by kernel_rfl) rfl rfl (exec_v (load9 hcell)) trivial ?_
          simp only [Act.put, List.setIfInBounds_toArray, List.set_cons_zero, List.set_cons_succ]
          refine anyH_one 15 ⟨some 36, .binOp .add 9 (.tmp 30) (.tmp 35) 9, _, _, _, none⟩ (.string (str last ++ (str s).extract k (k + 1))) w2.drew (by kernel_rfl) rfl rfl (exec_addStr rfl rfl hsum) trivial ?_
          simp only [Act.put, List.setIfInBounds_toArray, List.set_cons_zero, List.set_cons_succ]
          refine anyH_take 16 ⟨some 37, .indexAddr 64 (.tmp 21) (.tmp 24), _, _, _, none⟩ (.pointer (some ⟨g, n - 1, none⟩)) rfl rfl (by kernel_rfl) (by kernel_rfl) (by kernel_rfl) (fun _ _ _ h => h) (fun w hw => exec_v (index64 g n c (n - 1) w hn1)) hS ?_
          simp only [Act.put, List.setIfInBounds_toArray, List.set_cons_zero, List.set_cons_succ]
          refine anyH_oneSkip 17 ⟨none, .store 9 (.tmp 37) (.tmp 36), _, _, _, none⟩ _ (by kernel_rfl) rfl rfl (exec_store9 rfl rfl hcell hfro) trivial ?_
          refine wpAnyH_done (by kernel_rfl) ?_ _
          go_wp2_with fail
          go_roundw
          case rel => exact ⟨k + 1, by omega, by go_num, by rw [HT.out, HPP.out], by rw [HT.out, HPP.out]; exact HSet.out, HBs.out⟩
          case measure => simp [intOf]; omega
    · obtain rfl : k = s.length := by omega
      rw [List.take_length] at HO
      clear f1 f2
      obtain ⟨sa, sc', rfl⟩ := HO.out.slice
      go_wp2_with fail
      go_ret
      exact ⟨⟨_, rfl, HO.out⟩, HB.out⟩
end Go.Proofs.YtnjdgbbdjkhpoaaDoor
