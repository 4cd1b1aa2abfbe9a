/- What this text holds: right lines are read as they were told: whole lines. -/
import Derived.Test.YtpjcpdnolcehcaaGreatDoorP4
namespace Go.Proofs.YtpjcpdnolcehcaaGreatDoor
open Go.RowKit
set_option linter.unusedVariables false
set_option linter.unusedSimpArgs false

theorem tag_parts {s : Bs} (h : tagB s = true) : s ≠ [] ∧ s.all letB = true := by
  unfold tagB at h
  simp only [Bool.or_eq_true, beq_iff_eq, Bool.and_eq_true] at h
  rcases h with (rfl | rfl) | h
  · exact ⟨by simp, by decide⟩
  · exact ⟨by simp, by decide⟩
  · exact ⟨by have := h.1.1; simpa using this, h.1.2⟩
theorem text_back (x t : Bs) (h : x.all plB = true) : (x ++ 13 :: 10 :: t).takeWhile plB = x ∧ (x ++ 13 :: 10 :: t).dropWhile plB = 13 :: 10 :: t := tw_all2 plB x _ h (by intro c r e; cases e; decide)
theorem end_back (t : Bs) : needP [13, 10] (13 :: 10 :: t) = some t := needP_app [13, 10] t
theorem stat_let {s : Bs} (h : statB s = true) : s ≠ [] ∧ s.all letB = true := by
  unfold statB at h
  simp only [Bool.or_eq_true, beq_iff_eq] at h
  rcases h with (((rfl | rfl) | rfl) | rfl) | rfl <;> exact ⟨by simp, by decide⟩
theorem line_parts {l : Ln} (h : lineB l = true) : tagB l.tag = true ∧ l.x.all plB = true ∧ (l.code ≠ [] ∨ needP [91] l.x = none) ∧
    ((l.tag = [43] ∧ l.st = [] ∧ l.code = [] ∧ l.vals = []) ∨ (l.tag ≠ [43] ∧ statB l.st = true ∧ l.vals = [] ∧ rightsB 0 l.code = true) ∨ (l.tag ≠ [43] ∧ l.st = [] ∧ l.x = [] ∧ l.code = [] ∧ someB l.vals = true)) := by
  unfold lineB textB at h
  simp only [Bool.and_eq_true, Bool.or_eq_true, Bool.not_eq_true', List.isEmpty_eq_false_iff] at h
  obtain ⟨⟨h1, h2, h3⟩, h4⟩ := h
  refine ⟨h1, h2, ?_, ?_⟩
  · rcases h3 with h3 | h3
    · exact .inl h3
    · right
      unfold needP
      rw [if_neg (by rw [h3]; simp)]
  · split at h4
    · rename_i e
      simp only [Bool.and_eq_true, beq_iff_eq, List.isEmpty_iff] at h4
      exact .inl ⟨e, h4.1.1, h4.1.2, h4.2⟩
    · rename_i e
      split at h4
      · simp only [Bool.and_eq_true, List.isEmpty_iff] at h4
        exact .inr (.inl ⟨e, h4.1.1, h4.1.2, h4.2⟩)
      · rename_i e2
        simp only [Bool.and_eq_true, beq_iff_eq, List.isEmpty_iff] at h4
        exact .inr (.inr ⟨e, by simpa using e2, h4.1.1, h4.1.2, h4.2⟩)
/-- The first word of values is no word of a status with a blank behind. -/
theorem first_word {ks : List Vl} (h : someB ks = true) (t : Bs) (ht : Stop t) (ht32 : needP [32] t = none) : statB ((toldL ks ++ t).takeWhile letB) = false ∨ needP [32] ((toldL ks ++ t).dropWhile letB) = none := by
  cases ks with
  | nil => cases h
  | cons v ks =>
    have hs : (v.k == 2 && statB v.x) = false ∧ rightsB 0 (v :: ks) = true := by
      unfold someB at h
      rw [Bool.and_eq_true, Bool.not_eq_true'] at h
      exact h
    have hr : rightB 0 v = true := by
      have := hs.2
      simp only [rightsB, Bool.and_eq_true] at this
      exact this.1
    have hst : Stop (toldS ks ++ t) := by
      cases ks with
      | nil => exact ht
      | cons u ks => exact .inr ⟨32, told u ++ toldS ks ++ t, by simp [toldS], .inl rfl⟩
    rw [toldL_cons, List.append_assoc]
    generalize toldS ks ++ t = r at hst
    have key : ∀ x : Bs, x.all letB = true → statB x = false → statB ((x ++ r).takeWhile letB) = false := by
      intro x hx hn
      rw [(tw_all2 letB x r hx (fun c q e => (hst.no c q e).1)).1]
      exact hn
    have none_ : ∀ c q, letB c = false → statB ((c :: q).takeWhile letB) = false := by
      intro c q hc
      rw [List.takeWhile_cons, if_neg (by rw [hc]; simp)]
      rfl
    obtain ⟨hb, h⟩ := right_kind hr
    rcases h with hk | ⟨hk, h1⟩ | ⟨hk, h1⟩ | hk | ⟨hk, h1, h2⟩ | ⟨hk, h1, h2, h3, h4⟩
    · left; rw [told_0 hk]; exact key nilT (by decide) (by decide)
    · left
      rw [told_1 hk]
      refine key _ (all_let (decP_all h1)) ?_
      rcases hq : statB (decP v.n) with _ | _
      · rfl
      · exfalso
        have hd := decP_all h1
        generalize decP v.n = y at *
        unfold statB at hq
        simp only [Bool.or_eq_true, beq_iff_eq] at hq
        rcases hq with (((rfl | rfl) | rfl) | rfl) | rfl <;> revert hd <;> decide
    · left
      rw [told_2 hk]
      refine key _ (atom_parts h1).2.1 ?_
      have := hs.1
      rw [hk] at this
      simpa using this
    · left
      rw [told_3 hk]
      unfold strP
      split
      · exact none_ 34 _ (by decide)
      · exact none_ 123 _ (by decide)
    · left; rw [told_4 hk]; exact none_ 40 _ (by decide)
    · right
      have e1 : told v ++ r = v.x ++ (91 :: (toldL v.kids ++ 93 :: (fromP v.frm ++ r))) := by rw [told_5 hk]; simp
      rw [e1, (tw_all2 letB v.x (91 :: (toldL v.kids ++ 93 :: (fromP v.frm ++ r))) (atom_parts h1).2.1 (by intro c q e; cases e; decide)).2, need1, if_neg (by decide)]
theorem line_back (l : Ln) (t : Bs) (h : lineB l = true) (hn : NumN l) : lineP (lineT l ++ t) = some (l, t) := by
  obtain ⟨h1, h2, h3, h4⟩ := line_parts h
  obtain ⟨t1, t2⟩ := tag_parts h1
  have key : ∀ s : Bs, lineP (l.tag ++ 32 :: s) = match (if l.tag = [43] then some (⟨[43], [], [], [], s.takeWhile plB⟩, s.dropWhile plB) else behindP l.tag s) with
      | none => none
      | some (l, r) => (needP [13, 10] r).map fun r => (l, r) := by
    intro s
    obtain ⟨e1, e2⟩ := tw_all2 letB l.tag (32 :: s) t2 (by intro c r e; cases e; decide)
    unfold lineP
    rw [e1, e2, need_yes1]
    rfl
  rcases h4 with ⟨a1, a2, a3, a4⟩ | ⟨a1, a2, a3, a4⟩ | ⟨a1, a2, a3, a4, a5⟩
  · have e : lineT l ++ t = l.tag ++ 32 :: (l.x ++ 13 :: 10 :: t) := by unfold lineT; rw [if_pos a1]; simp
    rw [e, key, if_pos a1, (text_back l.x t h2).1, (text_back l.x t h2).2]
    simp only
    rw [end_back]
    obtain ⟨tag, vals, st, code, x⟩ := l
    simp only at a1 a2 a3 a4
    subst a1 a2 a3 a4
    rfl
  · obtain ⟨s1, s2⟩ := stat_let a2
    have e : lineT l ++ t = l.tag ++ 32 :: (l.st ++ 32 :: (codeP l.code ++ (l.x ++ 13 :: 10 :: t))) := by unfold lineT; rw [if_neg a1, if_pos s1]; simp
    rw [e, key, if_neg a1]
    obtain ⟨e1, e2⟩ := tw_all2 letB l.st (32 :: (codeP l.code ++ (l.x ++ 13 :: 10 :: t))) s2 (by intro c r e; cases e; decide)
    have hb := behind_stat (tag := l.tag) (s := l.st ++ 32 :: (codeP l.code ++ (l.x ++ 13 :: 10 :: t))) (r := codeP l.code ++ (l.x ++ 13 :: 10 :: t)) (by rw [e1]; exact a2) (by rw [e2, need_yes1])
    rw [hb, e1]
    by_cases hc : l.code = []
    · have h3' : needP [91] l.x = none := by
        rcases h3 with h3 | h3
        · exact absurd hc h3
        · exact h3
      rw [hc]
      have e3 : codeP [] ++ (l.x ++ 13 :: 10 :: t) = l.x ++ 13 :: 10 :: t := rfl
      have e4 : needP [91] (l.x ++ 13 :: 10 :: t) = none := by
        cases hx : l.x with
        | nil => rw [List.nil_append, need1, if_neg (by decide)]
        | cons c x =>
          rw [hx, need1] at h3'
          rw [List.cons_append, need1]
          split at h3'
          · cases h3'
          · rename_i e; rw [if_neg e]
      rw [e3, e4]
      simp only
      rw [(text_back l.x t h2).1, (text_back l.x t h2).2, end_back]
      obtain ⟨tag, vals, st, code, x⟩ := l
      simp only at a1 a3 hc
      subst a3 hc
      rfl
    · have e3 : codeP l.code ++ (l.x ++ 13 :: 10 :: t) = 91 :: (toldL l.code ++ 93 :: 32 :: (l.x ++ 13 :: 10 :: t)) := by unfold codeP; rw [if_neg hc]; simp
      rw [e3, need_yes1]
      simp only
      rw [vals_back l.code _ hc a4 hn.2.1 (.inr ⟨93, _, rfl, by simp⟩) (by rw [need1, if_neg (by decide)])]
      simp only
      rw [need_yes1]
      simp only
      rw [need_yes1]
      simp only
      rw [(text_back l.x t h2).1, (text_back l.x t h2).2, end_back]
      obtain ⟨tag, vals, st, code, x⟩ := l
      simp only at a1 a3
      subst a3
      rfl
  · have hs : rightsB 0 l.vals = true ∧ l.vals ≠ [] := by
      unfold someB at a5
      split at a5
      · cases a5
      · rename_i v ks hv
        simp only [Bool.and_eq_true] at a5
        exact ⟨a5.2, by rw [hv]; simp⟩
    have e : lineT l ++ t = l.tag ++ 32 :: (toldL l.vals ++ 13 :: 10 :: t) := by unfold lineT; rw [if_neg a1, if_neg (by simpa using a2)]; simp
    have hst : Stop (13 :: 10 :: t) := .inr ⟨13, _, rfl, by simp⟩
    have h32 : needP [32] (13 :: 10 :: t) = none := by rw [need1, if_neg (by decide)]
    rw [e, key, if_neg a1, behind_vals (first_word a5 _ hst h32), vals_back l.vals _ hs.2 hs.1 hn.1 hst h32]
    simp only [Option.map_some]
    rw [end_back]
    obtain ⟨tag, vals, st, code, x⟩ := l
    simp only at a1 a2 a3 a4
    subst a2 a3 a4
    rfl
theorem lines_back : ∀ (ls : List Ln) (f : Nat), ls.length < f → (∀ l ∈ ls, lineB l = true ∧ NumN l) → linesP f (ls.flatMap lineT) = some ls
  | [], f + 1, _, _ => by simp [linesP]
  | l :: ls, f + 1, hf, h => by
    have e : (l :: ls).flatMap lineT = lineT l ++ ls.flatMap lineT := by simp
    have hne : lineT l ++ ls.flatMap lineT ≠ [] := by
      intro e
      have := congrArg List.length e
      simp [lineT] at this
    rw [e]
    unfold linesP
    rw [if_neg hne, line_back l _ (h l (by simp)).1 (h l (by simp)).2]
    simp only
    rw [lines_back ls f (by simp at hf; omega) (fun x hx => h x (by simp [hx]))]
    rfl
theorem lineT_pos (l : Ln) : 1 ≤ (lineT l).length := by unfold lineT; simp only [List.length_append, List.length_cons]; omega
theorem flat_pos : ∀ ls : List Ln, ls.length ≤ (ls.flatMap lineT).length
  | [] => by simp
  | l :: ls => by
    have := flat_pos ls
    have := lineT_pos l
    rw [List.flatMap_cons, List.length_append, List.length_cons]
    omega
/-- What was told is read. -/
theorem parse_back (ls : List Ln) (h : ∀ l ∈ ls, lineB l = true ∧ NumN l) : linesP ((printP ls).length + 1) (printP ls) = some ls ∧ printP ls = ls.flatMap lineT := by
  have e : printP ls = ls.flatMap lineT := by
    unfold printP
    rw [if_pos (by rw [List.all_eq_true]; exact fun l hl => (h l hl).1)]
  refine ⟨?_, e⟩
  rw [e]
  exact lines_back ls _ (by have := flat_pos ls; omega) h
end Go.Proofs.YtpjcpdnolcehcaaGreatDoor
