/- What this text holds: the document's ways to lines and fields, as plain functions; they are the program's. -/
import Derived.Test.YtemgpghjolpneaaGreatDoorP1
namespace Go.Proofs.YtemgpghjolpneaaGreatDoor
set_option linter.unusedVariables false
set_option linter.unusedSimpArgs false

/-- Lines so far, and where the next one begins. -/
theorem lines_at : ∀ (n : Nat) (s : Bs) (j : Nat), s.length ≤ n → j < ln s → j + 1 < ln s ∨ j + 1 = ln s := fun n s j h hj => by omega
theorem ln_stop : ∀ (s : Bs) (j : Nat) (h : j < s.length), j < ln s → (j + 1 = ln s ↔ s[j] = 10 ∨ j + 1 = s.length)
  | [], j, h, _ => by simp at h
  | c :: s, 0, h, hl => by
    unfold ln at hl ⊢
    by_cases hc : c = 10
    · simp [hc]
    · rw [if_neg hc]
      simp [hc]
      cases s with
      | nil => simp [ln]
      | cons d s => have := ln_pos (d :: s) (by simp); simp; omega
  | c :: s, j + 1, h, hl => by
    unfold ln at hl ⊢
    by_cases hc : c = 10
    · rw [if_pos hc] at hl; omega
    · rw [if_neg hc] at hl ⊢
      have := ln_stop s j (by simpa using h) (by omega)
      simp
      exact this
theorem lines_len : ∀ (n : Nat) (s : Bs), s.length ≤ n → (lines s).length ≤ s.length
  | 0, s, h => by
    have : s = [] := List.eq_nil_of_length_eq_zero (by omega)
    subst this; exact Nat.le_refl _
  | n + 1, s, h => by
    by_cases h0 : s = []
    · subst h0; exact Nat.le_refl _
    · have h1 := ln_pos s h0
      have h2 := ln_le s
      have h3 := lines_len n (s.drop (ln s)) (by simp; omega)
      rw [lines_step s h0, List.length_cons]
      simp at h3
      omega
/-- One line of the document's fields. -/
def stepB (st : List (Bs × Bs) × Bool) (l : Bs) : List (Bs × Bs) × Bool :=
  if cont l then (if st.2 then (st.1.dropLast ++ [((st.1.getLastD ([], [])).1, (st.1.getLastD ([], [])).2 ++ l)], true) else st)
  else if nameB l = [] then (st.1, false) else (st.1 ++ [(nameB l, l)], true)
def blksR (s : Bs) : List (Bs × Bs) × Bool := (lines s).foldl stepB ([], false)
theorem cont_line (s : Bs) (h : s ≠ []) : cont (s.take (ln s)) = cont s := by
  have := ln_pos s h
  cases s with
  | nil => exact absurd rfl h
  | cons c s =>
    cases hk : ln (c :: s) with
    | zero => omega
    | succ k => rfl
theorem cont_noname {l : Bs} (h : cont l = true) : nameB l = [] := by
  cases l with
  | nil => rfl
  | cons c l =>
    have hc : c = 32 ∨ c = 9 := by simpa [cont] using h
    unfold nameB
    rw [if_neg]
    rintro ⟨_, h2⟩
    have hg : good c = false := by rcases hc with rfl | rfl <;> rfl
    have h3 : c ≠ 58 := by rcases hc with rfl | rfl <;> decide
    rw [List.takeWhile_cons, if_pos (by simp [h3]), List.all_cons, hg] at h2
    simp at h2
theorem blks_run : ∀ (n : Nat) (s : Bs), s.length ≤ n → (∀ out, ((lines s).foldl stepB (out, false)).1 = out ++ ents s) ∧ (∀ out nm b, ((lines s).foldl stepB (out ++ [(nm, b)], true)).1 = out ++ [(nm, b ++ s.take (more s))] ++ ents (s.drop (more s)))
  | 0, s, h => by
    have : s = [] := List.eq_nil_of_length_eq_zero (by omega)
    subst this
    exact ⟨fun out => by simp [lines_nil, ents_nil], fun out nm b => by simp [lines_nil, ents_nil]⟩
  | n + 1, s, h => by
    by_cases h0 : s = []
    · subst h0
      exact ⟨fun out => by simp [lines_nil, ents_nil], fun out nm b => by simp [lines_nil, ents_nil]⟩
    · have h1 := ln_pos s h0
      have h2 := ln_le s
      obtain ⟨i1, i2⟩ := blks_run n (s.drop (ln s)) (by simp; omega)
      rcases hc : cont s
      · have hcl : cont (s.take (ln s)) = false := by rw [cont_line s h0]; exact hc
        have key : ∀ out b, ((lines s).foldl stepB (out, b)).1 = out ++ ents s := by
          intro out b
          rw [lines_step s h0, List.foldl_cons, ents_step s h0]
          unfold stepB
          rw [hcl]
          by_cases hn : nameB (s.take (ln s)) = []
          · rw [if_neg (by simp), if_pos hn, if_pos hn]
            exact i1 out
          · rw [if_neg (by simp), if_neg hn, if_neg hn]
            have := i2 out (nameB (s.take (ln s))) (s.take (ln s))
            unfold stepB at this
            rw [this]
            have e1 : s.take (ln s) ++ (s.drop (ln s)).take (more (s.drop (ln s))) = s.take (fl s) := by rw [fl, List.take_add]
            have e2 : (s.drop (ln s)).drop (more (s.drop (ln s))) = s.drop (fl s) := by rw [fl, List.drop_drop]
            rw [e1, e2]
            simp
        refine ⟨fun out => key out false, fun out nm b => ?_⟩
        rw [key, more_no s hc]
        simp
      · have hcl : cont (s.take (ln s)) = true := by rw [cont_line s h0]; exact hc
        refine ⟨fun out => ?_, fun out nm b => ?_⟩
        · rw [lines_step s h0, List.foldl_cons, ents_step s h0, if_pos (cont_noname hcl)]
          have e : stepB (out, false) (s.take (ln s)) = (out, false) := by unfold stepB; rw [hcl]; rfl
          rw [e]
          exact i1 out
        · rw [lines_step s h0, List.foldl_cons, more_yes s hc]
          have e : stepB (out ++ [(nm, b)], true) (s.take (ln s)) = (out ++ [(nm, b ++ s.take (ln s))], true) := by
            unfold stepB
            rw [hcl]
            simp [List.getLastD_concat]
          rw [e, i2]
          have e1 : b ++ s.take (ln s) ++ (s.drop (ln s)).take (more (s.drop (ln s))) = b ++ s.take (ln s + more (s.drop (ln s))) := by rw [List.take_add, List.append_assoc]
          have e2 : (s.drop (ln s)).drop (more (s.drop (ln s))) = s.drop (ln s + more (s.drop (ln s))) := by rw [List.drop_drop]
          rw [e1, e2]
theorem blks_is (s : Bs) : (blksR s).1 = ents s := by
  have := (blks_run _ s (Nat.le_refl _)).1 []
  exact this
end Go.Proofs.YtemgpghjolpneaaGreatDoor
