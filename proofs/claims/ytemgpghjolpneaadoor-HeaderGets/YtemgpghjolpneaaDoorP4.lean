/- What this text holds: a message is its header and the rest; fields of what is told of fields. Plain facts. -/
import Derived.Test.YtemgpghjolpneaaDoorP1
namespace Go.Proofs.YtemgpghjolpneaaDoor
set_option linter.unusedVariables false
set_option linter.unusedSimpArgs false

/-- Whole lines. -/
def closed (p : Bs) : Prop := p = [] ∨ p.getLast? = some 10
theorem closed_nil : closed [] := .inl rfl
theorem last_drop (p : Bs) (k : Nat) (h : k < p.length) : (p.drop k).getLast? = p.getLast? := by
  rw [List.getLast?_drop, if_neg (by omega)]
theorem closed_drop {p : Bs} (h : closed p) (k : Nat) : closed (p.drop k) := by
  by_cases hk : k < p.length
  · rcases h with rfl | h
    · simp at hk
    · exact .inr (by rw [last_drop p k hk]; exact h)
  · exact .inl (List.drop_eq_nil_of_le (by omega))
theorem ln_take : ∀ (s : Bs) (m : Nat), ln s ≤ m → ln (s.take m) = ln s
  | [], m, _ => by simp
  | c :: s, 0, h => by have := ln_pos (c :: s) (by simp); omega
  | c :: s, m + 1, h => by
    rw [List.take_succ_cons]
    by_cases hc : c = 10
    · simp [ln, hc]
    · have e : ln (c :: s) = ln s + 1 := by rw [ln, if_neg hc]
      rw [e] at h ⊢
      rw [ln, if_neg hc, ln_take s m (by omega)]
theorem ln_app : ∀ (p r : Bs), closed p → p ≠ [] → ln (p ++ r) = ln p
  | [], r, h, h0 => absurd rfl h0
  | c :: p, r, h, h0 => by
    rw [List.cons_append, ln, ln]
    by_cases hc : c = 10
    · rw [if_pos hc, if_pos hc]
    · rw [if_neg hc, if_neg hc]
      have hp : p ≠ [] := by
        rintro rfl
        rcases h with h | h
        · simp at h
        · simp at h; exact hc h
      have hcl : closed p := by
        rcases h with h | h
        · simp at h
        · right
          rw [List.getLast?_cons] at h
          rw [List.getLast?_eq_some_getLast hp] at h ⊢
          simpa using h
      rw [ln_app p r hcl hp]
theorem line_end : ∀ s : Bs, ln s < s.length → (s.take (ln s)).getLast? = some 10
  | [], h => by simp at h
  | c :: s, h => by
    rw [ln] at h ⊢
    by_cases hc : c = 10
    · rw [if_pos hc]; simp [hc]
    · rw [if_neg hc] at h ⊢
      have h1 : ln s < s.length := by simpa using h
      have h2 := line_end s h1
      rw [List.take_succ_cons, List.getLast?_cons, h2]
      rfl
theorem line_closed {s : Bs} (hs : closed s) : closed (s.take (ln s)) := by
  by_cases h : ln s < s.length
  · exact .inr (line_end s h)
  · rw [List.take_of_length_le (by omega)]; exact hs
theorem closed_app {p q : Bs} (hp : closed p) (hq : closed q) : closed (p ++ q) := by
  rcases hq with rfl | hq
  · rw [List.append_nil]; exact hp
  · right
    rw [List.getLast?_append, hq]; rfl

theorem hdr_again : ∀ (n : Nat) (s : Bs), s.length ≤ n → hdr (s.take (hdr s)) = hdr s
  | 0, s, h => by
    have : s = [] := List.eq_nil_of_length_eq_zero (by omega)
    subst this; rfl
  | n + 1, s, h => by
    by_cases h0 : s = []
    · subst h0; rfl
    · have h1 := ln_pos s h0
      have h2 := ln_le s
      have hst := hdr_step s h0
      rcases he : emp (s.take (ln s))
      · rw [if_neg (by simp [he])] at hst
        have ih := hdr_again n (s.drop (ln s)) (by simp; omega)
        have e0 : s.take (hdr s) ≠ [] := by
          intro e
          have := congrArg List.length e
          simp at this
          rcases this with h | h
          · omega
          · exact h0 h
        have e1 : ln (s.take (hdr s)) = ln s := ln_take s _ (by omega)
        have e2 : (s.take (hdr s)).take (ln s) = s.take (ln s) := by rw [List.take_take, Nat.min_eq_left (by omega)]
        have e3 : (s.take (hdr s)).drop (ln s) = (s.drop (ln s)).take (hdr (s.drop (ln s))) := by rw [hst, List.drop_take]; congr 1; omega
        rw [hdr_step _ e0, e1, e2, if_neg (by simp [he]), e3, ih]
        exact hst.symm
      · rw [if_pos he] at hst
        have e1 : ln (s.take (ln s)) = ln s := ln_take s _ (Nat.le_refl _)
        have e0 : s.take (ln s) ≠ [] := by
          intro e
          have := congrArg List.length e
          simp at this
          rcases this with h | h
          · omega
          · exact h0 h
        rw [hst, hdr_step _ e0, e1, List.take_take, Nat.min_self, if_pos he]
theorem hdr_pos (s : Bs) (h : s ≠ []) : 0 < hdr s := by
  have := ln_pos s h
  rw [hdr_step s h]
  split <;> omega
theorem hdr_ends : ∀ (n : Nat) (s : Bs), s.length ≤ n → hdr s < s.length → ∃ p e, s.take (hdr s) = p ++ e ∧ closed p ∧ emp e = true
  | 0, s, h, hl => by omega
  | n + 1, s, h, hl => by
    by_cases h0 : s = []
    · subst h0; simp at hl
    · have h1 := ln_pos s h0
      have h2 := ln_le s
      have hst := hdr_step s h0
      rcases he : emp (s.take (ln s))
      · rw [if_neg (by simp [he])] at hst
        obtain ⟨p, e, hp, hc, hem⟩ := hdr_ends n (s.drop (ln s)) (by simp; omega) (by simp; omega)
        refine ⟨s.take (ln s) ++ p, e, ?_, ?_, hem⟩
        · rw [hst, List.take_add, hp, List.append_assoc]
        · exact closed_app (.inr (line_end s (by omega))) hc
      · rw [if_pos he] at hst
        exact ⟨[], s.take (ln s), by rw [hst]; rfl, closed_nil, he⟩

theorem more_app : ∀ (n : Nat) (p r : Bs), p.length ≤ n → closed p → cont r = false → more (p ++ r) = more p
  | 0, p, r, h, hc, hr => by
    have : p = [] := List.eq_nil_of_length_eq_zero (by omega)
    subst this
    rw [List.nil_append, more_no r hr]; rfl
  | n + 1, p, r, h, hc, hr => by
    cases p with
    | nil => rw [List.nil_append, more_no r hr]; rfl
    | cons c p =>
      rcases hcn : cont (c :: p)
      · rw [more_no _ hcn, more_no (c :: p ++ r) (by exact hcn)]
      · have h1 := ln_pos (c :: p) (by simp)
        have h2 := ln_le (c :: p)
        rw [more_yes _ hcn, more_yes (c :: p ++ r) (by exact hcn), ln_app _ r hc (by simp), List.drop_append_of_le_length h2, more_app n ((c :: p).drop (ln (c :: p))) r (by simp at h ⊢; omega) (closed_drop hc _) hr]
theorem fl_app (p r : Bs) (hc : closed p) (h0 : p ≠ []) (hr : cont r = false) : fl (p ++ r) = fl p := by
  unfold fl
  rw [ln_app p r hc h0, List.drop_append_of_le_length (ln_le p), more_app _ _ r (Nat.le_refl _) (closed_drop hc _) hr]
/-- Fields of whole lines and of what begins no field that goes on. -/
theorem ents_app : ∀ (n : Nat) (p r : Bs), p.length ≤ n → closed p → cont r = false → ents (p ++ r) = ents p ++ ents r
  | 0, p, r, h, hc, hr => by
    have : p = [] := List.eq_nil_of_length_eq_zero (by omega)
    subst this; rfl
  | n + 1, p, r, h, hc, hr => by
    by_cases h0 : p = []
    · subst h0; rfl
    · have h1 := ln_pos p h0
      have h2 := ln_le p
      have h3 := fl_pos p h0
      have h4 := fl_le p
      have hpr : p ++ r ≠ [] := by simp [h0]
      rw [ents_step _ hpr, ents_step p h0, ln_app p r hc h0, fl_app p r hc h0 hr, List.take_append_of_le_length h2, List.take_append_of_le_length h4, List.drop_append_of_le_length h2, List.drop_append_of_le_length h4,
        ents_app n (p.drop (ln p)) r (by simp; omega) (closed_drop hc _) hr, ents_app n (p.drop (fl p)) r (by simp; omega) (closed_drop hc _) hr]
      split <;> rfl
theorem ents_crlf : ents [13, 10] = [] := by decide +kernel
theorem fields_bare {h p e : Bs} (hh : h = p ++ e) (hc : closed p) (he : emp e = true) (h2 : (h.drop (h.length - 2) = [13, 10])) (hl : 2 ≤ h.length) : fieldsP h = fieldsP (h.take (h.length - 2)) := by
  have : e = [10] ∨ e = [13, 10] := by simpa [emp] using he
  rcases this with rfl | rfl
  · exfalso
    subst hh
    rcases hc with rfl | hc
    · simp at hl
    · have hp : p ≠ [] := by rintro rfl; simp at hc
      have h3 : (p ++ [10]).drop ((p ++ [10]).length - 2) = [10, 10] := by
        have e := List.dropLast_concat_getLast hp
        rw [List.getLast?_eq_some_getLast hp] at hc
        rw [Option.some.inj hc] at e
        rw [← e]
        have : (p.dropLast ++ [10] ++ [10]).length - 2 = p.dropLast.length := by simp
        rw [this, List.append_assoc, List.drop_left]
        rfl
      rw [h3] at h2
      exact absurd h2 (by decide)
  · subst hh
    have e1 : (p ++ [13, 10]).take ((p ++ [13, 10]).length - 2) = p := by simp
    rw [e1]
    unfold fieldsP
    rw [ents_app _ p [13, 10] (Nat.le_refl _) hc rfl, ents_crlf, List.append_nil]
theorem emp_last {h p e : Bs} (hh : h = p ++ e) (he : emp e = true) : h.getLast? = some 10 := by
  have : e = [10] ∨ e = [13, 10] := by simpa [emp] using he
  rcases this with rfl | rfl <;> subst hh <;> simp

/-- The lines of all fields. -/
def blk (s : Bs) : Bs := (ents s).flatMap fun e => e.2
theorem good_first {l : Bs} (h : nameB l ≠ []) : cont l = false := by
  cases l with
  | nil => rfl
  | cons c l =>
    unfold nameB at h
    split at h
    · rename_i hh
      by_cases hc : c = 58
      · subst hc; rfl
      · have hg : good c = true := by
          have := hh.2
          rw [List.takeWhile_cons, if_pos (by simp [hc])] at this
          exact (List.all_eq_true.1 this) c (List.mem_cons_self)
        unfold good at hg
        simp at hg
        show (c == 32 || c == 9) = false
        have n1 : c ≠ 32 := by rintro rfl; simp at hg
        have n2 : c ≠ 9 := by rintro rfl; simp at hg
        simp [n1, n2]
    · exact absurd rfl h
theorem cont_take {s : Bs} {k : Nat} (hk : 0 < k) (r : Bs) (hs : s ≠ []) : cont (s.take k ++ r) = cont s := by
  cases s with
  | nil => exact absurd rfl hs
  | cons c s =>
    cases k with
    | zero => omega
    | succ k => rfl
theorem cont_take0 {s : Bs} {k : Nat} (hk : 0 < k) : cont (s.take k) = cont s := by
  cases s with
  | nil => simp
  | cons c s =>
    cases k with
    | zero => omega
    | succ k => rfl
theorem blk_cont : ∀ (n : Nat) (s r : Bs), s.length ≤ n → cont r = false → cont (blk s ++ r) = false
  | 0, s, r, h, hr => by
    have : s = [] := List.eq_nil_of_length_eq_zero (by omega)
    subst this; exact hr
  | n + 1, s, r, h, hr => by
    by_cases h0 : s = []
    · subst h0; exact hr
    · have h1 := ln_pos s h0
      have h2 := ln_le s
      have h3 := fl_pos s h0
      unfold blk
      rw [ents_step s h0]
      by_cases hn : nameB (s.take (ln s)) = []
      · rw [if_pos hn]
        exact blk_cont n (s.drop (ln s)) r (by simp; omega) hr
      · rw [if_neg hn, List.flatMap_cons, List.append_assoc, cont_take h3 _ h0]
        have := good_first hn
        rw [cont_take0 h1] at this
        exact this
theorem fl_closed {s : Bs} (hs : closed s) : ∀ (n : Nat) (q : Bs), q.length ≤ n → closed q → closed (q.take (more q))
  | 0, q, h, hc => by
    have : q = [] := List.eq_nil_of_length_eq_zero (by omega)
    subst this; exact closed_nil
  | n + 1, q, h, hc => by
    rcases hcn : cont q
    · rw [more_no q hcn]; exact closed_nil
    · have h1 := ln_pos q (cont_ne hcn)
      have h2 := ln_le q
      rw [more_yes q hcn, List.take_add]
      exact closed_app (line_closed hc) (fl_closed hs n (q.drop (ln q)) (by simp; omega) (closed_drop hc _))
theorem field_closed {s : Bs} (hs : closed s) : closed (s.take (fl s)) := by
  unfold fl
  rw [List.take_add]
  exact closed_app (line_closed hs) (fl_closed hs _ _ (Nat.le_refl _) (closed_drop hs _))
theorem more_take : ∀ (n : Nat) (q : Bs), q.length ≤ n → more (q.take (more q)) = more q
  | 0, q, h => by
    have : q = [] := List.eq_nil_of_length_eq_zero (by omega)
    subst this; rfl
  | n + 1, q, h => by
    rcases hcn : cont q
    · rw [more_no q hcn]; rfl
    · have h1 := ln_pos q (cont_ne hcn)
      have h2 := ln_le q
      have hm := more_yes q hcn
      have ih := more_take n (q.drop (ln q)) (by simp; omega)
      have e1 : ln (q.take (more q)) = ln q := ln_take q _ (by omega)
      have e2 : (q.take (more q)).drop (ln q) = (q.drop (ln q)).take (more (q.drop (ln q))) := by rw [hm, List.drop_take]; congr 1; omega
      rw [more_yes (q.take (more q)) (by rw [cont_take0 (by omega)]; exact hcn), e1, e2, ih, ← hm]
theorem field_alone {s : Bs} (hs : closed s) (h0 : s ≠ []) (hn : nameB (s.take (ln s)) ≠ []) : ents (s.take (fl s)) = [(nameB (s.take (ln s)), s.take (fl s))] := by
  have h1 := ln_pos s h0
  have h2 := ln_le s
  have h3 := fl_pos s h0
  have h4 := fl_le s
  have hfl : fl s = ln s + more (s.drop (ln s)) := rfl
  have e0 : s.take (fl s) ≠ [] := by
    intro e
    have := congrArg List.length e
    simp at this
    rcases this with h | h
    · omega
    · exact h0 h
  have e1 : ln (s.take (fl s)) = ln s := ln_take s _ (by omega)
  have e2 : (s.take (fl s)).take (ln s) = s.take (ln s) := by rw [List.take_take, Nat.min_eq_left (by omega)]
  have e3 : (s.take (fl s)).drop (ln s) = (s.drop (ln s)).take (more (s.drop (ln s))) := by rw [hfl, List.drop_take]; congr 1; omega
  have e4 : fl (s.take (fl s)) = fl s := by
    rw [fl, e1, e3, more_take _ _ (Nat.le_refl _)]; rfl
  rw [ents_step _ e0, e1, e2, if_neg hn, e4, List.take_take, Nat.min_self, List.drop_take, Nat.sub_self, List.take_zero]
  rfl
theorem ents_blk : ∀ (n : Nat) (s r : Bs), s.length ≤ n → closed s → cont r = false → ents (blk s ++ r) = ents s ++ ents r
  | 0, s, r, h, hc, hr => by
    have : s = [] := List.eq_nil_of_length_eq_zero (by omega)
    subst this; rfl
  | n + 1, s, r, h, hc, hr => by
    by_cases h0 : s = []
    · subst h0; rfl
    · have h1 := ln_pos s h0
      have h2 := ln_le s
      have h3 := fl_pos s h0
      unfold blk
      rw [ents_step s h0]
      by_cases hn : nameB (s.take (ln s)) = []
      · rw [if_pos hn]
        exact ents_blk n (s.drop (ln s)) r (by simp; omega) (closed_drop hc _) hr
      · rw [if_neg hn, List.flatMap_cons, List.append_assoc]
        have ih := ents_blk n (s.drop (fl s)) r (by simp; omega) (closed_drop hc _) hr
        have hct := blk_cont _ (s.drop (fl s)) r (Nat.le_refl _) hr
        unfold blk at ih hct
        rw [ents_app _ (s.take (fl s)) _ (Nat.le_refl _) (field_closed hc) hct, field_alone hc h0 hn, ih]
        rfl
theorem only_all (s : Bs) : onlyP s true [] = blk s ++ [13, 10] := by
  unfold onlyP blk
  rw [List.filter_eq_self.2 (fun e _ => by simp [amongP])]
theorem only_none (s : Bs) : onlyP s false [] = [13, 10] := by
  unfold onlyP
  rw [List.filter_eq_nil_iff.2 (fun e _ => by simp [amongP])]
  rfl
theorem only_again {s : Bs} (hs : closed s) : onlyP (onlyP s true []) true [] = onlyP s true [] := by
  rw [only_all, only_all]
  unfold blk
  have := ents_blk _ s [13, 10] (Nat.le_refl _) hs rfl
  unfold blk at this
  rw [this, ents_crlf, List.append_nil]
theorem part_len (L : List (Bs × Bs)) (f : Bs × Bs → Bool) : (L.flatMap fun e => e.2).length = ((L.filter fun e => f e != false).flatMap fun e => e.2).length + ((L.filter fun e => f e != true).flatMap fun e => e.2).length := by
  induction L with
  | nil => rfl
  | cons e L ih =>
    rcases h : f e <;> simp [h, List.flatMap_cons] at ih ⊢ <;> omega
theorem only_lens (s : Bs) (names : List Bs) : (onlyP s true []).length + 2 = (onlyP s false names).length + (onlyP s true names).length := by
  rw [only_all]
  unfold onlyP blk
  have := part_len (ents s) (fun e => amongP e.1 names)
  simp only [List.length_append, List.length_cons, List.length_nil]
  omega
end Go.Proofs.YtemgpghjolpneaaDoor
