/- What this text holds: the document's fields, with their lines. -/
import Derived.Test.YtemgpghjolpneaaGreatDoorR2
namespace Go.Proofs.YtemgpghjolpneaaGreatDoor
open Go.RowKit
set_option linter.unusedVariables false
set_option linter.unusedSimpArgs false

theorem Tryz.info53 : (Tryz.prog.info? 53).map (fun i => (i.zero, i.size, i.bytes)) = some (some (.agg #[.string ⟨#[]⟩, .string ⟨#[]⟩]), 2, 32) := by kernel_rfl
theorem rc_cons (e : Bs × Bs) (l : List (Bs × Bs)) : rc ((e :: l).map fR) = .string (str e.1) :: .string (str e.2) :: rc (l.map fR) := by
  unfold rc fR
  simp
theorem rc_set : ∀ (l : List (Bs × Bs)) (k : Nat) (hk : k < l.length) (x : Bs), rc ((l.set k (l[k].1, x)).map fR) = (rc (l.map fR)).set (k * 2 + 1) (.string (str x))
  | [], k, hk, x => by simp at hk
  | e :: l, 0, hk, x => by
    rw [List.set_cons_zero, rc_cons, rc_cons]
    rfl
  | e :: l, k + 1, hk, x => by
    have := rc_set l k (by simpa using hk) x
    rw [List.set_cons_succ, rc_cons, rc_cons, List.getElem_cons_succ, this, show (k + 1) * 2 + 1 = k * 2 + 1 + 1 + 1 by omega]
    rfl
/-- A string of a record of one's own is written anew. -/
theorem ro_set {w : World} {B T g n c : Nat} {l : List (Bs × Bs)} (h : RO w B T 2 (.slice (some ⟨g, 0, none⟩) n c) (l.map fR)) (hn : l.length = n) (k : Nat) (hk : k < l.length) (x : Bs) :
    w.cell? ⟨g, k * 2 + 1, none⟩ = some (.string (str l[k].2)) ∧ w.frozen? ⟨g, k * 2 + 1, none⟩ = false ∧ RO (w.setCell ⟨g, k * 2 + 1, none⟩ (.string (str x))) B T 2 (.slice (some ⟨g, 0, none⟩) n c) ((l.set k (l[k].1, x)).map fR) ∧ B ≤ g := by
  have hra := h.ra (by intro e; have h9 := congrArg List.length e; rw [List.length_map, List.length_nil] at h9; omega)
  have hcell := hra.rec k (fR l[k]) (by rw [List.getElem?_map, List.getElem?_eq_getElem hk]; rfl) 1 _ rfl
  rw [Nat.zero_add] at hcell
  have hst := h.2
  rw [List.length_map, hn] at hst
  have hlen : ((l.set k (l[k].1, x)).map fR).length = n := by simp [hn]
  refine ⟨hcell, World.ownsRow.frozenAt hst _, ⟨?_, ?_⟩, ?_⟩
  · intro r hr
    obtain ⟨e, _, rfl⟩ := List.mem_map.1 hr
    rfl
  · rw [hlen]
    have h2 := World.ownsRow.stored hst (k * 2 + 1) (.string (str x))
    rw [rc_set l k hk x]
    exact h2.1
  · rcases hst.2 with ⟨e, _⟩ | ⟨g', cap, cur, e, hB, _⟩
    · cases e
    · cases e; exact hB

theorem lines_flat : ∀ (n : Nat) (s : Bs), s.length ≤ n → (lines s).flatten = s
  | 0, s, h => by
    have : s = [] := List.eq_nil_of_length_eq_zero (by omega)
    subst this; rfl
  | n + 1, s, h => by
    by_cases h0 : s = []
    · subst h0; rfl
    · have h1 := ln_pos s h0
      have h2 := ln_le s
      rw [lines_step s h0, List.flatten_cons, lines_flat n (s.drop (ln s)) (by simp; omega), List.take_append_drop]
theorem lines_ne : ∀ (n : Nat) (s : Bs), s.length ≤ n → ∀ l ∈ lines s, l ≠ []
  | 0, s, h => by
    have : s = [] := List.eq_nil_of_length_eq_zero (by omega)
    subst this; simp [lines_nil]
  | n + 1, s, h => by
    by_cases h0 : s = []
    · subst h0; simp [lines_nil]
    · have h1 := ln_pos s h0
      have h2 := ln_le s
      rw [lines_step s h0]
      intro l hl
      rcases List.mem_cons.1 hl with rfl | hl
      · intro e
        have := congrArg List.length e
        simp at this
        rcases this with h | h
        · omega
        · exact h0 h
      · exact lines_ne n (s.drop (ln s)) (by simp; omega) l hl
def bst (s : Bs) (k : Nat) : List (Bs × Bs) × Bool := ((lines s).take k).foldl stepB ([], false)
theorem bst_next (s : Bs) (k : Nat) (hk : k < (lines s).length) : bst s (k + 1) = stepB (bst s k) (lines s)[k] := by
  unfold bst
  rw [List.take_succ_eq_append_getElem hk, List.foldl_append]
  rfl
theorem bst_all (s : Bs) : (bst s (lines s).length).1 = ents s := by
  unfold bst
  rw [List.take_length]
  exact blks_is s
theorem step_facts (st : List (Bs × Bs) × Bool) (l : Bs) (N M : Nat) (h1 : st.2 = true → st.1 ≠ []) (h2 : ∀ e ∈ st.1, e.2.length ≤ N) (h3 : st.1.length ≤ M) :
    ((stepB st l).2 = true → (stepB st l).1 ≠ []) ∧ (∀ e ∈ (stepB st l).1, e.2.length ≤ N + l.length) ∧ (stepB st l).1.length ≤ M + 1 := by
  unfold stepB
  split
  · split
    · rename_i hc ho
      have hne := h1 ho
      refine ⟨fun _ => by simp, ?_, ?_⟩
      · intro e he
        rcases List.mem_append.1 he with he | he
        · have := h2 e (List.dropLast_subset _ he); omega
        · rw [List.mem_singleton] at he
          subst he
          have : st.1.getLastD ([], []) ∈ st.1 := by
            rw [List.getLastD_eq_getLast?, List.getLast?_eq_some_getLast hne]
            exact List.getLast_mem hne
          have := h2 _ this
          simp only [List.length_append]
          omega
      · simp; omega
    · exact ⟨h1, fun e he => by have := h2 e he; omega, by omega⟩
  · split
    · exact ⟨(fun h => nomatch h), fun e he => by have := h2 e he; omega, by simp; omega⟩
    · refine ⟨fun _ => by simp, ?_, by simp; omega⟩
      intro e he
      rcases List.mem_append.1 he with he | he
      · have := h2 e he; omega
      · rw [List.mem_singleton] at he
        subst he
        simp
theorem bst_facts (s : Bs) : ∀ k, k ≤ (lines s).length → ((bst s k).2 = true → (bst s k).1 ≠ []) ∧ (∀ e ∈ (bst s k).1, e.2.length ≤ ((lines s).take k).flatten.length) ∧ (bst s k).1.length ≤ k
  | 0, _ => ⟨(fun h => nomatch h), by simp [bst], by simp [bst]⟩
  | k + 1, h => by
    obtain ⟨h1, h2, h3⟩ := bst_facts s k (by omega)
    have := step_facts (bst s k) (lines s)[k] _ k h1 h2 h3
    rw [← bst_next s k (by omega)] at this
    refine ⟨this.1, fun e he => ?_, this.2.2⟩
    have h4 := this.2.1 e he
    rw [List.take_succ_eq_append_getElem (by omega : k < (lines s).length), List.flatten_append, List.length_append]
    simpa using h4
theorem bst_len (s : Bs) (k : Nat) (hk : k ≤ (lines s).length) : ∀ e ∈ (bst s k).1, e.2.length ≤ s.length := by
  intro e he
  have h1 := (bst_facts s k hk).2.1 e he
  have h2 : ((lines s).take k).flatten.length ≤ (lines s).flatten.length := by
    have := congrArg List.flatten (List.take_append_drop k (lines s))
    rw [List.flatten_append] at this
    have := congrArg List.length this
    rw [List.length_append] at this
    omega
  rw [lines_flat _ s (Nat.le_refl _)] at h2
  omega
theorem line_le (s : Bs) (k : Nat) (hk : k < (lines s).length) : (lines s)[k].length ≤ s.length := by
  have h1 : (lines s)[k].length ≤ (lines s).flatten.length := by
    have hm := List.getElem_mem hk
    generalize (lines s)[k] = x at *
    generalize lines s = L at *
    induction L with
    | nil => simp at hm
    | cons y L ih =>
      rw [List.flatten_cons, List.length_append]
      rcases List.mem_cons.1 hm with rfl | hm
      · omega
      · rcases Nat.lt_or_ge k L.length with h | h
        · have := ih h hm; omega
        · have : x.length ≤ L.flatten.length := by
            clear ih hk
            induction L with
            | nil => simp at hm
            | cons z L ih2 =>
              rw [List.flatten_cons, List.length_append]
              rcases List.mem_cons.1 hm with rfl | hm2
              · omega
              · have := ih2 (List.mem_cons_of_mem _ hm2) hm2 (by simp at h; omega); omega
          omega
  rw [lines_flat _ s (Nat.le_refl _)] at h1
  exact h1
end Go.Proofs.YtemgpghjolpneaaGreatDoor
