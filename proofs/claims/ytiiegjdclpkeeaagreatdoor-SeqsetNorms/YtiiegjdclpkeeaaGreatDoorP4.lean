/- What this text holds: plain facts of the document's way to the one way of a set. -/
import Derived.Test.YtiiegjdclpkeeaaGreatDoorP1
namespace Go.Proofs.YtiiegjdclpkeeaaGreatDoor
set_option linter.unusedVariables false
set_option linter.unusedSimpArgs false

/-- The greatest number that a span covers, up to mx; 0: none. -/
def endD (s : Sp) (most : Int) : Int := if rchB s most then min (rchA s most).2 mx else 0
def leastD (s : Sp) (most at_ : Int) : Int := if endD s most ≤ at_ then 0 else if mx < (rchA s most).1 then 0 else if (rchA s most).1 ≤ at_ then at_ + 1 else (rchA s most).1
theorem cov_iff (s : Sp) (n most : Int) (hn : 1 ≤ n) : covB s n most = true ↔ rchB s most = true ∧ (rchA s most).1 ≤ n ∧ n ≤ (rchA s most).2 := by
  have h := rch_cov s n most
  rw [show decide (1 ≤ n) = true by simpa using hn, Bool.true_and] at h
  rw [← h]
  simp [inS]
theorem endD_le (s : Sp) (most : Int) : endD s most ≤ mx := by
  unfold endD; split
  · omega
  · unfold mx; omega
theorem least_cases (s : Sp) (most at_ : Int) (h0 : 0 ≤ at_) :
    (leastD s most at_ = 0 ∧ ∀ n, at_ < n → n ≤ mx → covB s n most = false) ∨
    (at_ < leastD s most at_ ∧ leastD s most at_ ≤ mx ∧ covB s (leastD s most at_) most = true ∧ (∀ n, at_ < n → n < leastD s most at_ → covB s n most = false) ∧ (leastD s most at_ = at_ + 1 ∨ leastD s most at_ = (rchA s most).1)) := by
  unfold leastD endD
  by_cases hr : rchB s most = true
  · rw [if_pos hr]
    have ho := rch_ok s most hr
    have key : ∀ n, at_ < n → covB s n most = true → (rchA s most).1 ≤ n ∧ n ≤ (rchA s most).2 := fun n h1 h2 => ((cov_iff s n most (by omega)).1 h2).2
    have no : ∀ n, at_ < n → ¬ ((rchA s most).1 ≤ n ∧ n ≤ (rchA s most).2) → covB s n most = false := fun n h1 h2 => by
      rcases h : covB s n most with _ | _
      · rfl
      · exact absurd (key n h1 h) h2
    have yes : ∀ n, at_ < n → ((rchA s most).1 ≤ n ∧ n ≤ (rchA s most).2) → covB s n most = true := fun n h1 h2 => (cov_iff s n most (by omega)).2 ⟨hr, h2⟩
    generalize (rchA s most).1 = A at *
    generalize (rchA s most).2 = C at *
    by_cases h1 : min C mx ≤ at_
    · rw [if_pos h1]
      exact .inl ⟨rfl, fun n h2 h3 => no n h2 (by omega)⟩
    · rw [if_neg h1]
      by_cases h2 : mx < A
      · rw [if_pos h2]
        exact .inl ⟨rfl, fun n h3 h4 => no n h3 (by omega)⟩
      · rw [if_neg h2]
        by_cases h3 : A ≤ at_
        · rw [if_pos h3]
          exact .inr ⟨by omega, by omega, yes _ (by omega) (by omega), fun n h4 h5 => by omega, .inl rfl⟩
        · rw [if_neg h3]
          exact .inr ⟨by omega, by omega, yes _ (by omega) (by omega), fun n h4 h5 => no n h4 (by omega), .inr rfl⟩
  · rw [if_neg hr, if_pos h0]
    refine .inl ⟨rfl, fun n h1 h2 => ?_⟩
    rcases h : covB s n most with _ | _
    · rfl
    · exact absurd ((cov_iff s n most (by omega)).1 h).1 hr
/-- What is covered, up to mx. -/
def Xs (l : List Sp) (most n : Int) : Prop := 1 ≤ n ∧ n ≤ mx ∧ ∃ s ∈ l, covB s n most = true
theorem xs_has (l : List Sp) (most n : Int) : Xs l most n ↔ n ≤ mx ∧ hasB l n most = true := by
  unfold Xs hasB
  rw [List.any_eq_true]
  constructor
  · rintro ⟨h1, h2, s, hs, h3⟩
    exact ⟨h2, s, hs, by simp [h1, h3]⟩
  · rintro ⟨h2, s, hs, h3⟩
    simp at h3
    exact ⟨h3.1, h2, s, hs, h3.2⟩
/-- What the first loop has: the least number above at_ that some of the spans cover. -/
def LInv (l : List Sp) (most at_ lo : Int) : Prop := (lo = -1 ∧ ∀ n, at_ < n → ¬ Xs l most n) ∨ (at_ < lo ∧ Xs l most lo ∧ (∀ n, at_ < n → n < lo → ¬ Xs l most n) ∧ (lo = at_ + 1 ∨ ∃ s ∈ l, lo = (rchA s most).1))
theorem xs_snoc (l : List Sp) (s : Sp) (most n : Int) : Xs (l ++ [s]) most n ↔ Xs l most n ∨ (1 ≤ n ∧ n ≤ mx ∧ covB s n most = true) := by
  unfold Xs
  constructor
  · rintro ⟨h1, h2, t, ht, h3⟩
    rcases List.mem_append.1 ht with ht | ht
    · exact .inl ⟨h1, h2, t, ht, h3⟩
    · rw [List.mem_singleton] at ht; subst ht; exact .inr ⟨h1, h2, h3⟩
  · rintro (⟨h1, h2, t, ht, h3⟩ | ⟨h1, h2, h3⟩)
    · exact ⟨h1, h2, t, by simp [ht], h3⟩
    · exact ⟨h1, h2, s, by simp, h3⟩
/-- One round of the first loop. -/
def loStep (lo x : Int) : Int := if 0 < x ∧ (lo < 0 ∨ x < lo) then x else lo
theorem linv_step {l : List Sp} {most at_ lo : Int} (h0 : 0 ≤ at_) (h : LInv l most at_ lo) (s : Sp) : LInv (l ++ [s]) most at_ (loStep lo (leastD s most at_)) := by
  unfold loStep
  rcases least_cases s most at_ h0 with ⟨e, hn⟩ | ⟨h1, h2, h3, h4, h5⟩
  · rw [e, if_neg (by omega)]
    rcases h with ⟨e1, h6⟩ | ⟨h6, h7, h8, h9⟩
    · refine .inl ⟨e1, fun n hn1 hx => ?_⟩
      rcases (xs_snoc _ _ _ _).1 hx with hx | ⟨_, hx2, hx3⟩
      · exact h6 n hn1 hx
      · rw [hn n hn1 hx2] at hx3; simp at hx3
    · refine .inr ⟨h6, (xs_snoc _ _ _ _).2 (.inl h7), fun n hn1 hn2 hx => ?_, ?_⟩
      · rcases (xs_snoc _ _ _ _).1 hx with hx | ⟨_, hx2, hx3⟩
        · exact h8 n hn1 hn2 hx
        · rw [hn n hn1 hx2] at hx3; simp at hx3
      · rcases h9 with h9 | ⟨t, ht, h9⟩
        · exact .inl h9
        · exact .inr ⟨t, by simp [ht], h9⟩
  · generalize leastD s most at_ = x at *
    have hX : Xs (l ++ [s]) most x := (xs_snoc _ _ _ _).2 (.inr ⟨by omega, h2, h3⟩)
    have hR : x = at_ + 1 ∨ ∃ t ∈ l ++ [s], x = (rchA t most).1 := by
      rcases h5 with h5 | h5
      · exact .inl h5
      · exact .inr ⟨s, by simp, h5⟩
    rcases h with ⟨e1, h6⟩ | ⟨h6, h7, h8, h9⟩
    · rw [if_pos (by omega)]
      refine .inr ⟨h1, hX, fun n hn1 hn2 hx => ?_, hR⟩
      rcases (xs_snoc _ _ _ _).1 hx with hx | ⟨_, hx2, hx3⟩
      · exact h6 n hn1 hx
      · rw [h4 n hn1 hn2] at hx3; simp at hx3
    · by_cases hlt : x < lo
      · rw [if_pos (by omega)]
        refine .inr ⟨h1, hX, fun n hn1 hn2 hx => ?_, hR⟩
        rcases (xs_snoc _ _ _ _).1 hx with hx | ⟨_, hx2, hx3⟩
        · exact h8 n hn1 (by omega) hx
        · rw [h4 n hn1 hn2] at hx3; simp at hx3
      · rw [if_neg (by omega)]
        refine .inr ⟨h6, (xs_snoc _ _ _ _).2 (.inl h7), fun n hn1 hn2 hx => ?_, ?_⟩
        · rcases (xs_snoc _ _ _ _).1 hx with hx | ⟨_, hx2, hx3⟩
          · exact h8 n hn1 hn2 hx
          · rw [h4 n hn1 (by omega)] at hx3; simp at hx3
        · rcases h9 with h9 | ⟨t, ht, h9⟩
          · exact .inl h9
          · exact .inr ⟨t, by simp [ht], h9⟩
/-- All from lo to hi are covered. -/
def All (l : List Sp) (most lo hi : Int) : Prop := lo ≤ hi ∧ hi ≤ mx ∧ ∀ n, lo ≤ n → n ≤ hi → Xs l most n
def growB (s : Sp) (most hi : Int) : Bool := decide (hi < endD s most) && (covB s hi most || covB s (hi + 1) most)
theorem all_grow {l : List Sp} {most lo hi : Int} (h1 : 1 ≤ lo) (h : All l most lo hi) {s : Sp} (hs : s ∈ l) (hg : growB s most hi = true) : hi < endD s most ∧ All l most lo (endD s most) := by
  obtain ⟨a1, a2, a3⟩ := h
  unfold growB at hg
  simp only [Bool.and_eq_true, decide_eq_true_eq, Bool.or_eq_true] at hg
  obtain ⟨g1, g2⟩ := hg
  have hr : rchB s most = true ∧ (rchA s most).1 ≤ hi + 1 := by
    rcases g2 with g2 | g2
    · have := (cov_iff s hi most (by omega)).1 g2; exact ⟨this.1, by omega⟩
    · have := (cov_iff s (hi + 1) most (by omega)).1 g2; exact ⟨this.1, by omega⟩
  refine ⟨g1, by omega, endD_le s most, fun n n1 n2 => ?_⟩
  by_cases hn : n ≤ hi
  · exact a3 n n1 hn
  · have he : endD s most = min (rchA s most).2 mx := by unfold endD; rw [if_pos hr.1]
    exact ⟨by omega, by omega, s, hs, (cov_iff s n most (by omega)).2 ⟨hr.1, by omega, by omega⟩⟩
theorem grown_no {l : List Sp} {most lo hi : Int} (h1 : 1 ≤ lo) (h : All l most lo hi) (hn : ∀ s ∈ l, growB s most hi = false) : ¬ Xs l most (hi + 1) := by
  rintro ⟨x1, x2, s, hs, hc⟩
  have := hn s hs
  have hc2 := (cov_iff s (hi + 1) most x1).1 hc
  have he : endD s most = min (rchA s most).2 mx := by unfold endD; rw [if_pos hc2.1]
  unfold growB at this
  rw [hc, Bool.or_true, Bool.and_true] at this
  simp at this
  omega
/-- What the outer loop has: all up to at_ is told. -/
def NInv (l : List Sp) (most at_ : Int) (out : List Sp) : Prop := Rise out ∧ (∀ n, memS out n ↔ Xs l most n ∧ n ≤ at_) ∧ 0 ≤ at_ ∧ at_ ≤ mx ∧ (at_ = 0 ∨ ¬ Xs l most (at_ + 1)) ∧ out.length ≤ l.countP (fun s => decide ((rchA s most).1 ≤ at_))
theorem ninv_0 (l : List Sp) (most : Int) : NInv l most 0 [] := ⟨trivial, fun n => by
  constructor
  · intro h; exact absurd h (memS_nil n)
  · rintro ⟨⟨h1, _⟩, h2⟩; omega, by omega, by unfold mx; omega, .inl rfl, by simp⟩
theorem count_more {l : List Sp} {p q : Sp → Bool} (h : ∀ x, p x = true → q x = true) (hx : ∃ x ∈ l, q x = true ∧ p x = false) : l.countP p + 1 ≤ l.countP q := by
  induction l with
  | nil => obtain ⟨x, hx, _⟩ := hx; simp at hx
  | cons a l ih =>
    by_cases hp : p a = true
    · rw [List.countP_cons_of_pos hp, List.countP_cons_of_pos (h a hp)]
      have := ih (by
        obtain ⟨x, hx, h1, h2⟩ := hx
        rcases List.mem_cons.1 hx with rfl | hx
        · rw [hp] at h2; simp at h2
        · exact ⟨x, hx, h1, h2⟩)
      omega
    · have hmono : l.countP p ≤ l.countP q := List.countP_mono_left (fun x _ hx => h x hx)
      rw [List.countP_cons_of_neg hp]
      by_cases hq : q a = true
      · rw [List.countP_cons_of_pos hq]; omega
      · rw [List.countP_cons_of_neg hq]
        exact ih (by
          obtain ⟨x, hx, h1, h2⟩ := hx
          rcases List.mem_cons.1 hx with rfl | hx
          · exact absurd h1 hq
          · exact ⟨x, hx, h1, h2⟩)
theorem ninv_step {l : List Sp} {most at_ lo hi : Int} {out : List Sp} (h : NInv l most at_ out) (hl : LInv l most at_ lo) (hlo : 0 ≤ lo) (ha : All l most lo hi) (hn : ¬ Xs l most (hi + 1)) : NInv l most hi (out ++ [(lo, hi)]) ∧ at_ < hi := by
  obtain ⟨h1, h2, h3, h4, h5, h6⟩ := h
  rcases hl with ⟨e, _⟩ | ⟨l1, l2, l3, l4⟩
  · omega
  · have hgap : at_ = 0 ∨ at_ + 1 < lo := by
      rcases h5 with h5 | h5
      · exact .inl h5
      · right
        rcases Int.lt_or_le (at_ + 1) lo with h7 | h7
        · exact h7
        · exact absurd (by rw [show at_ + 1 = lo by omega]; exact l2) h5
    obtain ⟨a1, a2, a3⟩ := ha
    refine ⟨⟨(rise_app _ _).2 ⟨h1, ⟨l2.1, a1⟩, fun t ht => ?_⟩, fun n => ?_, by omega, a2, .inr hn, ?_⟩, by omega⟩
    · have hm := (h2 t.2).1 ⟨t, ht, (Rise.ok h1 t ht).2, Int.le_refl _⟩
      have := hm.1.1
      have := hm.2
      simp only
      omega
    · rw [memS_app, memS_cons, h2 n]
      simp only [memS_nil, or_false]
      constructor
      · rintro (⟨h7, h8⟩ | ⟨h7, h8⟩)
        · exact ⟨h7, by omega⟩
        · exact ⟨a3 n h7 h8, h8⟩
      · rintro ⟨h7, h8⟩
        by_cases h9 : n ≤ at_
        · exact .inl ⟨h7, h9⟩
        · right
          refine ⟨?_, h8⟩
          rcases Int.lt_or_le n lo with h10 | h10
          · exact absurd h7 (l3 n (by omega) h10)
          · exact h10
    · rw [List.length_append, List.length_singleton]
      have hs : ∃ s ∈ l, lo = (rchA s most).1 := by
        rcases l4 with l4 | l4
        · rcases hgap with hgap | hgap
          · obtain ⟨x1, x2, s, hs, hc⟩ := l2
            have hc2 := (cov_iff s lo most x1).1 hc
            have := (rch_ok s most hc2.1).1
            exact ⟨s, hs, by omega⟩
          · omega
        · exact l4
      obtain ⟨s, hs, e⟩ := hs
      have := count_more (l := l) (p := fun s => decide ((rchA s most).1 ≤ at_)) (q := fun s => decide ((rchA s most).1 ≤ hi)) (fun x hx => by simp at *; omega) ⟨s, hs, by simp; omega, by simp; omega⟩
      omega
theorem ninv_end {l : List Sp} {most at_ lo : Int} {out : List Sp} (h : NInv l most at_ out) (hl : LInv l most at_ lo) (hlo : lo < 0) : Rise out ∧ (∀ n, memS out n ↔ n ≤ mx ∧ hasB l n most = true) ∧ out.length ≤ l.length := by
  obtain ⟨h1, h2, h3, h4, h5, h6⟩ := h
  rcases hl with ⟨e, hx⟩ | ⟨l1, _⟩
  · refine ⟨h1, fun n => ?_, Nat.le_trans h6 List.countP_le_length⟩
    rw [h2 n, ← xs_has]
    constructor
    · exact fun h => h.1
    · intro h
      refine ⟨h, ?_⟩
      rcases Int.lt_or_le at_ n with h7 | h7
      · exact absurd h (hx n h7)
      · exact h7
  · omega
end Go.Proofs.YtiiegjdclpkeeaaGreatDoor
