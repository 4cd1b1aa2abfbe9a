/- What this text holds: plain facts of the one way of a set: it is its own, and how many numbers it can hold. -/
import Derived.Test.YtiiegjdclpkeeaaDoorP1
namespace Go.Proofs.YtiiegjdclpkeeaaDoor
set_option linter.unusedVariables false
set_option linter.unusedSimpArgs false

theorem memS_end {L : List Sp} (h : Rise L) {s : Sp} (hs : s ∈ L) : memS L s.2 := ⟨s, hs, (h.ok s hs).2, by omega⟩
/-- The one way is its own. -/
theorem one_own {l L L2 : List Sp} {most : Int} (h : Rise L) (hm : ∀ n, memS L n ↔ n ≤ mx ∧ hasB l n most = true) (h2 : Rise L2) (hm2 : ∀ n, memS L2 n ↔ n ≤ mx ∧ hasB L n 0 = true) : L2 = L :=
  rise_one _ _ h2 h (fun n => by
    rw [hm2 n, hasB_rise h]
    constructor
    · exact fun x => x.2
    · exact fun x => ⟨((hm n).1 x).1, x⟩)
theorem one_has {l L : List Sp} {most : Int} (h : Rise L) (hm : ∀ n, memS L n ↔ n ≤ mx ∧ hasB l n most = true) {x : Int} (hx : x ≤ mx) : hasB L x 0 = hasB l x most := by
  rw [Bool.eq_iff_iff, hasB_rise h, hm x]
  exact ⟨fun e => e.2, fun e => ⟨hx, e⟩⟩
theorem of_yes {O : List Sp} {A : List Int} (h : Rise O) (hm : ∀ n, memS O n ↔ n ∈ A ∧ 1 ≤ n ∧ n ≤ mx) {x : Int} (hx : x ∈ A) (h1 : 1 ≤ x) (h2 : x ≤ mx) : hasB O x 0 = true := by
  rw [hasB_rise h, hm x]
  exact ⟨hx, h1, h2⟩
theorem of_no {O : List Sp} {A : List Int} (h : Rise O) (hm : ∀ n, memS O n ↔ n ∈ A ∧ 1 ≤ n ∧ n ≤ mx) {x : Int} (hx : ¬ (1 ≤ x ∧ x ≤ mx)) : hasB O x 0 = false := by
  rw [Bool.eq_false_iff]
  intro e
  rw [hasB_rise h, hm x] at e
  exact hx e.2
/-- Different numbers of a list are no more than it has. -/
theorem sub_len : ∀ (D A : List Int), D.Nodup → (∀ d ∈ D, d ∈ A) → D.length ≤ A.length
  | [], A, _, _ => by simp
  | d :: D, A, hn, hs => by
    rw [List.nodup_cons] at hn
    have hd : d ∈ A := hs d (by simp)
    have := sub_len D (A.erase d) hn.2 (fun x hx => by
      refine (List.mem_erase_of_ne ?_).2 (hs x (by simp [hx]))
      rintro rfl
      exact hn.1 hx)
    rw [List.length_erase_of_mem hd] at this
    have hp : 0 < A.length := List.length_pos_of_mem hd
    simp; omega
/-- What was counted: different numbers of a list, all below k. -/
def Cnt (A : List Int) (c : Nat) (k : Int) : Prop := ∃ D : List Int, D.length = c ∧ D.Nodup ∧ (∀ d ∈ D, d ∈ A) ∧ ∀ d ∈ D, d < k
theorem Cnt.le {A : List Int} {c : Nat} {k : Int} (h : Cnt A c k) : c ≤ A.length := by
  obtain ⟨D, rfl, h1, h2, _⟩ := h
  exact sub_len D A h1 h2
theorem Cnt.nil (A : List Int) (k : Int) : Cnt A 0 k := ⟨[], rfl, by simp, by simp, by simp⟩
theorem Cnt.next {A : List Int} {c : Nat} {k : Int} (h : Cnt A c k) (hk : k ∈ A) : Cnt A (c + 1) (k + 1) := by
  obtain ⟨D, rfl, h1, h2, h3⟩ := h
  refine ⟨k :: D, rfl, ?_, ?_, ?_⟩
  · rw [List.nodup_cons]
    exact ⟨fun e => by have := h3 k e; omega, h1⟩
  · intro d hd
    rcases List.mem_cons.1 hd with rfl | hd
    · exact hk
    · exact h2 d hd
  · intro d hd
    rcases List.mem_cons.1 hd with rfl | hd
    · omega
    · have := h3 d hd; omega
theorem Cnt.mono {A : List Int} {c : Nat} {k k' : Int} (h : Cnt A c k) (hk : k ≤ k') : Cnt A c k' := by
  obtain ⟨D, h0, h1, h2, h3⟩ := h
  exact ⟨D, h0, h1, h2, fun d hd => by have := h3 d hd; omega⟩
theorem rise_at : ∀ {l : List Sp}, Rise l → ∀ (i : Nat) (a b : Sp), l[i]? = some a → l[i + 1]? = some b → a.2 + 1 < b.1
  | [], _, i, a, b, h1, _ => by simp at h1
  | s :: l, h, 0, a, b, h1, h2 => by
    simp at h1 h2
    subst h1
    exact h.2.2.1 b (List.mem_of_getElem? h2)
  | s :: l, h, i + 1, a, b, h1, h2 => rise_at h.2.2.2 i a b (by simpa using h1) (by simpa using h2)
/-- Where the next span begins, or nothing. -/
def nxt (O : List Sp) (i : Nat) (k : Int) : Prop := ∀ s, O[i]? = some s → k ≤ s.1
theorem nxt_next {O : List Sp} (h : Rise O) {i : Nat} {s : Sp} (hs : O[i]? = some s) : nxt O (i + 1) (s.2 + 1) := fun t ht => by
  have := rise_at h i s t hs ht; omega
theorem met_next (A : List Int) (k : Int) (j : Nat) (hj : j < A.length) : (decide (k ∈ A.take j) || (A[j] == k)) = decide (k ∈ A.take (j + 1)) := by
  rw [List.take_succ_eq_append_getElem hj, Bool.eq_iff_iff]
  simp only [Bool.or_eq_true, decide_eq_true_eq, beq_iff_eq, List.mem_append, List.mem_singleton]
  exact ⟨fun h => h.elim .inl (fun e => .inr e.symm), fun h => h.elim .inl (fun e => .inr e.symm)⟩
end Go.Proofs.YtiiegjdclpkeeaaDoor
