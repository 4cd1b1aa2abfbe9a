/- What this text holds: what matches a pattern: the document's answer. -/
import Derived.Test.YtkmggkcipgfhdaaDoorM12
namespace Go.Proofs.YtkmggkcipgfhdaaDoor
open Go.RowKit
set_option linter.unusedVariables false
set_option linter.unusedSimpArgs false

theorem made_flags (N : Nat) (h1 : 1 ≤ N) (hn : N ≤ 100000) (w : World) : (Instr.makeSlice 63 (.int .i64 N) (.int .i64 N)).run Tryd.prog w = .ok (.slice (some ⟨w.heap.size, 0, none⟩) N N) (w.alloc (.cells (rowC (N - 1) fun _ => false) 4)) := by
  obtain ⟨i, hi, hz0, hz1, hz2⟩ := info_parts Tryd.info4
  have h := run_make (P := Tryd.prog) w 63 4 i _ Tryd.underlying63 hi hz0 .i64 .i64 N N (by omega) (by omega) (by rw [hz2]; omega) (by omega)
  rw [h, hz1, show (N : Int).toNat = N by omega]
  have e : madeCells (Value.bool false).cells (N * 1) = rowC (N - 1) fun _ => false := by
    apply Array.toList_inj.1
    have h1' := madeCells_same 1 N (.bool false) (by omega)
    have h2 : (Value.bool false).cells = Array.replicate 1 (.bool false) := rfl
    rw [h2, Nat.mul_one, h1']
    simp [rowC, List.map_const', show N - 1 + 1 = N by omega]
  rw [e]

/-- The rows that stand. -/
structure Rows2 (P A : List UInt8) (n i k : Nat) (G : Nat → Bool) : Prop where
  up : ∀ r < i, ∀ j ≤ n, G (r * (n + 1) + j) = mB (P.take r) (A.take j)
  row : ∀ j < k, G (i * (n + 1) + j) = mB (P.take i) (A.take j)
  rest : ∀ x, i * (n + 1) + k ≤ x → G x = false
theorem Rows2.next {P A : List UInt8} {n i k : Nat} {G : Nat → Bool} (h : Rows2 P A n i k G) (hk : k = n + 1) : Rows2 P A n (i + 1) 0 G := by
  subst hk
  refine ⟨fun r hr j hj => ?_, fun j hj => by omega, fun x hx => ?_⟩
  · by_cases e : r < i
    · exact h.up r e j hj
    · obtain rfl : r = i := by omega
      exact h.row j (by omega)
  · refine h.rest x ?_
    rw [Nat.succ_mul] at hx
    omega
theorem idx_ne {n i r j k : Nat} (hr : r < i) (hj : j ≤ n) : r * (n + 1) + j ≠ i * (n + 1) + k := by
  have : (r + 1) * (n + 1) ≤ i * (n + 1) := Nat.mul_le_mul_right _ hr
  rw [Nat.succ_mul] at this
  omega
theorem Rows2.set {P A : List UInt8} {n i k : Nat} {G : Nat → Bool} (h : Rows2 P A n i k G) {v : Bool} (hv : v = mB (P.take i) (A.take k)) : Rows2 P A n i (k + 1) (upd G (i * (n + 1) + k) v) := by
  refine ⟨fun r hr j hj => ?_, fun j hj => ?_, fun x hx => ?_⟩
  · simp only [upd, if_neg (idx_ne hr hj)]
    exact h.up r hr j hj
  · by_cases e : j = k
    · subst e; simp only [upd, if_pos]; exact hv
    · simp only [upd, if_neg (show ¬ i * (n + 1) + j = i * (n + 1) + k by omega)]
      exact h.row j (by omega)
  · simp only [upd, if_neg (show ¬ x = i * (n + 1) + k by omega)]
    exact h.rest x (by omega)
theorem Rows2.keep {P A : List UInt8} {n i k : Nat} {G : Nat → Bool} (h : Rows2 P A n i k G) (hv : mB (P.take i) (A.take k) = false) : Rows2 P A n i (k + 1) G := by
  refine ⟨h.up, fun j hj => ?_, fun x hx => h.rest x (by omega)⟩
  by_cases e : j = k
  · subst e; rw [hv]; exact h.rest _ (by omega)
  · exact h.row j (by omega)

/-- What lies between two places. -/
def seg (A : List UInt8) (j k : Nat) : List UInt8 := (A.take k).drop j
theorem star_iff (p A : List UInt8) (c : UInt8) (hc : c = 42 ∨ c = 37) (k : Nat) (hk : k ≤ A.length) :
    Mt (p ++ [c]) (A.take k) ↔ ∃ j ≤ k, Mt p (A.take j) ∧ (c = 37 → ∀ x, j ≤ x → x < k → A.getD x 0 ≠ 47) := by
  have hmem : ∀ j, j ≤ k → ((47 : UInt8) ∈ (A.take k).drop j ↔ ∃ x, j ≤ x ∧ x < k ∧ A.getD x 0 = 47) := by
    intro j hj
    rw [List.mem_iff_getElem?]
    constructor
    · rintro ⟨i, hi⟩
      rw [List.getElem?_drop] at hi
      have hlt := (List.getElem?_eq_some_iff.1 hi).1
      rw [List.length_take] at hlt
      refine ⟨j + i, by omega, by omega, ?_⟩
      rw [List.getElem?_take_of_lt (by omega)] at hi
      rw [List.getD_eq_getElem?_getD, hi]
      rfl
    · rintro ⟨x, h1, h2, h3⟩
      refine ⟨x - j, ?_⟩
      rw [List.getElem?_drop, show j + (x - j) = x by omega, List.getElem?_take_of_lt h2]
      rw [List.getD_eq_getElem?_getD, List.getElem?_eq_getElem (by omega)] at h3
      rw [List.getElem?_eq_getElem (by omega)]
      exact congrArg some h3
  rw [Mt.snoc]
  constructor
  · rintro ⟨a, b, e, h1, h2⟩
    have hl : a.length + b.length = k := by
      have := congrArg List.length e
      rw [List.length_take, List.length_append] at this
      omega
    have ha : a = A.take a.length := by
      have := congrArg (List.take a.length) e
      rw [List.take_take, Nat.min_eq_left (by omega), List.take_left'] at this
      · exact this.symm
      · rfl
    have hb : b = (A.take k).drop a.length := by
      have := congrArg (List.drop a.length) e
      rw [List.drop_left'] at this
      · exact this.symm
      · rfl
    refine ⟨a.length, by omega, by rw [← ha]; exact h1, fun hc37 x hx1 hx2 hx3 => ?_⟩
    subst hc37
    unfold one at h2
    simp at h2
    apply h2
    rw [hb]
    exact (hmem a.length (by omega)).2 ⟨x, hx1, hx2, hx3⟩
  · rintro ⟨j, hj, h1, h2⟩
    refine ⟨A.take j, (A.take k).drop j, ?_, h1, ?_⟩
    · have : A.take j = (A.take k).take j := by rw [List.take_take, Nat.min_eq_left hj]
      rw [this, List.take_append_drop]
    · unfold one
      rcases hc with rfl | rfl
      · simp
      · simp only [show ¬ (37 : UInt8) = 42 by decide, if_false, if_true]
        intro hm
        obtain ⟨x, a, b, c⟩ := (hmem j hj).1 hm
        exact h2 rfl x a b c
end Go.Proofs.YtkmggkcipgfhdaaDoor
