/- What this text holds: words for a pager's sheets, and what its small functions do with them. -/
import Derived.Test.YtambgimfbdecpaaPTorn
namespace Go.Proofs.Ytambgimfbdecpaa
open Go.RowKit
set_option linter.unusedVariables false

/-- Cells of sheets: each a state, and a gen. -/
def shc (l : List (Int × Int)) : List Value := l.flatMap fun x => [.int .i64 x.1, .int .i64 x.2]
theorem shc_length (l : List (Int × Int)) : (shc l).length = l.length * 2 := by
  induction l with
  | nil => rfl
  | cons x l ih => simp only [shc, List.flatMap_cons, List.length_append, List.length_cons, List.length_nil] at ih ⊢; omega
theorem shc_cons (x : Int × Int) (l : List (Int × Int)) : shc (x :: l) = .int .i64 x.1 :: .int .i64 x.2 :: shc l := by simp [shc]
theorem shc_at (l : List (Int × Int)) : ∀ (i : Nat) (hi : i < l.length), (shc l)[i * 2]? = some (.int .i64 (l[i]).1) ∧ (shc l)[i * 2 + 1]? = some (.int .i64 (l[i]).2) := by
  induction l with
  | nil => intro i hi; simp at hi
  | cons x l ih =>
    intro i hi
    rw [shc_cons]
    cases i with
    | zero => exact ⟨rfl, rfl⟩
    | succ i =>
      obtain ⟨h1, h2⟩ := ih i (by simpa using hi)
      rw [show (i + 1) * 2 = i * 2 + 1 + 1 by omega]
      simp only [List.getElem?_cons_succ, List.getElem_cons_succ]
      exact ⟨h1, h2⟩
theorem shc_set (l : List (Int × Int)) : ∀ (i : Nat) (x : Int × Int), i < l.length → ((shc l).set (i * 2) (.int .i64 x.1)).set (i * 2 + 1) (.int .i64 x.2) = shc (l.set i x) := by
  induction l with
  | nil => intro i x hi; simp at hi
  | cons y l ih =>
    intro i x hi
    cases i with
    | zero => simp [shc_cons]
    | succ i =>
      rw [show (i + 1) * 2 = i * 2 + 1 + 1 by omega, List.set_cons_succ, shc_cons, shc_cons, ← ih i x (by simpa using hi)]
      simp

/-- Sheets lie in block gs. -/
structure ShAt (w : World) (b gs n : Nat) (st : List (Int × Int)) : Prop where
  c : w.cell? ⟨b, 1, none⟩ = some (.slice (some ⟨gs, 0, none⟩) n n)
  blk : w.heap[gs]? = some (.cells (shc st).toArray 118 (0, 0))
  len : st.length = n
  max : n ≤ 4096
theorem ShAt.at_ {w : World} {b gs n : Nat} {st : List (Int × Int)} (h : ShAt w b gs n st) (i : Nat) (hi : i < n) :
    w.cell? ⟨gs, i * 2, none⟩ = some (.int .i64 (st[i]'(by rw [h.len]; exact hi)).1) ∧ w.cell? ⟨gs, i * 2 + 1, none⟩ = some (.int .i64 (st[i]'(by rw [h.len]; exact hi)).2) := by
  obtain ⟨h1, h2⟩ := shc_at st i (by rw [h.len]; exact hi)
  simp only [World.cell?, h.blk]
  exact ⟨by simpa using h1, by simpa using h2⟩
theorem ShAt.free {w : World} {b gs n : Nat} {st : List (Int × Int)} (h : ShAt w b gs n st) (k : Nat) : w.frozen? ⟨gs, k, none⟩ = false := by simp [World.frozen?, h.blk]
/-- A sheet is laid anew. -/
def setSh (w : World) (gs i : Nat) (x : Int × Int) : World := (w.setCell ⟨gs, i * 2, none⟩ (.int .i64 x.1)).setCell ⟨gs, i * 2 + 1, none⟩ (.int .i64 x.2)
theorem setSh_kept (w : World) (gs i : Nat) (x : Int × Int) : Kept [gs] w (setSh w gs i x) :=
  (Kept.setCell [gs] w _ _ (by simp)).trans (Kept.setCell [gs] _ _ _ (by simp)) (fun _ _ h => h)
theorem ShAt.set {w : World} {b gs n : Nat} {st : List (Int × Int)} (h : ShAt w b gs n st) (hne : gs ≠ b) (i : Nat) (hi : i < n) (x : Int × Int) : ShAt (setSh w gs i x) b gs n (st.set i x) := by
  refine ⟨?_, ?_, by rw [List.length_set]; exact h.len, h.max⟩
  · exact (setSh_kept w gs i x).cell h.c (by simpa using fun e => hne e.symm)
  · unfold setSh
    simp only [World.setCell, Array.getElem?_modify, h.blk, if_true, Option.map_some]
    rw [← shc_set st i x (by rw [h.len]; exact hi)]
    simp

set_option maxHeartbeats 400000 in
theorem isPage_any {w : World} {b gs n : Nat} {st : List (Int × Int)} (h : ShAt w b gs n st) (i : Int) :
    Calls Try.prog 86 #[.pointer (some ⟨b, 1, none⟩), .int .i64 i] w fun e w' => e = .returned (.bool (decide (2 ≤ i ∧ i < n))) ∧ w' = w := by
  have hc := h.c
  have hm := h.max
  clear h
  by_cases h1 : 2 ≤ i
  · by_cases h2 : i < n
    · rw [decide_eq_true (by exact ⟨h1, h2⟩)]
      go_enter Try.func86, Try.ntmps86
      go_wp2
      go_ret
      exact ⟨rfl, rfl⟩
    · rw [decide_eq_false (fun h => h2 h.2)]
      go_enter Try.func86, Try.ntmps86
      go_wp2
      go_ret
      exact ⟨rfl, rfl⟩
  · rw [decide_eq_false (fun h => h1 h.1)]
    go_enter Try.func86, Try.ntmps86
    go_wp2
    go_ret
    exact ⟨rfl, rfl⟩

/-- The state of sheet i. -/
def stOf (st : List (Int × Int)) (i : Nat) : Int := (st.getD i (0, 0)).1
theorem stOf_eq (st : List (Int × Int)) (i : Nat) (hi : i < st.length) : stOf st i = (st[i]).1 := by
  unfold stOf; rw [List.getD_eq_getElem?_getD, List.getElem?_eq_getElem hi]; rfl
theorem ShAt.st {w : World} {b gs n : Nat} {st : List (Int × Int)} (h : ShAt w b gs n st) (i : Nat) (hi : i < n) : w.cell? ⟨gs, i * 2, none⟩ = some (.int .i64 (stOf st i)) := by
  rw [stOf_eq st i (by rw [h.len]; exact hi)]
  exact (h.at_ i hi).1

/-- Is it a used page? -/
def usedP (st : List (Int × Int)) (i : Int) : Bool := decide (2 ≤ i ∧ i < st.length) && (stOf st i.toNat != 0)
set_option maxHeartbeats 400000 in
theorem isUsed_any {w : World} {b gs n : Nat} {st : List (Int × Int)} (h : ShAt w b gs n st) (i : Int) :
    Calls Try.prog 62 #[.pointer (some ⟨b, 1, none⟩), .int .i64 i] w fun e w' => e = .returned (.bool (usedP st i)) ∧ w' = w := by
  have hc := h.c
  have hm := h.max
  have HH := hid h
  have hp := hid (isPage_any h i)
  unfold usedP
  rw [h.len]
  by_cases h1 : 2 ≤ i ∧ i < n
  · obtain ⟨k, rfl⟩ : ∃ k : Nat, i = k := ⟨i.toNat, by omega⟩
    have hs := h.st k (by omega)
    have hk2 : (k : Int) < n := h1.2
    rw [decide_eq_true h1, Bool.true_and, Int.toNat_natCast]
    rw [decide_eq_true h1] at hp
    clear h h1
    go_enter Try.func62, Try.ntmps62
    go_wp2_with (go_at_call 86; refine hp.out.mono ?_; rintro e w ⟨rfl, rfl⟩)
    go_ret
    exact ⟨rfl, rfl⟩
  · rw [decide_eq_false h1, Bool.false_and]
    rw [decide_eq_false h1] at hp
    clear h h1
    go_enter Try.func62, Try.ntmps62
    go_wp2_with (go_at_call 86; refine hp.out.mono ?_; rintro e w ⟨rfl, rfl⟩)
    go_ret
    exact ⟨rfl, rfl⟩
end Go.Proofs.Ytambgimfbdecpaa
