/- What this text holds: lines of fields with some names, or with others. -/
import Derived.Test.YtemgpghjolpneaaGreatDoorM8
import Derived.Lib.OthersKept
namespace Go.Proofs.YtemgpghjolpneaaGreatDoor
open Go.RowKit
set_option linter.unusedVariables false
set_option linter.unusedSimpArgs false

theorem Bld.later {B b : Nat} {bs : List Value} {w w' : World} (h : Go.Lib.IsBuilderF 108 5 B b bs w) (hb : Below w.heap.size w w') : Go.Lib.IsBuilderF 108 5 B b bs w' := by
  have hg : w.grownBy w' none := ⟨hb.os, hb.tape, hb.output, hb.size, fun k hk _ => hb.block k hk⟩
  rcases h with h | h
  · have hlt := h.lt
    obtain ⟨hB, v, hv, hown, hne⟩ := h
    exact .inl ⟨hB, v, (hb.block b hlt).trans hv, hown.kept hg (by cases hv : v.ownBlock <;> simp), hne⟩
  · have hlt := h.lt
    obtain ⟨hB, v, hv, hown, hne⟩ := h
    exact .inr ⟨hB, v, (hb.block b hlt).trans hv, hown.kept hg (by cases hv : v.ownBlock <;> simp), hne⟩
theorem Bld.at {B b : Nat} {bs : List Value} {w : World} (h : Go.Lib.IsBuilderF 108 5 B b bs w) : ∃ X, w.heap[b]? = some (.cells X 108 (0, 0)) := by
  rcases h with ⟨hB, v, hv, hown, hne⟩ | ⟨hB, v, hv, hown, hne⟩
  · exact ⟨_, hv⟩
  · exact ⟨_, hv⟩
theorem RO.others {w w' : World} {B T k b : Nat} {v : Value} {l : List (List Bs)} {X : Array Value} (h : RO w B T k v l) (hb : w.heap[b]? = some (.cells X 108 (0, 0))) (h5 : T ≠ 5) (h67 : 108 ≠ T) (ok : Go.Lib.OthersKept 5 (some b) w w') : RO w' B T k v l := by
  refine ⟨h.1, ownsRow_block h.2 (fun g hg => ?_)⟩
  rcases h.2.2 with ⟨h1, _⟩ | ⟨g', cap, cur, h1, _, h2, _⟩
  · subst h1; simp [Value.ownBlock] at hg
  · subst h1
    simp only [Value.ownBlock, Option.some.injEq] at hg
    subst hg
    rw [h2]
    refine ok g' _ h2 ?_ (fun c fz e => ?_)
    · intro e
      have e := Option.some.inj e
      subst e
      rw [h2] at hb
      simp at hb
      exact h67 hb.2.symm
    · simp at e
      exact h5 e.2.1
theorem RO.ra {w : World} {B T k g o n c : Nat} {l : List (List Bs)} (h : RO w B T k (.slice (some ⟨g, o, none⟩) n c) l) (h0 : l ≠ []) : RA w g o k l := by
  obtain ⟨_, a', c', hv, _, hr⟩ := h.rl
  rcases hr with hr | ⟨g', o', ha, hr, hg⟩
  · exact absurd hr h0
  · subst ha
    simp only [Value.slice.injEq, Option.some.injEq, Addr.mk.injEq, and_true] at hv
    obtain ⟨⟨rfl, rfl⟩, _, _⟩ := hv
    exact hr
theorem strCells_str (l : Bs) : Go.Lib.strCells (str l) = Go.Lib.byteCells l := by
  simp [Go.Lib.strCells, Go.Lib.byteCells, str]
def keepE (names : List Bs) (not : Bool) (e : Bs × Bs) : Bool := amongP e.1 names != not
def outP (L : List (Bs × Bs)) (names : List Bs) (not : Bool) : Bs := (L.filter (keepE names not)).flatMap (fun e => e.2)
theorem outP_next (L : List (Bs × Bs)) (names : List Bs) (not : Bool) (k : Nat) (hk : k < L.length) : outP (L.take (k + 1)) names not = outP (L.take k) names not ++ (if keepE names not L[k] then L[k].2 else []) := by
  unfold outP
  rw [List.take_succ_eq_append_getElem hk, List.filter_append, List.flatMap_append]
  congr 1
  by_cases h : keepE names not L[k] = true
  · simp [h]
  · simp [h]
theorem outP_le (L : List (Bs × Bs)) (names : List Bs) (not : Bool) (k : Nat) (hk : k < L.length) (h : (outP (L.take k) names not).length ≤ k * 1000000) (h2 : L[k].2.length ≤ 1000000) : (outP (L.take (k + 1)) names not).length ≤ (k + 1) * 1000000 := by
  rw [outP_next L names not k hk, List.length_append, Nat.succ_mul]
  refine Nat.add_le_add h ?_
  split
  · exact h2
  · simp
theorem onlyP_is (s : Bs) (not : Bool) (names : List Bs) : onlyP s not names = outP (ents s) names not ++ [13, 10] := rfl
theorem ents_in : ∀ (n : Nat) (s : Bs), s.length ≤ n → ∀ e ∈ ents s, e.1.length ≤ s.length ∧ e.2.length ≤ s.length
  | 0, s, h => by
    have : s = [] := List.eq_nil_of_length_eq_zero (by omega)
    subst this; simp [ents_nil]
  | n + 1, s, h => by
    by_cases h0 : s = []
    · subst h0; simp [ents_nil]
    · have h1 := ln_pos s h0
      have h2 := ln_le s
      have h3 := fl_pos s h0
      have h4 := fl_le s
      have h5 := ents_in n (s.drop (ln s)) (by simp; omega)
      have h6 := ents_in n (s.drop (fl s)) (by simp; omega)
      rw [ents_step s h0]
      split
      · intro e he
        have := h5 e he
        simp at this
        omega
      · rename_i hn
        intro e he
        rcases List.mem_cons.1 he with rfl | he
        · have h7 := nameB_lt _ hn
          simp at h7 ⊢
          omega
        · have := h6 e he
          simp at this
          omega

end Go.Proofs.YtemgpghjolpneaaGreatDoor
