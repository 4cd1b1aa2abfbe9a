/- What this text holds: a part laid into a block; the orders of a region joined. -/
import Derived.Test.YtgolcmafbenjbaaGreatDoorN11
namespace Go.Proofs.YtgolcmafbenjbaaGreatDoor
open Go.RowKit
set_option linter.unusedVariables false
set_option linter.unusedSimpArgs false

def nilV : Value := .slice none 0 0
def Pd.zero : Pd := ⟨[], [], [], [], [], [], 0, 0, 0, 0⟩
/-- A part written into a block. -/
def put11 (w : World) (A : Nat) (d : Pd) (vp vi vd vk : Value) : World :=
  ((((((((((w.setCell ⟨A, 0, none⟩ (.string (str d.ty))).setCell ⟨A, 1, none⟩ (.string (str d.sub))).setCell ⟨A, 2, none⟩ vp).setCell ⟨A, 3, none⟩ vi).setCell ⟨A, 4, none⟩ vd).setCell ⟨A, 5, none⟩ (.string (str d.enc))).setCell ⟨A, 6, none⟩ (.int .i64 d.hd)).setCell ⟨A, 7, none⟩ (.int .i64 d.fr)).setCell ⟨A, 8, none⟩ (.int .i64 d.to)).setCell ⟨A, 9, none⟩ (.int .i64 d.lns)).setCell ⟨A, 10, none⟩ vk
theorem set11 {w : World} {A : Nat} {x0 x1 x2 x3 x4 x5 x6 x7 x8 x9 x10 : Value} (h : w.heap[A]? = some (.cells #[x0, x1, x2, x3, x4, x5, x6, x7, x8, x9, x10] 33 (0, 0))) (o : Nat) (v : Value) :
    (w.setCell ⟨A, o, none⟩ v).heap[A]? = some (.cells (#[x0, x1, x2, x3, x4, x5, x6, x7, x8, x9, x10].setIfInBounds o v) 33 (0, 0)) := heap_setCell_same _ _ _ _ _ _ h
theorem put11_is {w : World} {A : Nat} {d' : Pd} {vp' vi' vd' vk' : Value} (h : D11 w A d' vp' vi' vd' vk') (d : Pd) (vp vi vd vk : Value) : D11 (put11 w A d vp vi vd vk) A d vp vi vd vk := by
  unfold put11 D11
  have h0 := set11 h 0 (.string (str d.ty))
  have h1 := set11 h0 1 (.string (str d.sub))
  have h2 := set11 h1 2 vp
  have h3 := set11 h2 3 vi
  have h4 := set11 h3 4 vd
  have h5 := set11 h4 5 (.string (str d.enc))
  have h6 := set11 h5 6 (.int .i64 d.hd)
  have h7 := set11 h6 7 (.int .i64 d.fr)
  have h8 := set11 h7 8 (.int .i64 d.to)
  have h9 := set11 h8 9 (.int .i64 d.lns)
  exact set11 h9 10 vk
theorem keptA {A : Nat} {w w' : World} (k : Kept [A] w w') (o : Nat) (v : Value) : Kept [A] w (w'.setCell ⟨A, o, none⟩ v) := k.trans (Kept.setCell [A] w' ⟨A, o, none⟩ v (by simp)) (fun i _ hi => hi)
theorem put11_self (w : World) (A : Nat) (d : Pd) (vp vi vd vk : Value) : Kept [A] w (put11 w A d vp vi vd vk) := by
  unfold put11
  exact keptA (keptA (keptA (keptA (keptA (keptA (keptA (keptA (keptA (keptA (keptA (Kept.refl _ _) _ _) _ _) _ _) _ _) _ _) _ _) _ _) _ _) _ _) _ _) _ _
theorem put11_below {w w' : World} {B : Nat} (A : Nat) (d : Pd) (vp vi vd vk : Value) (h : Below B w w') (hA : B ≤ A) (hB : B ≤ w'.heap.size) : Below B w (put11 w' A d vp vi vd vk) := below_kept h (put11_self w' A d vp vi vd vk) (by simp; exact hA) hB
theorem wp_once4 {c : Code} {R : Exit → Act → World → Prop} {a : Act} {w : World} (PW : Nat → Value → Value → World → Prop) (h : ∃ A : Nat → Value → Value → Act, c.wp Tryz.prog (fun e a' w' => e = .normal ∧ ∃ g x y, a' = A g x y ∧ PW g x y w') a w ∧ ∀ g x y w', PW g x y w' → R .normal (A g x y) w') : c.wp Tryz.prog R a w := by
  obtain ⟨A, h1, h2⟩ := h
  refine Code.wp_mono (fun e a' w' hh => ?_) h1
  obtain ⟨rfl, g, x, y, rfl, hp⟩ := hh
  exact h2 _ _ _ _ hp
theorem wp_once3 {c : Code} {R : Exit → Act → World → Prop} {a : Act} {w : World} (PW : Nat → Value → World → Prop) (h : ∃ A : Nat → Value → Act, c.wp Tryz.prog (fun e a' w' => e = .normal ∧ ∃ g x, a' = A g x ∧ PW g x w') a w ∧ ∀ g x w', PW g x w' → R .normal (A g x) w') : c.wp Tryz.prog R a w := by
  obtain ⟨A, h1, h2⟩ := h
  refine Code.wp_mono (fun e a' w' hh => ?_) h1
  obtain ⟨rfl, g, x, rfl, hp⟩ := hh
  exact h2 _ _ _ hp
theorem d11_drew {W w' : World} (hb : Below (W.drew.alloc (.cells #[.string ⟨#[]⟩, .string ⟨#[]⟩, .slice none 0 0, .slice none 0 0, .slice none 0 0, .string ⟨#[]⟩, .int .i64 0, .int .i64 0, .int .i64 0, .int .i64 0, .slice none 0 0] 33)).heap.size (W.drew.alloc (.cells #[.string ⟨#[]⟩, .string ⟨#[]⟩, .slice none 0 0, .slice none 0 0, .slice none 0 0, .string ⟨#[]⟩, .int .i64 0, .int .i64 0, .int .i64 0, .int .i64 0, .slice none 0 0] 33)) w') :
    D11 w' W.heap.size Pd.zero nilV nilV nilV nilV := (d11_new W.drew Pd.zero nilV nilV nilV nilV).later hb
theorem d11_plain {W w' : World} (hb : Below (W.alloc (.cells #[.string ⟨#[]⟩, .string ⟨#[]⟩, .slice none 0 0, .slice none 0 0, .slice none 0 0, .string ⟨#[]⟩, .int .i64 0, .int .i64 0, .int .i64 0, .int .i64 0, .slice none 0 0] 33)).heap.size (W.alloc (.cells #[.string ⟨#[]⟩, .string ⟨#[]⟩, .slice none 0 0, .slice none 0 0, .slice none 0 0, .string ⟨#[]⟩, .int .i64 0, .int .i64 0, .int .i64 0, .int .i64 0, .slice none 0 0] 33)) w') :
    D11 w' W.heap.size Pd.zero nilV nilV nilV nilV := (d11_new W Pd.zero nilV nilV nilV nilV).later hb
set_option maxRecDepth 100000 in
theorem results38_run {w : World} {A : Nat} {d : Pd} {vp vi vd vk : Value} (tmps : Array Value) (h2 : tmps[6]? = some (.pointer (some ⟨A, 0, none⟩))) (hA : D11 w A d vp vi vd vk) :
    (results Tryz.f38 tmps).run Tryz.prog w = .ok (ptV d vp vi vd vk) w := by
  obtain ⟨x0, x1, x2, x3, x4, x5, x6, x7, x8, x9, x10⟩ := hA.cs
  simp [results, Tryz.results38, go_sem, h2, x0, x1, x2, x3, x4, x5, x6, x7, x8, x9, x10, ptV, ptC]
theorem ents_in : ∀ (n : Nat) (s : Bs), s.length ≤ n → ∀ e ∈ ents s, e.1.length ≤ s.length ∧ e.2.length ≤ s.length
  | 0, s, h => by
    have : s = [] := List.eq_nil_of_length_eq_zero (by omega)
    subst this; simp [ents_nil]
  | n + 1, s, h => by
    by_cases h0 : s = []
    · subst h0; simp [ents_nil]
    · have h1 := ln_pos s h0
      have h2 := ln_le s
      have h3 := fl_pos s h0
      have h4 := fl_le s
      have h5 := ents_in n (s.drop (ln s)) (by simp; omega)
      have h6 := ents_in n (s.drop (fl s)) (by simp; omega)
      rw [ents_step s h0]
      split
      · intro e he
        have := h5 e he
        simp at this
        omega
      · rename_i hn
        intro e he
        rcases List.mem_cons.1 he with rfl | he
        · have h7 := nameB_lt _ hn
          simp at h7 ⊢
          omega
        · have := h6 e he
          simp at this
          omega
theorem fields_ok (s : Bs) (hs : s.length ≤ 1000000) : FieldsOk (fieldsP s) := by
  refine ⟨?_, ?_⟩
  · unfold fieldsP
    rw [List.length_map]
    exact Nat.le_trans (ents_len s) hs
  · intro f hf
    unfold fieldsP at hf
    rw [List.mem_map] at hf
    obtain ⟨e, he, rfl⟩ := hf
    have := ents_in _ s (Nat.le_refl _) e he
    have h2 := bare_len (e.2.drop (e.1.length + 1))
    simp at h2 ⊢
    omega
end Go.Proofs.YtgolcmafbenjbaaGreatDoor
