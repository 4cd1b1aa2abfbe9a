/- What this text holds: a feed is sound behind each byte. -/
import Derived.Test.YtikcbgoocljgnaaDoorM15
namespace Go.Proofs.YtikcbgoocljgnaaDoor
set_option linter.unusedVariables false
set_option linter.unusedSimpArgs false

theorem sufT_nil : sufT [] 13 = [] := by decide
theorem sufT_ge (l : Bs) (c : UInt8) : l.length ≤ (sufT l c).length + 1 := by
  unfold sufT Go.Lib.trimSuffix
  split
  · rw [List.length_take, List.length_singleton]; omega
  · omega
theorem sound_pline (F : Fd) (h : F.nx = .pline) (t : F.texts.length ≤ F.lits.length + 1) (l : F.lits.length ≤ 20) (s : F.size ≤ 4000) (u : F.under.length ≤ 60000) (lf : F.left ≤ 999999) (m : F.many + F.left ≤ 1000000) : Sound F :=
  ⟨t, l, s, u, lf, m, fun e => (by rw [h] at e; cases e), fun e => (by rw [h] at e; cases e), fun e => (by rw [h] at e; rcases e with e | e | e <;> cases e), fun e => (by rw [h] at e; rcases e with e | e <;> cases e)⟩
theorem sound_letGo (n : Nat) (hn : n ≤ 999999) : Sound (letGoF Fd.zero n) := by
  unfold letGoF
  refine ⟨by simp [Fd.zero], by simp [Fd.zero], by simp [Fd.zero], by simp [Fd.zero], hn, by show 0 + n ≤ 1000000; omega, fun e => ?_, fun e => ?_, fun _ => rfl, fun e => ?_⟩
  · simp only at e; split at e <;> cases e
  · simp only at e
    split at e
    · cases e
    · show 1 ≤ n; omega
  · simp only at e
    split at e <;> (rcases e with e | e <;> cases e)
theorem sound_refuse (n : Nat) (p : Bool) (hn : n ≤ 999999) : Sound (refuseF n p) := by
  unfold refuseF
  split
  · exact sound_letGo n hn
  · exact sound_zero
theorem sound_endLine {F : Fd} (h : Sound F) (hx : F.nx = .line) : Sound (endLineP F).f := by
  obtain ⟨h1, h2⟩ := h.line (.inl hx)
  have hz := h.mz (.inl hx)
  unfold endLineP
  split
  · exact sound_zero
  · rename_i t n p hmk
    have hb := mark_bound hmk
    split
    · exact sound_refuse n p hb.1
    · rename_i hr
      unfold refB at hr
      simp only [Bool.or_eq_true, decide_eq_true_eq, not_or] at hr
      have hl := h.l
      have hl2 : F.lits.length < 20 := by omega
      show Sound (awaitF (keepF F t (sufT F.under 13)) n)
      unfold awaitF
      split
      · refine ⟨?_, ?_, ?_, ?_, ?_, ?_, fun e => (by cases e), fun e => (by cases e), fun _ => hz, fun _ => ⟨?_, ?_⟩⟩
        · show (F.texts ++ [t]).length ≤ (F.lits ++ [[]]).length + 1; simp; omega
        · show (F.lits ++ [[]]).length ≤ 20; simp; omega
        · show F.size + (sufT F.under 13).length ≤ 4000; omega
        · show 0 ≤ 60000; omega
        · show 0 ≤ 999999; omega
        · show F.many + 0 ≤ 1000000; omega
        · show (F.texts ++ [t]).length = (F.lits ++ [[]]).length; simp; omega
        · show (sufT [] 13).length + (F.size + (sufT F.under 13).length) ≤ 4000; rw [sufT_nil]; simp; omega
      · refine ⟨?_, ?_, ?_, ?_, ?_, ?_, fun _ => ⟨?_, ?_, ?_, ?_⟩, fun e => (by cases e), fun _ => hz, fun e => (by rcases e with e | e <;> cases e)⟩
        · show (F.texts ++ [t]).length ≤ F.lits.length + 1; simp; omega
        · show F.lits.length ≤ 20; omega
        · show F.size + (sufT F.under 13).length ≤ 4000; omega
        · show 0 ≤ 60000; omega
        · show n ≤ 999999; omega
        · show F.many + n ≤ 1000000; omega
        · show 1 ≤ n; omega
        · show 0 + n ≤ 50000; omega
        · show F.lits.length + 1 ≤ 20; omega
        · show (F.texts ++ [t]).length = F.lits.length + 1; simp; omega
theorem sound_ofLine {F : Fd} (h : Sound F) (hx : F.nx = .line) (c : UInt8) : Sound (ofLineP F c).f := by
  obtain ⟨h1, h2⟩ := h.line (.inl hx)
  have hz := h.mz (.inl hx)
  have hl := h.l
  unfold ofLineP
  split
  · exact sound_endLine h hx
  · split
    · exact sound_pline _ rfl (by simp [Fd.zero]) (by simp [Fd.zero]) (by simp [Fd.zero]) (by simp [Fd.zero]) (by simp [Fd.zero]) (by simp [Fd.zero])
    · rename_i hc hs
      have hsl := sufT_ge (F.under ++ [c]) 13
      have hlen : (F.under ++ [c]).length = F.under.length + 1 := by simp
      refine ⟨h.t, h.l, h.s, ?_, h.lf, h.mny, fun e => (by have e' : F.nx = .lit := e; rw [hx] at e'; cases e'), fun e => (by have e' : F.nx = .plit := e; rw [hx] at e'; cases e'), fun _ => hz, fun _ => ⟨h1, ?_⟩⟩
      · show (F.under ++ [c]).length ≤ 60000; omega
      · show (sufT (F.under ++ [c]) 13).length + F.size ≤ 4000; omega
theorem sound_lit {F : Fd} (h : Sound F) (hx : F.nx = .lit) (c : UInt8) : Sound (ofLiteralF F c) := by
  obtain ⟨h1, h2, h3, h4⟩ := h.lit hx
  have hz := h.mz (.inr (.inr hx))
  have hs := h.s
  have hlf := h.lf
  unfold ofLiteralF
  split
  · refine ⟨?_, ?_, h.s, ?_, ?_, ?_, fun e => (by cases e), fun e => (by cases e), fun _ => hz, fun _ => ⟨?_, ?_⟩⟩
    · show F.texts.length ≤ (F.lits ++ [F.under ++ [c]]).length + 1; simp; omega
    · show (F.lits ++ [F.under ++ [c]]).length ≤ 20; simp; omega
    · show 0 ≤ 60000; omega
    · show F.left - 1 ≤ 999999; omega
    · show F.many + (F.left - 1) ≤ 1000000; omega
    · show F.texts.length = (F.lits ++ [F.under ++ [c]]).length; simp; omega
    · show (sufT [] 13).length + F.size ≤ 4000; rw [sufT_nil]; simp; omega
  · have hlen : (F.under ++ [c]).length = F.under.length + 1 := by simp
    refine ⟨h.t, h.l, h.s, ?_, ?_, ?_, fun _ => ⟨?_, ?_, h3, h4⟩, fun e => (by have e' : F.nx = .plit := e; rw [hx] at e'; cases e'), fun _ => hz, fun e => (by have e' : F.nx = .line ∨ F.nx = .no := e; rw [hx] at e'; rcases e' with e' | e' <;> cases e')⟩
    · show (F.under ++ [c]).length ≤ 60000; omega
    · show F.left - 1 ≤ 999999; omega
    · show F.many + (F.left - 1) ≤ 1000000; omega
    · show 1 ≤ F.left - 1; omega
    · show (F.under ++ [c]).length + (F.left - 1) ≤ 50000; omega
theorem found_many (m : Nat) (e : Bool) (c : UInt8) : (foundP m e c).2.1 ≤ m + 1 := by
  unfold foundP
  split
  · simp
  · split
    · simp
    · split
      · simp
      · split <;> simp
theorem sound_plit {F : Fd} (h : Sound F) (hx : F.nx = .plit) (c : UInt8) : Sound (pastLitF F c) := by
  have h1 := h.plit hx
  have hf := found_many F.many F.ending c
  have hlf := h.lf
  have hm := h.mny
  unfold pastLitF
  split
  · exact sound_zero
  · split
    · exact sound_pline _ rfl h.t h.l h.s h.u (by show F.left - 1 ≤ 999999; omega) (by show (foundP F.many F.ending c).2.1 + (F.left - 1) ≤ 1000000; omega)
    · refine ⟨h.t, h.l, h.s, h.u, ?_, ?_, fun e => (by have e' : F.nx = .lit := e; rw [hx] at e'; cases e'), fun _ => ?_, fun e => (by have e' : F.nx = .line ∨ F.nx = .no ∨ F.nx = .lit := e; rw [hx] at e'; rcases e' with e' | e' | e' <;> cases e'), fun e => (by have e' : F.nx = .line ∨ F.nx = .no := e; rw [hx] at e'; rcases e' with e' | e' <;> cases e')⟩
      · show F.left - 1 ≤ 999999; omega
      · show (foundP F.many F.ending c).2.1 + (F.left - 1) ≤ 1000000; omega
      · show 1 ≤ F.left - 1; omega
theorem sound_step (F : Fd) (c : UInt8) (h : Sound F) : Sound (stepP F c).f := by
  unfold stepP
  split
  · rename_i hx
    refine sound_ofLine (F := { F with nx := .line }) ⟨h.t, h.l, h.s, h.u, h.lf, h.mny, fun e => (by cases e), fun e => (by cases e), fun _ => h.mz (.inr (.inl hx)), fun _ => h.line (.inr hx)⟩ rfl c
  · rename_i hx
    exact sound_ofLine h hx c
  · rename_i hx
    exact sound_lit h hx c
  · rename_i hx
    show Sound (pastLineF F c)
    unfold pastLineF
    split
    · exact sound_zero
    · exact h
  · rename_i hx
    exact sound_plit h hx c
end Go.Proofs.YtikcbgoocljgnaaDoor
