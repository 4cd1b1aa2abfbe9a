/- What this text holds: a kind's text as plain functions over bytes: blanks, tokens, signs, values, Params. No program in it. -/
import Derived.Test.YtgolcmafbenjbaaGreatDoorP1
namespace Go.Proofs.YtgolcmafbenjbaaGreatDoor
set_option linter.unusedVariables false
set_option linter.unusedSimpArgs false

def bl (c : UInt8) : Bool := c == 9 || c == 32
def noTok : Bs := [40, 41, 60, 62, 64, 44, 59, 58, 92, 34, 47, 91, 93, 63, 61]
/-- May a byte stand in a token? -/
def tk (c : UInt8) : Bool := decide (32 < c.toNat) && decide (c.toNat ≤ 126) && !noTok.contains c
/-- A rest without the blanks ahead. -/
def pb (s : Bs) : Bs := s.dropWhile bl
/-- A token, and what is behind it. -/
def tokT (s : Bs) : Bs := (pb s).takeWhile tk
def tokR (s : Bs) : Bs := (pb s).dropWhile tk
/-- What is behind a sign, if it comes now. -/
def sgn (c : UInt8) (s : Bs) : Option Bs :=
  match pb s with
  | [] => none
  | d :: t => if d = c then some t else none
/-- What is quoted, and what is behind it; none: it does not end. -/
def quM : Bs → Option (Bs × Bs)
  | [] => none
  | c :: t => if c = 34 then some ([], t) else if c = 92 then (match t with | [] => none | d :: u => (quM u).map fun r => (d :: r.1, r.2)) else (quM t).map fun r => (c :: r.1, r.2)
def valM (s : Bs) : Option (Bs × Bs) :=
  match sgn 34 s with
  | some t => quM t
  | none => if tokT s = [] then none else some (tokT s, tokR s)
def parM (s : Bs) : Option ((Bs × Bs) × Bs) :=
  match sgn 59 s with
  | none => none
  | some t => if tokT t = [] then none else match sgn 61 (tokR t) with
    | none => none
    | some u => match valM u with
      | none => none
      | some r => some ((low (tokT t), r.1), r.2)
def parsN : Nat → Bs → List (Bs × Bs)
  | 0, _ => []
  | n + 1, s => match parM s with
    | none => []
    | some r => r.1 :: parsN n r.2
/-- Params. -/
def parsM (s : Bs) : List (Bs × Bs) := parsN s.length s
def headM (s : Bs) : Option (Bs × Bs × Bs) :=
  if tokT s = [] then none else match sgn 47 (tokR s) with
    | none => none
    | some t => if tokT t = [] then none else some (tokT s, tokT t, tokR t)
def wText : Bs := [116, 101, 120, 116]
def wPlain : Bs := [112, 108, 97, 105, 110]
/-- What a kind's text says. -/
def kindM (s : Bs) : Bs × Bs × List (Bs × Bs) :=
  match headM s with
  | none => (wText, wPlain, [])
  | some r => (low r.1, low r.2.1, parsM r.2.2)

theorem pb_len (s : Bs) : (pb s).length ≤ s.length := dw_len _ _
theorem pb_pb (s : Bs) : pb (pb s) = pb s := by
  unfold pb
  induction s with
  | nil => rfl
  | cons c s ih =>
    rw [List.dropWhile_cons]
    by_cases h : bl c = true
    · rw [if_pos h]; exact ih
    · rw [if_neg h, List.dropWhile_cons, if_neg h]
theorem tokT_pb (s : Bs) : tokT (pb s) = tokT s := by unfold tokT; rw [pb_pb]
theorem tokR_pb (s : Bs) : tokR (pb s) = tokR s := by unfold tokR; rw [pb_pb]
theorem sgn_pb (c : UInt8) (s : Bs) : sgn c (pb s) = sgn c s := by unfold sgn; rw [pb_pb]
theorem tok_both (s : Bs) : tokT s ++ tokR s = pb s := List.takeWhile_append_dropWhile
theorem tokT_len (s : Bs) : (tokT s).length ≤ s.length := by
  have := congrArg List.length (tok_both s)
  have := pb_len s
  simp at *
  omega
theorem tokR_len (s : Bs) : (tokR s).length ≤ s.length := by
  have := congrArg List.length (tok_both s)
  have := pb_len s
  simp at *
  omega
theorem sgn_len {c : UInt8} {s t : Bs} (h : sgn c s = some t) : t.length < s.length := by
  unfold sgn at h
  have := pb_len s
  split at h
  · cases h
  · rename_i d u e
    rw [e] at this
    split at h
    · cases h; simp at this; omega
    · cases h
theorem quM_end (t : Bs) : quM (34 :: t) = some ([], t) := by rw [quM.eq_def]; simp
theorem quM_esc0 : quM [92] = none := by rw [quM.eq_def]; simp
theorem quM_esc (d : UInt8) (u : Bs) : quM (92 :: d :: u) = (quM u).map fun r => (d :: r.1, r.2) := by rw [quM.eq_def]; simp
theorem quM_other (c : UInt8) (t : Bs) (h1 : c ≠ 34) (h2 : c ≠ 92) : quM (c :: t) = (quM t).map fun r => (c :: r.1, r.2) := by rw [quM.eq_def]; simp [h1, h2]
theorem quM_len : ∀ (n : Nat) (s : Bs), s.length ≤ n → ∀ r, quM s = some r → r.2.length < s.length ∧ r.1.length ≤ s.length
  | _, [], _, r, h => by simp [quM] at h
  | 0, _ :: _, hn, r, h => by simp at hn
  | n + 1, c :: t, hn, r, h => by
    simp only [List.length_cons] at hn ⊢
    by_cases h1 : c = 34
    · subst h1
      rw [quM_end] at h
      cases h
      simp
    · by_cases h2 : c = 92
      · subst h2
        cases t with
        | nil => rw [quM_esc0] at h; cases h
        | cons d u =>
          rw [quM_esc, Option.map_eq_some_iff] at h
          obtain ⟨q, hq, rfl⟩ := h
          have := quM_len n u (by simp at hn; omega) q hq
          simp only [List.length_cons]
          omega
      · rw [quM_other c t h1 h2, Option.map_eq_some_iff] at h
        obtain ⟨q, hq, rfl⟩ := h
        have := quM_len n t (by omega) q hq
        simp only [List.length_cons]
        omega
theorem tokR_lt {s : Bs} (h : tokT s ≠ []) : (tokR s).length < s.length := by
  have := congrArg List.length (tok_both s)
  have := pb_len s
  have : 0 < (tokT s).length := List.length_pos_iff.2 h
  simp at *
  omega
theorem valM_len {s : Bs} {r : Bs × Bs} (h : valM s = some r) : r.2.length < s.length ∧ r.1.length ≤ s.length := by
  unfold valM at h
  split at h
  · rename_i t ht
    have h1 := sgn_len ht
    have := quM_len _ t (Nat.le_refl _) r h
    omega
  · split at h
    · cases h
    · rename_i h0
      cases h
      exact ⟨tokR_lt h0, tokT_len s⟩
theorem parM_len {s : Bs} {r : (Bs × Bs) × Bs} (h : parM s = some r) : r.2.length < s.length ∧ r.1.1.length ≤ s.length ∧ r.1.2.length ≤ s.length := by
  unfold parM at h
  split at h
  · cases h
  · rename_i t ht
    have h1 := sgn_len ht
    split at h
    · cases h
    · split at h
      · cases h
      · rename_i u hu
        have h2 := sgn_len hu
        have h3 := tokR_len t
        have h5 := tokT_len t
        split at h
        · cases h
        · rename_i q hq
          have h4 := valM_len hq
          cases h
          simp only [low_len]
          omega
theorem parsN_more : ∀ (n m : Nat) (s : Bs), s.length ≤ n → s.length ≤ m → parsN n s = parsN m s
  | 0, 0, s, h1, h2 => rfl
  | 0, m + 1, s, h1, h2 => by
    have : s = [] := List.eq_nil_of_length_eq_zero (by omega)
    subst this; simp [parsN, parM, sgn, pb]
  | n + 1, 0, s, h1, h2 => by
    have : s = [] := List.eq_nil_of_length_eq_zero (by omega)
    subst this; simp [parsN, parM, sgn, pb]
  | n + 1, m + 1, s, h1, h2 => by
    unfold parsN
    cases h : parM s with
    | none => rfl
    | some r =>
      have := parM_len h
      simp only
      rw [parsN_more n m r.2 (by omega) (by omega)]
theorem pars_none {s : Bs} (h : parM s = none) : parsM s = [] := by
  unfold parsM
  cases s with
  | nil => rfl
  | cons c t => rw [show (c :: t).length = t.length + 1 from rfl, parsN, h]
theorem pars_some {s : Bs} {r : (Bs × Bs) × Bs} (h : parM s = some r) : parsM s = r.1 :: parsM r.2 := by
  have := parM_len h
  unfold parsM
  cases s with
  | nil => simp at this
  | cons c t =>
    rw [show (c :: t).length = t.length + 1 from rfl, parsN, h]
    simp only [List.cons.injEq, true_and]
    exact parsN_more _ _ _ (by simp at this; omega) (Nat.le_refl _)
theorem pars_len : ∀ (n : Nat) (s : Bs), s.length ≤ n → (parsM s).length ≤ s.length
  | n, s, hn => by
    cases h : parM s with
    | none => rw [pars_none h]; simp
    | some r =>
      have := parM_len h
      rw [pars_some h]
      cases n with
      | zero => omega
      | succ n =>
        have := pars_len n r.2 (by omega)
        simp; omega
theorem pars_in : ∀ (n : Nat) (s : Bs), s.length ≤ n → ∀ p ∈ parsM s, p.1.length ≤ s.length ∧ p.2.length ≤ s.length
  | n, s, hn, p, hp => by
    cases h : parM s with
    | none => rw [pars_none h] at hp; simp at hp
    | some r =>
      have h1 := parM_len h
      rw [pars_some h] at hp
      cases n with
      | zero => omega
      | succ n =>
        rcases List.mem_cons.1 hp with rfl | hp
        · exact h1.2
        · have := pars_in n r.2 (by omega) p hp
          omega
end Go.Proofs.YtgolcmafbenjbaaGreatDoor
