/- What this text holds: plain facts of the text that a set has, and that it reads back. -/
import Derived.Test.YtiiegjdclpkeeaaGreatDoorP2
import Derived.Lib.Join
namespace Go.Proofs.YtiiegjdclpkeeaaGreatDoor
set_option linter.unusedVariables false
set_option linter.unusedSimpArgs false
open Go.Lib (decDigits)

def endB (n : Int) : Bs := if n = 0 then [42] else decDigits n.toNat
def spanB (s : Sp) : Bs := if s.1 = s.2 then endB s.1 else endB s.1 ++ 58 :: endB s.2
def textB (l : List Sp) : Bs := Go.Lib.join (l.map spanB) [44]
def rEnd (n : Int) : Bool := decide (0 ≤ n) && decide (n ≤ mx)
def rSp (s : Sp) : Bool := rEnd s.1 && rEnd s.2
def rightB (l : List Sp) : Bool := decide (1 ≤ l.length) && decide (l.length ≤ 1000) && l.all rSp
def printV (l : List Sp) : Bs := if rightB l then textB l else []

theorem rEnd_iff (n : Int) : rEnd n = true ↔ 0 ≤ n ∧ n ≤ mx := by simp [rEnd]
theorem rSp_iff (s : Sp) : rSp s = true ↔ (0 ≤ s.1 ∧ s.1 ≤ mx) ∧ 0 ≤ s.2 ∧ s.2 ≤ mx := by simp [rSp, rEnd_iff]
theorem right_iff (l : List Sp) : rightB l = true ↔ (1 ≤ l.length ∧ l.length ≤ 1000) ∧ ∀ s ∈ l, rSp s = true := by
  unfold rightB
  simp [List.all_eq_true]
theorem dec_small {n : Nat} (h : n < 10) : decDigits n = [UInt8.ofNat (48 + n)] := Go.Lib.decDigits_one h
theorem dec_big {n : Nat} (h : ¬ n < 10) : decDigits n = decDigits (n / 10) ++ [UInt8.ofNat (48 + n % 10)] := by
  rw [decDigits, dif_neg h]
theorem dg_of {d : Nat} (h : d < 10) : (UInt8.ofNat (48 + d)).toNat = 48 + d := by
  simp; omega
theorem dec_all (n : Nat) : ∀ c ∈ decDigits n, dgB c = true := by
  induction n using Nat.strongRecOn with
  | ind n ih =>
    intro c hc
    by_cases h : n < 10
    · rw [dec_small h] at hc
      simp only [List.mem_singleton] at hc
      subst hc
      unfold dgB
      rw [dg_of h]; simp; omega
    · rw [dec_big h] at hc
      rcases List.mem_append.1 hc with hc | hc
      · exact ih (n / 10) (by omega) c hc
      · simp only [List.mem_singleton] at hc
        subst hc
        unfold dgB
        rw [dg_of (by omega)]; simp; omega
theorem dec_ne (n : Nat) : decDigits n ≠ [] := by
  by_cases h : n < 10
  · rw [dec_small h]; simp
  · rw [dec_big h]; simp
theorem dec_val (n : Nat) : valN (decDigits n) = n := by
  induction n using Nat.strongRecOn with
  | ind n ih =>
    by_cases h : n < 10
    · rw [dec_small h]
      simp only [valN, valF, List.foldl_cons, List.foldl_nil]
      rw [dg_of h]; omega
    · rw [dec_big h]
      have := ih (n / 10) (by omega)
      unfold valN valF at this ⊢
      rw [List.foldl_append, this]
      simp only [List.foldl_cons, List.foldl_nil]
      rw [dg_of (by omega)]; omega
theorem dec_head (n : Nat) (h0 : 0 < n) : (decDigits n).head? ≠ some 48 := by
  induction n using Nat.strongRecOn with
  | ind n ih =>
    by_cases h : n < 10
    · rw [dec_small h]
      intro e
      simp only [List.head?_cons, Option.some.injEq] at e
      have := congrArg UInt8.toNat e
      rw [dg_of h] at this
      have h48 : (48 : UInt8).toNat = 48 := rfl
      omega
    · rw [dec_big h]
      have := ih (n / 10) (by omega) (by omega)
      rcases hd : decDigits (n / 10) with _ | ⟨a, r⟩
      · exact absurd hd (dec_ne _)
      · rw [hd] at this
        simpa using this
theorem dec_len : ∀ (k n : Nat), n < 10 ^ (k + 1) → (decDigits n).length ≤ k + 1
  | 0, n, h => by rw [dec_small (by omega)]; simp
  | k + 1, n, h => by
    by_cases h1 : n < 10
    · rw [dec_small h1]; simp
    · rw [dec_big h1]
      have := dec_len k (n / 10) (by rw [Nat.pow_succ] at h; omega)
      simp; omega
theorem tw_of_all {l : Bs} (h : ∀ c ∈ l, dgB c = true) : l.takeWhile dgB = l ∧ l.dropWhile dgB = [] := by
  induction l with
  | nil => simp
  | cons a l ih =>
    have h1 := h a (by simp)
    have h2 := ih (fun c hc => h c (List.mem_cons_of_mem _ hc))
    simp [List.takeWhile_cons, List.dropWhile_cons, h1, h2]
theorem end_back0 (n : Int) (h0 : 0 ≤ n) (h1 : n ≤ mx) : endP (endB n) = some (n, []) := by
  unfold endB
  by_cases h : n = 0
  · subst h; rfl
  · rw [if_neg h]
    have ha := dec_all n.toNat
    obtain ⟨e1, e2⟩ := tw_of_all ha
    unfold endP
    rw [e1, e2, if_neg, if_neg]
    · have := dec_val n.toNat
      unfold numC
      rw [this]
      unfold mx at h1
      congr 2
      unfold mi
      omega
    · rintro (e | e)
      · exact dec_ne _ e
      · exact dec_head n.toNat (by omega) e
    · intro e
      have := ha _ (head_mem e)
      simp [dgB] at this
theorem end_back (n : Int) (h0 : 0 ≤ n) (h1 : n ≤ mx) (r : Bs) (hr : ∀ x, r.head? = some x → x ≠ 42 ∧ dgB x = false) : endP (endB n ++ r) = some (n, r) := by
  rw [endP_app _ _ hr, end_back0 n h0 h1]
  rfl
theorem span_back0 (s : Sp) (h : rSp s = true) : spanP (spanB s) = some (s, []) := by
  obtain ⟨⟨a0, a1⟩, b0, b1⟩ := (rSp_iff s).1 h
  obtain ⟨a, b⟩ := s
  simp only at a0 a1 b0 b1
  unfold spanB spanP
  by_cases e : a = b
  · subst e
    simp [end_back0 a a0 a1]
  · simp only [e, if_false]
    rw [end_back a a0 a1 (58 :: endB b) (fun x hx => by simp at hx; subst hx; exact ⟨by decide, by decide⟩)]
    simp [end_back0 b b0 b1]
theorem span_back (s : Sp) (h : rSp s = true) (r : Bs) (hr : ∀ x, r.head? = some x → x = 44) : spanP (spanB s ++ r) = some (s, r) := by
  rw [span_app _ _ hr, span_back0 s h]
  rfl
theorem text_one (s : Sp) : textB [s] = spanB s := by simp [textB, Go.Lib.join_one]
theorem text_cons (s t : Sp) (l : List Sp) : textB (s :: t :: l) = spanB s ++ 44 :: textB (t :: l) := by
  unfold textB
  simp only [List.map_cons]
  rw [Go.Lib.join_cons, Go.Lib.join_cons]
  simp [Go.Lib.joinTail]
theorem set_back : ∀ (l : List Sp) (k : Nat), l ≠ [] → (∀ s ∈ l, rSp s = true) → l.length ≤ k → setP k (textB l) = some l
  | [], k, h, _, _ => absurd rfl h
  | s :: l, 0, _, _, hk => by simp at hk
  | [s], k + 1, _, h, hk => by
    rw [text_one, setP, span_back0 s (h s (by simp))]
    simp
  | s :: t :: l, k + 1, _, h, hk => by
    rw [text_cons, setP, span_back s (h s (by simp)) _ (fun x hx => by simp at hx; exact hx.symm)]
    simp only [List.head?_cons, if_true, List.drop_succ_cons, List.drop_zero]
    rw [set_back (t :: l) k (by simp) (fun x hx => h x (List.mem_cons_of_mem _ hx)) (by simpa using hk)]
    rfl
theorem end_ne (n : Int) : endB n ≠ [] := by
  unfold endB
  split
  · simp
  · exact dec_ne _
theorem span_ne (s : Sp) : spanB s ≠ [] := by
  unfold spanB
  split
  · exact end_ne _
  · simp
theorem text_ge : ∀ (l : List Sp), l.length ≤ (textB l).length
  | [] => by simp
  | [s] => by
    rw [text_one]
    have := List.length_pos_iff.2 (span_ne s)
    rw [List.length_singleton]; omega
  | s :: t :: l => by
    rw [text_cons]
    have := text_ge (t :: l)
    simp at this ⊢; omega
theorem end_len {n : Int} (h1 : n ≤ mx) : (endB n).length ≤ 10 := by
  unfold endB
  split
  · simp
  · exact dec_len 9 _ (by unfold mx at h1; omega)
theorem span_len {s : Sp} (h : rSp s = true) : (spanB s).length ≤ 21 := by
  obtain ⟨⟨a0, a1⟩, b0, b1⟩ := (rSp_iff s).1 h
  have h1 := end_len a1
  have h2 := end_len b1
  unfold spanB
  split
  · omega
  · simp; omega
theorem text_len : ∀ (l : List Sp), (∀ s ∈ l, rSp s = true) → (textB l).length ≤ 22 * l.length
  | [], _ => by simp [textB, Go.Lib.join_nil]
  | [s], h => by
    rw [text_one]
    have := span_len (h s (by simp))
    simp; omega
  | s :: t :: l, h => by
    rw [text_cons]
    have h1 := span_len (h s (by simp))
    have h2 := text_len (t :: l) (fun x hx => h x (List.mem_cons_of_mem _ hx))
    simp at h2 ⊢; omega
theorem far_no {s : Sp} (h : rSp s = true) : farB s = false := by
  obtain ⟨⟨a0, a1⟩, b0, b1⟩ := (rSp_iff s).1 h
  unfold farB
  simp; omega
/-- A right set reads back from its text. -/
theorem par_back {l : List Sp} (h : rightB l = true) : parV (textB l) = (l, 0) := by
  obtain ⟨⟨h1, h2⟩, h3⟩ := (right_iff l).1 h
  have hge := text_ge l
  unfold parV
  rw [set_back l _ (by rintro rfl; simp at h1) h3 (by omega)]
  have hf : l.any farB = false := by
    rw [List.any_eq_false]
    intro x hx
    simp [far_no (h3 x hx)]
  simp only [hf]
  rw [if_neg (by simp), if_neg (by omega)]
theorem set_ne : ∀ (k : Nat) (s : Bs) (S : List Sp), setP k s = some S → S ≠ []
  | 0, s, S, h => by simp [setP] at h
  | k + 1, s, S, h => by
    rw [setP] at h
    rcases h1 : spanP s with _ | ⟨a, q⟩
    · rw [h1] at h; simp at h
    · rw [h1] at h
      simp only at h
      split at h
      · rcases h2 : setP k (q.drop 1) with _ | T
        · rw [h2] at h; simp at h
        · rw [h2] at h; simp at h
          subst h; simp
      · split at h
        · simp at h; subst h; simp
        · simp at h
theorem dec_of : ∀ (k : Nat) (l : Bs), l.length = k → l ≠ [] → (∀ c ∈ l, dgB c = true) → l.head? ≠ some 48 → decDigits (valN l) = l ∧ 0 < valN l
  | 0, l, hk, hn, _, _ => absurd (List.eq_nil_of_length_eq_zero hk) hn
  | k + 1, l, hk, hn, ha, hh => by
    obtain ⟨p, c, rfl⟩ : ∃ p c, l = p ++ [c] := ⟨l.dropLast, l.getLast hn, (List.dropLast_concat_getLast hn).symm⟩
    have hc : dgB c = true := ha c (by simp)
    have hc2 : 48 ≤ c.toNat ∧ c.toNat ≤ 57 := by unfold dgB at hc; simpa using hc
    have hv : valN (p ++ [c]) = 10 * valN p + (c.toNat - 48) := by
      unfold valN valF
      rw [List.foldl_append]; rfl
    have hcc : UInt8.ofNat (48 + (c.toNat - 48)) = c := by
      rw [show 48 + (c.toNat - 48) = c.toNat by omega]
      simp
    by_cases hp : p = []
    · subst hp
      have hv0 : valN ([] : Bs) = 0 := rfl
      rw [hv, hv0]
      have hne : c ≠ 48 := by intro e; subst e; simp at hh
      have hne2 : c.toNat ≠ 48 := fun e => hne (UInt8.toNat_inj.1 (e.trans rfl))
      refine ⟨?_, by omega⟩
      rw [show 10 * 0 + (c.toNat - 48) = c.toNat - 48 by omega, dec_small (by omega), hcc]
      rfl
    · obtain ⟨i1, i2⟩ := dec_of k p (by simpa using hk) hp (fun x hx => ha x (by simp [hx])) (by
        cases p with
        | nil => exact absurd rfl hp
        | cons a p => simpa using hh)
      rw [hv]
      refine ⟨?_, by omega⟩
      rw [dec_big (by omega), show (10 * valN p + (c.toNat - 48)) / 10 = valN p by omega, show (10 * valN p + (c.toNat - 48)) % 10 = c.toNat - 48 by omega, i1, hcc]
theorem end_fwd {l r : Bs} {v : Int} (h : endP l = some (v, r)) (hv : v ≤ mx) : l = endB v ++ r := by
  unfold endP at h
  split at h
  · rename_i h0
    cases l with
    | nil => simp at h0
    | cons a l =>
      simp at h0 h
      obtain ⟨rfl, rfl⟩ := h
      subst h0
      rfl
  · split at h
    · simp at h
    · rename_i h1
      simp only [Option.some.injEq, Prod.mk.injEq] at h
      obtain ⟨h2, h3⟩ := h
      have hd := dec_of _ (l.takeWhile dgB) rfl (fun e => h1 (.inl e)) (takeWhile_all dgB l) (fun e => h1 (.inr e))
      have hvv : v = (valN (l.takeWhile dgB) : Int) := by
        unfold numC mi at h2
        unfold mx at hv
        omega
      unfold endB
      rw [if_neg (by omega), hvv, Int.toNat_natCast, hd.1, ← h3, List.takeWhile_append_dropWhile]
theorem span_fwd {l r : Bs} {s : Sp} (h : spanP l = some (s, r)) (hs : farB s = false) : (spanB s).length + r.length ≤ l.length := by
  unfold farB at hs
  simp at hs
  obtain ⟨hs1, hs2⟩ := hs
  unfold spanP at h
  rcases h1 : endP l with _ | ⟨a, q⟩
  · rw [h1] at h; simp at h
  · rw [h1] at h
    simp only at h
    split at h
    · rename_i h58
      rcases h2 : endP (q.drop 1) with _ | ⟨b, q2⟩
      · rw [h2] at h; simp at h
      · rw [h2] at h
        simp at h
        obtain ⟨rfl, rfl⟩ := h
        simp only at hs1 hs2
        have e1 := congrArg List.length (end_fwd h1 hs1)
        have e2 := congrArg List.length (end_fwd h2 hs2)
        have hq : 1 ≤ q.length := by
          cases q with
          | nil => simp at h58
          | cons a q => simp
        rw [List.length_append] at e1 e2
        rw [List.length_drop] at e2
        unfold spanB
        split
        · simp only; omega
        · simp only [List.length_append, List.length_cons]; omega
    · simp at h
      obtain ⟨rfl, rfl⟩ := h
      simp only at hs1
      have e1 := congrArg List.length (end_fwd h1 hs1)
      rw [List.length_append] at e1
      unfold spanB
      simp only [if_true]; omega
theorem set_fwd : ∀ (k : Nat) (s : Bs) (S : List Sp), setP k s = some S → S.any farB = false → (textB S).length ≤ s.length
  | 0, s, S, h, _ => by simp [setP] at h
  | k + 1, s, S, h, hf => by
    rw [setP] at h
    rcases h1 : spanP s with _ | ⟨a, q⟩
    · rw [h1] at h; simp at h
    · rw [h1] at h
      simp only at h
      split at h
      · rename_i h44
        rcases h2 : setP k (q.drop 1) with _ | T
        · rw [h2] at h; simp at h
        · rw [h2] at h; simp at h
          subst h
          simp only [List.any_cons, Bool.or_eq_false_iff] at hf
          have e1 := span_fwd h1 hf.1
          have e2 := set_fwd k _ T h2 hf.2
          have hq : 1 ≤ q.length := by
            cases q with
            | nil => simp at h44
            | cons a q => simp
          rw [List.length_drop] at e2
          cases T with
          | nil => exact absurd rfl (set_ne _ _ _ h2)
          | cons t T =>
            rw [text_cons]
            simp only [List.length_append, List.length_cons]; omega
      · split at h
        · rename_i hq
          simp at h; subst h
          simp only [List.any_cons, List.any_nil, Bool.or_false] at hf
          have e1 := span_fwd h1 hf
          rw [text_one]
          omega
        · simp at h
/-- What Parse answers is a right set, and its text is no longer. -/
theorem par_fwd {s : Bs} {l : List Sp} (h : parV s = (l, 0)) : rightB l = true ∧ (textB l).length ≤ s.length := by
  unfold parV at h
  rcases h1 : setP (s.length + 1) s with _ | S
  · rw [h1] at h; simp at h
  · rw [h1] at h
    simp only at h
    split at h
    · simp at h
    · rename_i hf
      split at h
      · simp at h
      · rename_i hl
        simp only [Prod.mk.injEq, and_true] at h
        subst h
        have hf' : S.any farB = false := by simpa using hf
        refine ⟨(right_iff S).2 ⟨⟨?_, by omega⟩, fun x hx => ?_⟩, set_fwd _ _ _ h1 hf'⟩
        · exact List.length_pos_iff.2 (set_ne _ _ _ h1)
        · have hp := set_pos _ _ _ h1 x hx
          rw [List.any_eq_false] at hf'
          have := hf' x hx
          unfold farB at this
          simp at this
          exact (rSp_iff x).2 ⟨⟨hp.1, this.1⟩, hp.2, this.2⟩
/-- A text that is none has no spans. -/
theorem par_none (s : Bs) : (parV s).2 = 0 ∨ ((parV s).1 = [] ∧ (parV s).2 ≠ 0) := by
  unfold parV
  split
  · exact .inr ⟨rfl, by simp⟩
  · split
    · exact .inr ⟨rfl, by simp⟩
    · split
      · exact .inr ⟨rfl, by simp⟩
      · exact .inl rfl
end Go.Proofs.YtiiegjdclpkeeaaGreatDoor
