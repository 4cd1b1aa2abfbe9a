/- What this text holds: plain facts: a name's parts, and what matches a pattern. No program is named here. -/
import Derived.Test.YtkmggkcipgfhdaaDoorM7
import Derived.Lib.SplitLaws
namespace Go.Proofs.YtkmggkcipgfhdaaDoor
set_option linter.unusedVariables false

/-- A name's parts. -/
def parts : List UInt8 → List (List UInt8)
  | [] => [[]]
  | b :: l => if b = 47 then [] :: parts l else (b :: (parts l).headD []) :: (parts l).tail
theorem parts_ne (l : List UInt8) : parts l ≠ [] := by
  cases l with
  | nil => simp [parts]
  | cons b l => unfold parts; split <;> simp
theorem parts_cons {b : UInt8} {l p : List UInt8} {ps : List (List UInt8)} (hb : b ≠ 47) (h : parts l = p :: ps) : parts (b :: l) = (b :: p) :: ps := by
  simp [parts, hb, h]
theorem parts_slash (l : List UInt8) : parts (47 :: l) = [] :: parts l := by simp [parts]
theorem parts_some (l : List UInt8) : ∃ p ps, parts l = p :: ps := by
  cases h : parts l with
  | nil => exact absurd h (parts_ne l)
  | cons p ps => exact ⟨p, ps, rfl⟩
theorem parts_cut (l : List UInt8) : parts l = if (cutc 47 l).2.2 = true then (cutc 47 l).1 :: parts (cutc 47 l).2.1 else [(cutc 47 l).1] := by
  induction l with
  | nil => simp [parts, cutc]
  | cons b l ih =>
    by_cases hb : b = 47
    · subst hb; rw [parts_slash]; simp [cutc]
    · obtain ⟨p, ps, hp⟩ := parts_some l
      rw [parts_cons hb hp]
      rw [hp] at ih
      unfold cutc
      rw [if_neg hb]
      simp only
      split at ih
      · rename_i hc
        rw [if_pos hc]
        injection ih with i1 i2
        rw [i1, i2]
      · rename_i hc
        rw [if_neg hc]
        injection ih with i1 i2
        rw [i1, i2]
theorem cut_no {c : UInt8} {l : List UInt8} (h : (cutc c l).2.2 = false) : (cutc c l).1 = l := by
  induction l with
  | nil => rfl
  | cons b l ih =>
    unfold cutc at h ⊢
    split at h
    · cases h
    · rename_i hb
      rw [if_neg hb]
      simp only at h ⊢
      rw [ih h]
theorem cut_split {c : UInt8} {l : List UInt8} (h : (cutc c l).2.2 = true) : l = (cutc c l).1 ++ c :: (cutc c l).2.1 ∧ c ∉ (cutc c l).1 := by
  induction l with
  | nil => simp [cutc] at h
  | cons b l ih =>
    unfold cutc at h ⊢
    split
    · rename_i hb; subst hb; simp
    · rename_i hb
      rw [if_neg hb] at h
      obtain ⟨i1, i2⟩ := ih h
      refine ⟨by simp only [List.cons_append]; rw [← i1], ?_⟩
      simp only [List.mem_cons, not_or]
      exact ⟨fun e => hb e.symm, i2⟩
theorem parts_len (l : List UInt8) : (parts l).length = l.count 47 + 1 := by
  induction l with
  | nil => rfl
  | cons b l ih =>
    by_cases hb : b = 47
    · subst hb; rw [parts_slash]; simp [ih]
    · obtain ⟨p, ps, hp⟩ := parts_some l
      rw [parts_cons hb hp]
      rw [hp] at ih
      simp only [List.length_cons] at ih ⊢
      rw [List.count_cons_of_ne hb]
      exact ih
/-- The library's way. -/
theorem split_parts : ∀ (k : Nat) (l : List UInt8), l.count 47 = k → Go.Lib.splitK [47] 0 k l = parts l
  | 0, l, h => by
    have hc : (cutc 47 l).2.2 = false := by
      rcases Bool.eq_false_or_eq_true (cutc 47 l).2.2 with hc | hc
      · have := (cut_split hc).1
        rw [this, List.count_append, List.count_cons_self] at h
        omega
      · exact hc
    rw [parts_cut, hc]
    simp only [Go.Lib.splitK, Bool.false_eq_true, if_false]
    rw [cut_no hc]
  | k + 1, l, h => by
    have hc : (cutc 47 l).2.2 = true := by
      rcases Bool.eq_false_or_eq_true (cutc 47 l).2.2 with hc | hc
      · exact hc
      · exfalso
        have hn : ∀ m : List UInt8, (cutc 47 m).2.2 = false → m.count 47 = 0 := by
          intro m
          induction m with
          | nil => intro _; rfl
          | cons b m ih =>
            intro hm
            unfold cutc at hm
            split at hm
            · cases hm
            · rename_i hb
              rw [List.count_cons_of_ne hb]
              exact ih hm
        have := hn l hc
        omega
    have hs := cut_split hc
    have hk : (cutc 47 l).2.1.count 47 = k := by
      have h0 : (cutc 47 l).1.count 47 = 0 := List.count_eq_zero.2 hs.2
      have h2 := h
      rw [hs.1, List.count_append, List.count_cons_self] at h2
      omega
    rw [parts_cut, if_pos hc]
    have ih := split_parts k (cutc 47 l).2.1 hk
    have e := cut_eq 47 l
    unfold Go.Lib.cut at e
    split at e
    · rename_i hi
      have e1 : (cutc 47 l).1 = l.take (Go.Lib.index l [47]).toNat := by rw [← e]
      have e2 : (cutc 47 l).2.1 = l.drop ((Go.Lib.index l [47]).toNat + 1) := by rw [← e]; rfl
      have hn : ¬ Go.Lib.index l [47] = -1 := by omega
      simp only [Go.Lib.splitK]
      rw [← ih, e1, e2]
      simp [hn]
    · rw [← e] at hc; cases hc

/-- What one sign of a pattern stands for. -/
def one (c : UInt8) (a : List UInt8) : Prop := if c = 42 then True else if c = 37 then (47 : UInt8) ∉ a else a = [c]
/-- What matches a pattern. -/
def Mt : List UInt8 → List UInt8 → Prop
  | [], l => l = []
  | c :: p, l => ∃ a b, l = a ++ b ∧ one c a ∧ Mt p b
theorem Mt.app (p q : List UInt8) : ∀ l, Mt (p ++ q) l ↔ ∃ a b, l = a ++ b ∧ Mt p a ∧ Mt q b := by
  induction p with
  | nil =>
    intro l
    constructor
    · intro h; exact ⟨[], l, rfl, rfl, h⟩
    · rintro ⟨a, b, rfl, h1, h2⟩
      have : a = [] := h1
      subst this
      exact h2
  | cons c p ih =>
    intro l
    constructor
    · rintro ⟨a, b, rfl, h1, h2⟩
      obtain ⟨x, y, rfl, h3, h4⟩ := (ih b).1 h2
      exact ⟨a ++ x, y, by simp, ⟨a, x, rfl, h1, h3⟩, h4⟩
    · rintro ⟨a, b, rfl, ⟨x, y, rfl, h1, h2⟩, h3⟩
      exact ⟨x, y ++ b, by simp, h1, (ih _).2 ⟨y, b, rfl, h2, h3⟩⟩
theorem Mt.one (c : UInt8) (l : List UInt8) : Mt [c] l ↔ Go.Proofs.YtkmggkcipgfhdaaDoor.one c l := by
  constructor
  · rintro ⟨a, b, rfl, h1, h2⟩
    have : b = [] := h2
    subst this
    simpa using h1
  · intro h; exact ⟨l, [], by simp, h, rfl⟩
theorem Mt.snoc (p : List UInt8) (c : UInt8) (l : List UInt8) : Mt (p ++ [c]) l ↔ ∃ a b, l = a ++ b ∧ Mt p a ∧ Go.Proofs.YtkmggkcipgfhdaaDoor.one c b := by
  rw [Mt.app]
  constructor
  · rintro ⟨a, b, e, h1, h2⟩; exact ⟨a, b, e, h1, (Mt.one c b).1 h2⟩
  · rintro ⟨a, b, e, h1, h2⟩; exact ⟨a, b, e, h1, (Mt.one c b).2 h2⟩
theorem Mt.star0 (p : List UInt8) (c : UInt8) (hc : c = 42 ∨ c = 37) : Mt (p ++ [c]) [] ↔ Mt p [] := by
  rw [Mt.snoc]
  constructor
  · rintro ⟨a, b, e, h1, _⟩
    have := List.append_eq_nil_iff.1 e.symm
    rw [this.1] at h1
    exact h1
  · intro h
    refine ⟨[], [], rfl, h, ?_⟩
    unfold Go.Proofs.YtkmggkcipgfhdaaDoor.one
    rcases hc with rfl | rfl <;> simp
theorem Mt.star1 (p : List UInt8) (c x : UInt8) (l : List UInt8) (hc : c = 42 ∨ c = 37) : Mt (p ++ [c]) (l ++ [x]) ↔ Mt p (l ++ [x]) ∨ (Mt (p ++ [c]) l ∧ ¬ (c = 37 ∧ x = 47)) := by
  constructor
  · intro h
    obtain ⟨a, b, e, h1, h2⟩ := (Mt.snoc _ _ _).1 h
    rcases List.eq_nil_or_concat b with rfl | ⟨b', y, rfl⟩
    · left
      rw [List.append_nil] at e
      rw [e]
      exact h1
    · right
      rw [List.concat_eq_append, ← List.append_assoc] at e
      obtain ⟨e1, e2⟩ := List.append_inj' e rfl
      have e3 : x = y := by simpa using e2
      subst e3
      refine ⟨(Mt.snoc _ _ _).2 ⟨a, b', e1, h1, ?_⟩, ?_⟩
      · unfold Go.Proofs.YtkmggkcipgfhdaaDoor.one at h2 ⊢
        rcases hc with rfl | rfl
        · simp
        · simp only [List.concat_eq_append] at h2
          simp at h2 ⊢
          exact h2.1
      · rintro ⟨rfl, rfl⟩
        unfold Go.Proofs.YtkmggkcipgfhdaaDoor.one at h2
        simp at h2
  · rintro (h | ⟨h, hx⟩)
    · refine (Mt.snoc _ _ _).2 ⟨l ++ [x], [], by simp, h, ?_⟩
      unfold Go.Proofs.YtkmggkcipgfhdaaDoor.one
      rcases hc with rfl | rfl <;> simp
    · obtain ⟨a, b, e, h1, h2⟩ := (Mt.snoc _ _ _).1 h
      refine (Mt.snoc _ _ _).2 ⟨a, b ++ [x], by rw [e]; simp, h1, ?_⟩
      unfold Go.Proofs.YtkmggkcipgfhdaaDoor.one at h2 ⊢
      rcases hc with rfl | rfl
      · simp
      · simp at h2 hx ⊢
        exact ⟨h2, fun e => hx e.symm⟩
theorem Mt.byte0 (p : List UInt8) (c : UInt8) (hc : ¬ (c = 42 ∨ c = 37)) : ¬ Mt (p ++ [c]) [] := by
  intro h
  obtain ⟨a, b, e, h1, h2⟩ := (Mt.snoc _ _ _).1 h
  have := List.append_eq_nil_iff.1 e.symm
  unfold Go.Proofs.YtkmggkcipgfhdaaDoor.one at h2
  rw [if_neg (fun e => hc (.inl e)), if_neg (fun e => hc (.inr e)), this.2] at h2
  simp at h2
theorem Mt.byte1 (p : List UInt8) (c x : UInt8) (l : List UInt8) (hc : ¬ (c = 42 ∨ c = 37)) : Mt (p ++ [c]) (l ++ [x]) ↔ Mt p l ∧ x = c := by
  have ho : ∀ b, Go.Proofs.YtkmggkcipgfhdaaDoor.one c b ↔ b = [c] := fun b => by
    unfold Go.Proofs.YtkmggkcipgfhdaaDoor.one
    rw [if_neg (fun e => hc (.inl e)), if_neg (fun e => hc (.inr e))]
  rw [Mt.snoc]
  constructor
  · rintro ⟨a, b, e, h1, h2⟩
    rw [ho] at h2
    subst h2
    obtain ⟨e1, e2⟩ := List.append_inj' e rfl
    subst e1
    exact ⟨h1, by simpa using e2⟩
  · rintro ⟨h, rfl⟩
    exact ⟨l, [x], rfl, h, (ho _).2 rfl⟩

open Classical in
/-- Does a name match a pattern? -/
noncomputable def mB (p l : List UInt8) : Bool := decide (Mt p l)
theorem mB_true {p l : List UInt8} : mB p l = true ↔ Mt p l := by simp [mB]
theorem mB_eq {p l q m : List UInt8} (h : Mt p l ↔ Mt q m) : mB p l = mB q m := by
  rw [Bool.eq_iff_iff, mB_true, mB_true]; exact h
theorem mB_false {p l : List UInt8} : mB p l = false ↔ ¬ Mt p l := by
  rw [← mB_true]; simp
end Go.Proofs.YtkmggkcipgfhdaaDoor
