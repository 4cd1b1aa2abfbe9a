/- What this text holds: the document's way to addresses, by marks, as plain functions; it is the program's. -/
import Derived.Test.YtemgpghjolpneaaGreatDoorP2
namespace Go.Proofs.YtemgpghjolpneaaGreatDoor
set_option linter.unusedVariables false
set_option linter.unusedSimpArgs false

/-- What each byte is: quoted, in an angle, so deep in remarks. -/
def mk : Bool → Bool → Nat → Bs → List (UInt8 × Nat)
  | q, a, d, [] => []
  | q, a, d + 1, c :: s => if c = 92 then (c, 1) :: (c, 1) :: (match s with
      | [] => []
      | _ :: t => mk q a (d + 1) t)
    else if c = 40 then (c, 1) :: mk q a (d + 2) s else if c = 41 then (c, 1) :: mk q a d s else (c, 1) :: mk q a (d + 1) s
  | q, a, 0, c :: s => if q = true ∧ c = 92 ∧ s ≠ [] then (match s with
      | [] => []
      | e :: t => (92, 1) :: (e, 0) :: mk q a 0 t)
    else if c = 34 then (c, 1) :: mk (!q) a 0 s
    else if q = true then (c, 0) :: mk q a 0 s
    else if c = 40 then (c, 1) :: mk q a 1 s
    else if c = 60 ∧ a = false then (c, 2) :: mk q true 0 s
    else if c = 62 ∧ a = true then (c, 3) :: mk q false 0 s
    else if c = 44 ∧ a = false then (c, 4) :: mk q a 0 s
    else (c, 0) :: mk q a 0 s
theorem mk_nil (q a : Bool) (d : Nat) : mk q a d [] = [] := by unfold mk; rfl
theorem mk_deep (q a : Bool) (d : Nat) (c : UInt8) (s : Bs) : mk q a (d + 1) (c :: s) = if c = 92 then (c, 1) :: (c, 1) :: mk q a (d + 1) (s.drop 1) else if c = 40 then (c, 1) :: mk q a (d + 2) s else if c = 41 then (c, 1) :: mk q a d s else (c, 1) :: mk q a (d + 1) s := by
  rw [mk.eq_def]
  cases s with
  | nil => simp [mk_nil]
  | cons e t => rfl
theorem mk_esc (a : Bool) (e : UInt8) (t : Bs) : mk true a 0 (92 :: e :: t) = (92, 1) :: (e, 0) :: mk true a 0 t := by
  rw [mk.eq_def]; simp
theorem mk_quote (q a : Bool) (s : Bs) : mk q a 0 (34 :: s) = (34, 1) :: mk (!q) a 0 s := by
  rw [mk.eq_def]; simp
theorem mk_in (a : Bool) (c : UInt8) (s : Bs) (h1 : c ≠ 34) (h2 : c ≠ 92 ∨ s = []) : mk true a 0 (c :: s) = (c, 0) :: mk true a 0 s := by
  rw [mk.eq_def]
  simp only
  rw [if_neg (by rintro ⟨_, h3, h4⟩; rcases h2 with h | h; exact h h3; exact h4 h), if_neg h1]
  simp
theorem mk_out (a : Bool) (c : UInt8) (s : Bs) (h1 : c ≠ 34) : mk false a 0 (c :: s) = if c = 40 then (c, 1) :: mk false a 1 s else if c = 60 ∧ a = false then (c, 2) :: mk false true 0 s else if c = 62 ∧ a = true then (c, 3) :: mk false false 0 s else if c = 44 ∧ a = false then (c, 4) :: mk false a 0 s else (c, 0) :: mk false a 0 s := by
  rw [mk.eq_def]
  simp only
  rw [if_neg (by simp), if_neg h1, if_neg (by simp)]

/-- What was said ahead of the first angle, in it, and how many beginnings and ends of angles there were. -/
abbrev Mst := Bs × Bs × Nat
def addM (st : Mst) (x : Bs) : Mst := if st.2.2 = 0 then (st.1 ++ x, st.2.1, 0) else if st.2.2 = 1 then (st.1, st.2.1 ++ x, 1) else st
def incM (st : Mst) : Mst := (st.1, st.2.1, st.2.2 + 1)
theorem addM_nil (st : Mst) : addM st [] = st := by
  obtain ⟨a, b, n⟩ := st
  unfold addM
  simp only [List.append_nil]
  split
  · rename_i h; rw [h]
  · split
    · rename_i h; rw [h]
    · rfl
theorem addM_add (st : Mst) (x y : Bs) : addM (addM st x) y = addM st (x ++ y) := by
  obtain ⟨a, b, n⟩ := st
  unfold addM
  by_cases h0 : n = 0
  · simp [h0]
  · by_cases h1 : n = 1
    · simp [h1]
    · simp [h0, h1]
def adM (st : Mst) : Ad := if 0 < st.2.2 then partedP (trimA st.1) (trimA st.2.1) else partedP [] (trimA st.1)
def em (a : Ad) : List Ad := if a = noAd then [] else [a]
def st0 : Mst := ([], [], 0)
/-- One mark within a piece. -/
def stepM (st : Mst) (m : UInt8 × Nat) : Mst := if m.2 = 2 ∨ m.2 = 3 then incM st else if m.2 = 0 then addM st [m.1] else st
def foM : Mst → List (UInt8 × Nat) → List Ad
  | st, [] => em (adM st)
  | st, m :: l => if m.2 = 4 then em (adM st) ++ foM st0 l else foM (stepM st m) l
theorem fo_said (st : Mst) (c : UInt8) (l : List (UInt8 × Nat)) : foM st ((c, 0) :: l) = foM (addM st [c]) l := by rw [foM]; simp [stepM]
theorem fo_none (st : Mst) (c : UInt8) (l : List (UInt8 × Nat)) : foM st ((c, 1) :: l) = foM st l := by rw [foM]; simp [stepM]
theorem fo_two (st : Mst) (c : UInt8) (l : List (UInt8 × Nat)) : foM st ((c, 2) :: l) = foM (incM st) l := by rw [foM]; simp [stepM]
theorem fo_three (st : Mst) (c : UInt8) (l : List (UInt8 × Nat)) : foM st ((c, 3) :: l) = foM (incM st) l := by rw [foM]; simp [stepM]
theorem fo_four (st : Mst) (c : UInt8) (l : List (UInt8 × Nat)) : foM st ((c, 4) :: l) = em (adM st) ++ foM st0 l := by rw [foM]; simp

theorem fo_quo (a : Bool) : ∀ (n : Nat) (s : Bs) (st : Mst), s.length ≤ n → foM st (mk true a 0 s) = foM (addM st (quoP s).1) (mk false a 0 (quoP s).2)
  | _, [], st, _ => by rw [mk_nil]; show _ = foM (addM st []) (mk false a 0 []); rw [mk_nil, addM_nil]
  | 0, c :: s, st, h => by simp at h
  | n + 1, c :: s, st, h => by
    have hs : s.length ≤ n := by simpa using h
    by_cases h1 : c = 34
    · subst h1
      have e : quoP (34 :: s) = ([], s) := by rw [quoP.eq_def]; simp
      rw [mk_quote, fo_none, e, addM_nil]
      rfl
    · by_cases h2 : c = 92
      · subst h2
        cases s with
        | nil =>
          have e : quoP [92] = ([92], []) := by rw [quoP.eq_def]; simp
          rw [mk_in a 92 [] (by decide) (.inr rfl), fo_said, e, mk_nil, mk_nil]
        | cons e t =>
          have e1 : quoP (92 :: e :: t) = (e :: (quoP t).1, (quoP t).2) := by rw [quoP.eq_def]; simp
          rw [mk_esc, fo_none, fo_said, fo_quo a n t _ (by simp at hs; omega), addM_add, e1]
          rfl
      · have e : quoP (c :: s) = (c :: (quoP s).1, (quoP s).2) := by rw [quoP.eq_def]; simp [h1, h2]
        rw [mk_in a c s h1 (.inl h2), fo_said, fo_quo a n s _ hs, addM_add, e]
        rfl
theorem fo_rem (a : Bool) : ∀ (n : Nat) (s : Bs) (d : Nat) (st : Mst), s.length ≤ n → foM st (mk false a d s) = foM st (mk false a 0 (remP d s))
  | _, s, 0, st, _ => by rw [show remP 0 s = s by cases s <;> rfl]
  | _, [], d + 1, st, _ => by rw [mk_nil, show remP (d + 1) [] = [] from rfl, mk_nil]
  | 0, c :: s, d + 1, st, h => by simp at h
  | n + 1, c :: s, d + 1, st, h => by
    have hs : s.length ≤ n := by simpa using h
    rw [mk_deep, remP.eq_def]
    simp only
    by_cases h1 : c = 92
    · rw [if_pos h1, if_pos h1, fo_none, fo_none]
      cases s with
      | nil => simp [mk_nil]
      | cons e t =>
        show foM st (mk false a (d + 1) t) = _
        exact fo_rem a n t (d + 1) st (by simp at hs; omega)
    · rw [if_neg h1, if_neg h1]
      by_cases h2 : c = 40
      · rw [if_pos h2, if_pos h2, fo_none]
        exact fo_rem a n s (d + 2) st hs
      · rw [if_neg h2, if_neg h2]
        by_cases h3 : c = 41
        · rw [if_pos h3, if_pos h3, fo_none]
          exact fo_rem a n s d st hs
        · rw [if_neg h3, if_neg h3, fo_none]
          exact fo_rem a n s (d + 1) st hs
theorem fo_par (a : Bool) (c : UInt8) (s : Bs) (st : Mst) (h1 : a = false → c ≠ 60 ∧ c ≠ 44) (h2 : a = true → c ≠ 62) : foM st (mk false a 0 (c :: s)) = foM (addM st (parP c s).1) (mk false a 0 (parP c s).2) := by
  unfold parP
  by_cases h34 : c = 34
  · subst h34
    rw [if_pos rfl, mk_quote, fo_none]
    exact fo_quo a _ s st (Nat.le_refl _)
  · rw [if_neg h34, mk_out a c s h34]
    by_cases h40 : c = 40
    · rw [if_pos h40, if_pos h40, fo_none, addM_nil]
      exact fo_rem a _ s 1 st (Nat.le_refl _)
    · rw [if_neg h40, if_neg h40, if_neg (by rintro ⟨e1, e2⟩; exact (h1 e2).1 e1), if_neg (by rintro ⟨e1, e2⟩; exact h2 e2 e1), if_neg (by rintro ⟨e1, e2⟩; exact (h1 e2).2 e1), fo_said]
theorem adM_inc (st : Mst) (h : 0 < st.2.2) : adM (incM st) = adM st := by
  unfold adM incM
  rw [if_pos (by simp), if_pos h]
theorem addM_n (st : Mst) (x : Bs) : (addM st x).2.2 = st.2.2 := by
  obtain ⟨a, b, n⟩ := st
  unfold addM
  simp only
  split
  · rename_i h; simp [h]
  · split
    · rename_i h; simp [h]
    · rfl
theorem fo_ang : ∀ (n : Nat) (s : Bs) (st : Mst), s.length ≤ n → 0 < st.2.2 → foM st (mk false true 0 s) = foM (incM (addM st (angP s).1)) (mk false false 0 (angP s).2)
  | _, [], st, _, h => by rw [mk_nil, angP_nil, addM_nil, mk_nil, foM, foM, adM_inc st h]
  | 0, c :: s, st, h, _ => by simp at h
  | n + 1, c :: s, st, h, h0 => by
    have hs : s.length ≤ n := by simpa using h
    by_cases h1 : c = 62
    · subst h1
      rw [mk_out true 62 s (by decide), if_neg (by decide), if_neg (by decide), if_pos ⟨rfl, rfl⟩, fo_three, angP_end, addM_nil]
    · have hl := parP_lt c s
      rw [fo_par true c s st (by simp) (fun _ => h1), fo_ang n (parP c s).2 _ (by omega) (by rw [addM_n]; exact h0), addM_add, angP_step c s h1]
/-- How both ways know the same of a piece. -/
def RelM (st : Pst) (d : Bs) (m : Mst) : Prop := match st with
  | none => m.2.2 = 0 ∧ m.1 = d
  | some p => 2 ≤ m.2.2 ∧ trimA m.1 = p.1 ∧ trimA m.2.1 = p.2
theorem rel_ad {st : Pst} {d : Bs} {m : Mst} (h : RelM st d m) : adM m = adOf st d := by
  cases st with
  | none =>
    obtain ⟨h1, h2⟩ := h
    unfold adM adOf
    rw [if_neg (by omega), h2]
  | some p =>
    obtain ⟨h1, h2, h3⟩ := h
    unfold adM adOf
    rw [if_pos (by omega), h2, h3]
theorem em_no : em (adM st0) = [] := by decide +kernel
theorem fo_pie : ∀ (n : Nat) (s : Bs) (st : Pst) (d : Bs) (m : Mst), s.length ≤ n → (st = none → m.2.1 = []) → RelM st d m → foM m (mk false false 0 s) = em (adOf (pieP st d s).1 (pieP st d s).2.1) ++ foM st0 (mk false false 0 (pieP st d s).2.2)
  | _, [], st, d, m, _, _, hr => by rw [mk_nil, pieP_nil, foM, rel_ad hr, mk_nil, foM, em_no, List.append_nil]
  | 0, c :: s, st, d, m, h, _, hr => by simp at h
  | n + 1, c :: s, st, d, m, h, hi, hr => by
    have hs : s.length ≤ n := by simpa using h
    by_cases h1 : c = 44
    · subst h1
      rw [mk_out false 44 s (by decide), if_neg (by decide), if_neg (by decide), if_neg (by decide), if_pos ⟨rfl, rfl⟩, fo_four, pieP_comma, rel_ad hr]
    · by_cases h2 : c = 60
      · subst h2
        have hl := angP_lt s
        rw [mk_out false 60 s (by decide), if_neg (by decide), if_pos ⟨rfl, rfl⟩, fo_two, fo_ang _ s _ (Nat.le_refl _) (by simp [incM]), pieP_angle]
        refine fo_pie n (angP s).2 _ _ _ (by omega) (by simp) ?_
        obtain ⟨ah, il, nn⟩ := m
        cases st with
        | none =>
          obtain ⟨e1, e2⟩ := hr
          have e3 := hi rfl
          simp only at e1 e2 e3
          subst e1 e2 e3
          exact ⟨by simp [incM, addM], by simp [incM, addM], by simp [incM, addM]⟩
        | some p =>
          obtain ⟨e1, e2, e3⟩ := hr
          simp only at e1 e2 e3
          have ha : addM (ah, il, nn + 1) (angP s).1 = (ah, il, nn + 1) := by unfold addM; simp only; rw [if_neg (by omega), if_neg (by omega)]
          show RelM (some p) [] (incM (addM (incM (ah, il, nn)) (angP s).1))
          rw [show incM (ah, il, nn) = (ah, il, nn + 1) from rfl, ha]
          exact ⟨by show 2 ≤ nn + 1 + 1; omega, e2, e3⟩
      · have hl := parP_lt c s
        rw [fo_par false c s m (fun _ => ⟨h2, h1⟩) (by simp), pieP_step st d c s h1 h2]
        obtain ⟨ah, il, nn⟩ := m
        refine fo_pie n (parP c s).2 st _ _ (by omega) ?_ ?_
        · intro e
          have e3 := hi e
          cases st with
          | none =>
            obtain ⟨e1, e2⟩ := hr
            simp only at e1 e2 e3
            unfold addM
            simp [e1, e3]
          | some p => simp at e
        · cases st with
          | none =>
            obtain ⟨e1, e2⟩ := hr
            simp only at e1 e2
            subst e1 e2
            exact ⟨by simp [addM], by simp [addM]⟩
          | some p =>
            obtain ⟨e1, e2, e3⟩ := hr
            simp only at e1 e2 e3
            have ha : addM (ah, il, nn) (parP c s).1 = (ah, il, nn) := by unfold addM; simp only; rw [if_neg (by omega), if_neg (by omega)]
            rw [ha]
            exact ⟨e1, e2, e3⟩
theorem fo_ads : ∀ (n : Nat) (s : Bs), s.length ≤ n → foM st0 (mk false false 0 s) = adsP s
  | 0, s, h => by
    have : s = [] := List.eq_nil_of_length_eq_zero (by omega)
    subst this
    rw [mk_nil, foM, em_no]; rfl
  | n + 1, s, h => by
    by_cases h0 : s = []
    · subst h0
      rw [mk_nil, foM, em_no]; rfl
    · have hl := List.length_pos_iff.2 h0
      have h1 := pieP_lt _ none [] s (Nat.le_refl _)
      rw [fo_pie _ s none [] st0 (Nat.le_refl _) (fun _ => rfl) ⟨rfl, rfl⟩, fo_ads n _ (by omega), adsP_step s h0]
      rfl
end Go.Proofs.YtemgpghjolpneaaGreatDoor
