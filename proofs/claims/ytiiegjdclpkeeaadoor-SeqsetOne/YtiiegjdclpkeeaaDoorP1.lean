/- What this text holds: plain facts of spans of numbers: what they cover, the one way of a set, and how sorted spans are joined. -/
namespace Go.Proofs.YtiiegjdclpkeeaaDoor
set_option linter.unusedVariables false

abbrev Sp := Int × Int
/-- The greatest number. -/
def mx : Int := 4294967295
/-- An end as a number. -/
def kn (n most : Int) : Int := if n = 0 then most else n
/-- Does a span cover a number, with most? -/
def covB (s : Sp) (n most : Int) : Bool :=
  if (s.1 = 0 ∨ s.2 = 0) ∧ most < 1 then false
  else decide ((kn s.1 most ≤ n ∧ n ≤ kn s.2 most) ∨ (kn s.2 most ≤ n ∧ n ≤ kn s.1 most))
def hasB (l : List Sp) (n most : Int) : Bool := l.any fun s => decide (1 ≤ n) && covB s n most
/-- The numbers from 1 on that a span covers. -/
def rchA (s : Sp) (most : Int) : Sp := (max 1 (min (kn s.1 most) (kn s.2 most)), max (kn s.1 most) (kn s.2 most))
def rchB (s : Sp) (most : Int) : Bool := if most < 1 ∧ (s.1 = 0 ∨ s.2 = 0) then false else decide ((rchA s most).1 ≤ (rchA s most).2)
def inS (s : Sp) (n : Int) : Bool := decide (s.1 ≤ n ∧ n ≤ s.2)
theorem rch_cov (s : Sp) (n most : Int) : (rchB s most && inS (rchA s most) n) = (decide (1 ≤ n) && covB s n most) := by
  unfold rchB covB inS rchA
  by_cases h : most < 1 ∧ (s.1 = 0 ∨ s.2 = 0)
  · rw [if_pos h, if_pos ⟨h.2, h.1⟩]; simp
  · rw [if_neg h, if_neg (fun e => h ⟨e.2, e.1⟩)]
    generalize kn s.1 most = a
    generalize kn s.2 most = b
    rw [Bool.eq_iff_iff]
    simp only [Bool.and_eq_true, decide_eq_true_eq]
    omega
/-- The reaches of spans. -/
def rchs (l : List Sp) (most : Int) : List Sp := (l.filter fun s => rchB s most).map fun s => rchA s most
/-- Is a number in one of the spans? -/
def memS (l : List Sp) (n : Int) : Prop := ∃ s ∈ l, s.1 ≤ n ∧ n ≤ s.2
theorem mem_rchs (l : List Sp) (most n : Int) : memS (rchs l most) n ↔ hasB l n most = true := by
  unfold memS rchs hasB
  simp only [List.mem_map, List.mem_filter, List.any_eq_true]
  constructor
  · rintro ⟨s, ⟨x, ⟨hx, hr⟩, rfl⟩, h1, h2⟩
    refine ⟨x, hx, ?_⟩
    rw [← rch_cov, hr]
    simp [inS, h1, h2]
  · rintro ⟨x, hx, h⟩
    rw [← rch_cov] at h
    simp only [Bool.and_eq_true, inS, decide_eq_true_eq] at h
    exact ⟨_, ⟨x, ⟨hx, h.1⟩, rfl⟩, h.2⟩
theorem rch_ok (s : Sp) (most : Int) (h : rchB s most = true) : 1 ≤ (rchA s most).1 ∧ (rchA s most).1 ≤ (rchA s most).2 := by
  unfold rchB at h
  split at h
  · simp at h
  · refine ⟨?_, by simpa using h⟩
    unfold rchA; simp only; omega
theorem rchs_ok (l : List Sp) (most : Int) : ∀ s ∈ rchs l most, 1 ≤ s.1 ∧ s.1 ≤ s.2 := by
  intro s hs
  simp only [rchs, List.mem_map, List.mem_filter] at hs
  obtain ⟨x, ⟨_, hx⟩, rfl⟩ := hs
  exact rch_ok x most hx
/-- Spans rise, with gaps. -/
def Rise : List Sp → Prop
  | [] => True
  | s :: l => 1 ≤ s.1 ∧ s.1 ≤ s.2 ∧ (∀ t ∈ l, s.2 + 1 < t.1) ∧ Rise l
theorem Rise.ok {l : List Sp} (h : Rise l) : ∀ s ∈ l, 1 ≤ s.1 ∧ s.1 ≤ s.2 := by
  induction l with
  | nil => simp
  | cons a l ih =>
    intro s hs
    rcases List.mem_cons.1 hs with rfl | hs
    · exact ⟨h.1, h.2.1⟩
    · exact ih h.2.2.2 s hs
theorem memS_cons (a : Sp) (l : List Sp) (n : Int) : memS (a :: l) n ↔ (a.1 ≤ n ∧ n ≤ a.2) ∨ memS l n := by
  simp [memS]
theorem memS_nil (n : Int) : ¬ memS [] n := by simp [memS]
theorem memS_app (l m : List Sp) (n : Int) : memS (l ++ m) n ↔ memS l n ∨ memS m n := by
  simp only [memS, List.mem_append]
  constructor
  · rintro ⟨s, h | h, r⟩
    · exact .inl ⟨s, h, r⟩
    · exact .inr ⟨s, h, r⟩
  · rintro (⟨s, h, r⟩ | ⟨s, h, r⟩)
    · exact ⟨s, .inl h, r⟩
    · exact ⟨s, .inr h, r⟩
/-- One way of each set. -/
theorem rise_one : ∀ (l m : List Sp), Rise l → Rise m → (∀ n, memS l n ↔ memS m n) → l = m
  | [], [], _, _, _ => rfl
  | [], b :: m, _, hm, h => absurd ((h b.1).2 ((memS_cons _ _ _).2 (.inl ⟨by omega, hm.2.1⟩))) (memS_nil _)
  | a :: l, [], hl, _, h => absurd ((h a.1).1 ((memS_cons _ _ _).2 (.inl ⟨by omega, hl.2.1⟩))) (memS_nil _)
  | a :: l, b :: m, hl, hm, h => by
    obtain ⟨a1, a2, a3, a4⟩ := hl
    obtain ⟨b1, b2, b3, b4⟩ := hm
    have no_l : ∀ n, n ≤ a.2 + 1 → ¬ memS l n := by
      rintro n hn ⟨s, hs, h1, h2⟩
      have := a3 s hs; omega
    have no_m : ∀ n, n ≤ b.2 + 1 → ¬ memS m n := by
      rintro n hn ⟨s, hs, h1, h2⟩
      have := b3 s hs; omega
    have e1 : a.1 = b.1 := by
      have x := (h a.1).1 ((memS_cons _ _ _).2 (.inl ⟨by omega, a2⟩))
      have y := (h b.1).2 ((memS_cons _ _ _).2 (.inl ⟨by omega, b2⟩))
      rw [memS_cons] at x y
      have x' : b.1 ≤ a.1 := by
        rcases x with x | ⟨s, hs, h1, h2⟩
        · exact x.1
        · have := b3 s hs; omega
      have y' : a.1 ≤ b.1 := by
        rcases y with y | ⟨s, hs, h1, h2⟩
        · exact y.1
        · have := a3 s hs; omega
      omega
    have e2 : a.2 = b.2 := by
      rcases Int.lt_trichotomy a.2 b.2 with hlt | he | hgt
      · exfalso
        have y := (h (a.2 + 1)).2 ((memS_cons _ _ _).2 (.inl ⟨by omega, by omega⟩))
        rw [memS_cons] at y
        rcases y with y | y
        · omega
        · exact no_l _ (by omega) y
      · exact he
      · exfalso
        have y := (h (b.2 + 1)).1 ((memS_cons _ _ _).2 (.inl ⟨by omega, by omega⟩))
        rw [memS_cons] at y
        rcases y with y | y
        · omega
        · exact no_m _ (by omega) y
    have eab : a = b := Prod.ext e1 e2
    subst eab
    congr 1
    refine rise_one l m a4 b4 (fun n => ?_)
    have := h n
    rw [memS_cons, memS_cons] at this
    by_cases hn : n ≤ a.2
    · exact ⟨fun x => absurd x (no_l n (by omega)), fun x => absurd x (no_m n (by omega))⟩
    · constructor
      · intro x
        rcases this.1 (.inr x) with y | y
        · omega
        · exact y
      · intro x
        rcases this.2 (.inr x) with y | y
        · omega
        · exact y
theorem rise_app : ∀ (l : List Sp) (s : Sp), Rise (l ++ [s]) ↔ Rise l ∧ (1 ≤ s.1 ∧ s.1 ≤ s.2) ∧ ∀ t ∈ l, t.2 + 1 < s.1
  | [], s => by simp [Rise]
  | a :: l, s => by
    rw [List.cons_append]
    unfold Rise
    rw [rise_app l s]
    simp only [List.mem_append, List.mem_cons, List.not_mem_nil, or_false]
    constructor
    · rintro ⟨h1, h2, h3, h4, h5, h6⟩
      refine ⟨⟨h1, h2, fun t ht => h3 t (.inl ht), h4⟩, h5, ?_⟩
      rintro t (rfl | ht)
      · exact h3 s (.inr rfl)
      · exact h6 t ht
    · rintro ⟨⟨h1, h2, h3, h4⟩, h5, h6⟩
      refine ⟨h1, h2, ?_, h4, h5, fun t ht => h6 t (.inr ht)⟩
      rintro t (ht | rfl)
      · exact h3 t ht
      · exact h6 a (.inl rfl)
/-- What stands while sorted spans are joined: all up to k are in acc. -/
def JInv (done acc : List Sp) : Prop := Rise acc ∧ (∀ n, memS acc n ↔ memS done n) ∧ ∀ t ∈ acc, ∃ d ∈ done, t.1 = d.1
theorem jinv_nil : JInv [] [] := ⟨trivial, fun _ => Iff.rfl, fun _ h => by cases h⟩
theorem jinv_new {done acc : List Sp} (h : JInv done acc) (s : Sp) (hs : 1 ≤ s.1 ∧ s.1 ≤ s.2) (hn : ∀ t ∈ acc, t.2 + 1 < s.1) : JInv (done ++ [s]) (acc ++ [s]) := by
  obtain ⟨h1, h2, h3⟩ := h
  refine ⟨(rise_app _ _).2 ⟨h1, hs, hn⟩, fun n => ?_, ?_⟩
  · rw [memS_app, memS_app, h2 n]
  · intro t ht
    rcases List.mem_append.1 ht with ht | ht
    · obtain ⟨d, hd, e⟩ := h3 t ht
      exact ⟨d, List.mem_append.2 (.inl hd), e⟩
    · rw [List.mem_singleton] at ht
      exact ⟨s, by simp, by rw [ht]⟩
theorem rise_gap {acc : List Sp} {a s : Sp} (h : Rise (acc ++ [a])) (hs : a.2 + 1 < s.1) : ∀ t ∈ acc ++ [a], t.2 + 1 < s.1 := by
  intro t ht
  rw [rise_app] at h
  rcases List.mem_append.1 ht with ht | ht
  · have := h.2.2 t ht; omega
  · rw [List.mem_singleton] at ht; subst ht; exact hs
theorem jinv_old {done acc : List Sp} {a : Sp} (h : JInv done (acc ++ [a])) (s : Sp) (hs : s.1 ≤ s.2) (hd : ∀ d ∈ done, d.1 ≤ s.1) (hn : s.1 - 1 ≤ a.2) : JInv (done ++ [s]) (acc ++ [(a.1, max a.2 s.2)]) := by
  obtain ⟨h1, h2, h3⟩ := h
  rw [rise_app] at h1
  have ha : a.1 ≤ s.1 := by
    obtain ⟨d, hd', e⟩ := h3 a (by simp)
    rw [e]; exact hd d hd'
  refine ⟨(rise_app _ _).2 ⟨h1.1, ⟨h1.2.1.1, by simp only; have := h1.2.1.2; omega⟩, h1.2.2⟩, fun n => ?_, ?_⟩
  · have := h2 n
    rw [memS_app, memS_cons] at this
    rw [memS_app, memS_app, memS_cons, memS_cons, ← this]
    simp only [memS_nil, or_false]
    have := h1.2.1.2
    constructor
    · rintro (h | ⟨h5, h6⟩)
      · exact .inl (.inl h)
      · by_cases h7 : n ≤ a.2
        · exact .inl (.inr ⟨h5, h7⟩)
        · exact .inr ⟨by omega, by omega⟩
    · rintro ((h | ⟨h5, h6⟩) | ⟨h5, h6⟩)
      · exact .inl h
      · exact .inr ⟨h5, by omega⟩
      · exact .inr ⟨by omega, by omega⟩
  · intro t ht
    rcases List.mem_append.1 ht with ht | ht
    · obtain ⟨d, hd', e⟩ := h3 t (by simp [ht])
      exact ⟨d, by simp [hd'], e⟩
    · rw [List.mem_singleton] at ht
      subst ht
      obtain ⟨d, hd', e⟩ := h3 a (by simp)
      exact ⟨d, by simp [hd'], e⟩
/-- A set cut at the greatest number. -/
def cutP (l : List Sp) : List Sp := (l.filter fun s => decide (s.1 ≤ mx)).map fun s => (s.1, min s.2 mx)
theorem rise_cut : ∀ {l : List Sp}, Rise l → Rise (cutP l)
  | [], _ => trivial
  | a :: l, h => by
    obtain ⟨h1, h2, h3, h4⟩ := h
    have ih := rise_cut h4
    unfold cutP at ih ⊢
    by_cases ha : a.1 ≤ mx
    · rw [List.filter_cons_of_pos (by simpa using ha), List.map_cons]
      refine ⟨h1, by simp only; omega, ?_, ih⟩
      intro t ht
      simp only [List.mem_map, List.mem_filter] at ht
      obtain ⟨x, ⟨hx, _⟩, rfl⟩ := ht
      have := h3 x hx
      simp only; omega
    · rw [List.filter_cons_of_neg (by simpa using ha)]
      exact ih
theorem mem_cut (l : List Sp) (n : Int) : memS (cutP l) n ↔ n ≤ mx ∧ memS l n := by
  unfold memS cutP
  simp only [List.mem_map, List.mem_filter, decide_eq_true_eq]
  constructor
  · rintro ⟨s, ⟨x, ⟨hx, hm⟩, rfl⟩, h1, h2⟩
    simp only at h1 h2
    exact ⟨by omega, x, hx, h1, by omega⟩
  · rintro ⟨hn, x, hx, h1, h2⟩
    exact ⟨_, ⟨x, ⟨hx, by omega⟩, rfl⟩, h1, by simp only; omega⟩
/-- A rising set has a number just where the first span that ends no earlier begins no later. -/
theorem rise_search : ∀ {l : List Sp}, Rise l → ∀ n, memS l n ↔ ∃ s, l[l.countP fun s => decide (s.2 < n)]? = some s ∧ s.1 ≤ n
  | [], _, n => by simp [memS]
  | a :: l, h, n => by
    obtain ⟨h1, h2, h3, h4⟩ := h
    have ih := rise_search h4 n
    by_cases ha : a.2 < n
    · rw [List.countP_cons_of_pos (by simpa using ha), List.getElem?_cons_succ, memS_cons, ← ih]
      constructor
      · rintro (h | h)
        · omega
        · exact h
      · exact .inr
    · have hz : (l.countP fun s => decide (s.2 < n)) = 0 := by
        rw [List.countP_eq_zero]
        intro s hs
        have := h3 s hs
        have := (Rise.ok h4 s hs).2
        simp; omega
      rw [List.countP_cons_of_neg (by simpa using ha), hz, memS_cons]
      simp only [List.getElem?_cons_zero, Option.some.injEq]
      constructor
      · rintro (h | ⟨s, hs, h5, h6⟩)
        · exact ⟨a, rfl, h.1⟩
        · have := h3 s hs; omega
      · rintro ⟨s, rfl, h5⟩
        exact .inl ⟨h5, by omega⟩
theorem rise_hi : ∀ {l : List Sp}, Rise l → ∀ (i j : Nat), i ≤ j → ∀ (a b : Sp), l[i]? = some a → l[j]? = some b → a.2 ≤ b.2
  | [], _, i, j, _, a, b, h, _ => by simp at h
  | x :: l, h, 0, 0, _, a, b, h1, h2 => by simp at h1 h2; subst h1 h2; omega
  | x :: l, h, 0, j + 1, _, a, b, h1, h2 => by
    simp at h1 h2; subst h1
    have hm := List.mem_of_getElem? h2
    have := h.2.2.1 b hm
    have := (Rise.ok h.2.2.2 b hm).2
    omega
  | x :: l, h, i + 1, 0, hij, _, _, _, _ => by omega
  | x :: l, h, i + 1, j + 1, hij, a, b, h1, h2 => rise_hi h.2.2.2 i j (by omega) a b (by simpa using h1) (by simpa using h2)
theorem hasB_false_of (l : List Sp) (n most : Int) (h : n < 1) : hasB l n most = false := by
  unfold hasB
  rw [List.any_eq_false]
  intro s _
  simp; omega
theorem hasB_rise {l : List Sp} (h : Rise l) (n most : Int) : hasB l n most = true ↔ memS l n := by
  unfold hasB memS
  simp only [List.any_eq_true, Bool.and_eq_true, decide_eq_true_eq]
  constructor
  · rintro ⟨s, hs, h1, h2⟩
    refine ⟨s, hs, ?_⟩
    have ho := Rise.ok h s hs
    unfold covB at h2
    rw [if_neg (by omega)] at h2
    unfold kn at h2
    rw [if_neg (by omega), if_neg (by omega)] at h2
    simp at h2; omega
  · rintro ⟨s, hs, h1, h2⟩
    have ho := Rise.ok h s hs
    refine ⟨s, hs, by omega, ?_⟩
    unfold covB
    rw [if_neg (by omega)]
    unfold kn
    rw [if_neg (by omega), if_neg (by omega)]
    simp; omega
end Go.Proofs.YtiiegjdclpkeeaaDoor
