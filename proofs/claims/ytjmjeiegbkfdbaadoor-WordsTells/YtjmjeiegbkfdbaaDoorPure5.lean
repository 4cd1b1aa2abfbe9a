/- What this text holds: the document's way to an encoded word, and to lines of them; both ways are one. No program in it. -/
import Derived.Test.YtjmjeiegbkfdbaaDoorPure3
namespace Go.Proofs.YtjmjeiegbkfdbaaDoor
set_option linter.unusedVariables false
set_option linter.unusedSimpArgs false

def graph (c : UInt8) : Bool := decide (33 ≤ c.toNat) && decide (c.toNat ≤ 126)
/-- Up to the next ?, and what is behind it. -/
def pos (l : Bs) : Option (Bs × Bs) := if 63 ∈ l then some (l.takeWhile (· != 63), (l.dropWhile (· != 63)).drop 1) else none
theorem pos_none {l : Bs} (h : pos l = none) : 63 ∉ l := by
  unfold pos at h
  split at h
  · cases h
  · assumption
theorem pos_some : ∀ {l u r : Bs}, pos l = some (u, r) → l = u ++ 63 :: r ∧ ∀ c ∈ u, c ≠ 63
  | [], u, r, h => by simp [pos] at h
  | a :: l, u, r, h => by
    unfold pos at h
    split at h
    · next hm =>
      simp only [Option.some.injEq, Prod.mk.injEq] at h
      obtain ⟨rfl, rfl⟩ := h
      by_cases ha : a = 63
      · subst ha; simp
      · have hm' : 63 ∈ l := by
          rcases List.mem_cons.1 hm with e | e
          · exact absurd e.symm ha
          · exact e
        have ih := pos_some (l := l) (u := l.takeWhile (· != 63)) (r := (l.dropWhile (· != 63)).drop 1) (by unfold pos; rw [if_pos hm'])
        have hb : (a != 63) = true := by simp [ha]
        constructor
        · rw [List.takeWhile_cons_of_pos (p := (· != 63)) hb, List.dropWhile_cons_of_pos (p := (· != 63)) hb, List.cons_append, ← ih.1]
        · intro c hc
          rw [List.takeWhile_cons_of_pos (p := (· != 63)) hb] at hc
          rcases List.mem_cons.1 hc with rfl | hc
          · exact ha
          · exact ih.2 c hc
    · cases h
theorem pos_of {u r : Bs} (h : ∀ c ∈ u, c ≠ 63) : pos (u ++ 63 :: r) = some (u, r) := by
  unfold pos
  rw [if_pos (by simp)]
  have := take_all (· != 63) 63 (by decide) r u (fun a ha => by simp [h a ha])
  rw [this.1, this.2]
  rfl
theorem plain_graph (c : UInt8) : plain c = (graph c && c != 63) := by
  unfold plain graph
  congr 1
/-- What stands ahead of a ? is a run of plain bytes, if all of them are graphic; else there is no ? behind that run. -/
theorem run_yes {u r : Bs} (h : ∀ c ∈ u, c ≠ 63) (hg : u.all graph = true) : (u ++ 63 :: r).takeWhile plain = u ∧ (u ++ 63 :: r).dropWhile plain = 63 :: r := by
  refine take_all plain 63 (by decide) r u fun a ha => ?_
  rw [plain_graph]
  have := List.all_eq_true.1 hg a ha
  simp [this, h a ha]
theorem run_no (l : Bs) : ∀ u : Bs, (∀ c ∈ u, c ≠ 63) → u.all graph = false → ∀ q, pre (63 :: q) ((u ++ l).dropWhile plain) = false
  | [], _, hg, q => by simp at hg
  | a :: u, h, hg, q => by
    have ha : a ≠ 63 := h a (by simp)
    by_cases hp : graph a = true
    · have hpl : plain a = true := by rw [plain_graph]; simp [hp, ha]
      rw [List.cons_append, List.dropWhile_cons_of_pos hpl]
      exact run_no l u (fun c hc => h c (by simp [hc])) (by simpa [hp] using hg) q
    · have hpl : ¬ plain a = true := by rw [plain_graph]; simp [hp]
      rw [List.cons_append, List.dropWhile_cons_of_neg hpl]
      exact pre_head ha
theorem run_none : ∀ l : Bs, 63 ∉ l → ∀ q, pre (63 :: q) (l.dropWhile plain) = false
  | [], _, q => by simp [pre]
  | a :: l, h, q => by
    have ha : a ≠ 63 := fun e => h (by simp [e])
    by_cases hp : plain a = true
    · rw [List.dropWhile_cons_of_pos hp]
      exact run_none l (fun e => h (by simp [e])) q
    · rw [List.dropWhile_cons_of_neg hp]
      exact pre_head ha
theorem cut_none {p l : Bs} (h : pre p l = false) : cut p l = none := by unfold cut; rw [if_neg (by rw [h]; simp)]
theorem says_way {cs way tx : Bs} (h1 : way ≠ [98]) (h2 : way ≠ [113]) : says cs way tx = none := by
  have : written way tx = none := by unfold written; rw [if_neg h1, if_neg h2]
  unfold says
  rw [this]
  split
  · rfl
  · split <;> rfl
/-- The document's encoded word, step by step. -/
theorem wordR1 {l : Bs} (h : pre [61, 63] l = false) : word l = none := word_no l h
theorem wordR2 {l1 : Bs} (h : pos l1 = none) : word (61 :: 63 :: l1) = none := by
  unfold word
  rw [show (61 : UInt8) :: 63 :: l1 = [61, 63] ++ l1 from rfl, cut_app]
  simp only [Option.bind_some]
  rw [cut_none (run_none l1 (pos_none h) [])]
  rfl
theorem wordR3 {l1 u1 r1 : Bs} (h : pos l1 = some (u1, r1)) (hg : u1.all graph = false) : word (61 :: 63 :: l1) = none := by
  obtain ⟨rfl, hu⟩ := pos_some h
  unfold word
  rw [show (61 : UInt8) :: 63 :: (u1 ++ 63 :: r1) = [61, 63] ++ (u1 ++ 63 :: r1) from rfl, cut_app]
  simp only [Option.bind_some]
  rw [cut_none (run_no _ u1 hu hg [])]
  rfl
theorem wordR4 {l1 u1 r1 : Bs} (h : pos l1 = some (u1, r1)) (hg : u1.all graph = true) : word (61 :: 63 :: l1) = (cut [63] (r1.drop 1)).bind fun l3 => (cut [63, 61] (l3.dropWhile plain)).bind fun l4 =>
    (says u1 (low (r1.take 1)) (l3.takeWhile plain)).map fun x => (x, l4) := by
  obtain ⟨rfl, hu⟩ := pos_some h
  obtain ⟨a1, a2⟩ := run_yes (r := r1) hu hg
  unfold word
  rw [show (61 : UInt8) :: 63 :: (u1 ++ 63 :: r1) = [61, 63] ++ (u1 ++ 63 :: r1) from rfl, cut_app]
  simp only [Option.bind_some, a1, a2]
  rw [show (63 : UInt8) :: r1 = [63] ++ r1 from rfl, cut_app]
  rfl
/-- The way is one letter, ahead of a ?. -/
theorem way_bad {l1 u1 r1 : Bs} (h : pos l1 = some (u1, r1)) (hg : u1.all graph = true) (hw : ∀ x l3, r1 = x :: 63 :: l3 → low [x] ≠ [98] ∧ low [x] ≠ [113]) : word (61 :: 63 :: l1) = none := by
  rw [wordR4 h hg]
  match r1, hw with
  | [], _ => rfl
  | [x], _ => rfl
  | x :: y :: l3, hw =>
    by_cases hy : y = 63
    · subst hy
      have := hw x l3 rfl
      rw [show List.drop 1 (x :: 63 :: l3) = [63] ++ l3 from rfl, cut_app]
      simp only [Option.bind_some]
      rw [show low (List.take 1 (x :: 63 :: l3)) = low [x] from rfl, says_way this.1 this.2]
      cases cut [63, 61] (l3.dropWhile plain) <;> rfl
    · rw [show List.drop 1 (x :: y :: l3) = y :: l3 from rfl, cut_none (pre_head hy)]
      rfl
theorem wordR5 {l1 u1 r1 : Bs} (h : pos l1 = some (u1, r1)) (hg : u1.all graph = true) (h2 : pos r1 = none) : word (61 :: 63 :: l1) = none := by
  refine way_bad h hg fun x l3 e => ?_
  subst e
  exact absurd (by simp) (pos_none h2)
theorem wordR6 {l1 u1 r1 u2 r2 : Bs} (h : pos l1 = some (u1, r1)) (hg : u1.all graph = true) (h2 : pos r1 = some (u2, r2)) (hw : low u2 ≠ [98] ∧ low u2 ≠ [113]) : word (61 :: 63 :: l1) = none := by
  refine way_bad h hg fun x l3 e => ?_
  obtain ⟨e2, hu⟩ := pos_some h2
  by_cases hx : x = 63
  · subst hx; exact ⟨by decide, by decide⟩
  · have : pos r1 = some ([x], l3) := by
      rw [e]
      exact pos_of (u := [x]) (r := l3) (by simpa using hx)
    rw [h2] at this
    cases this
    exact hw
theorem low_one {u : Bs} {c : UInt8} (h : low u = [c]) : ∃ x, u = [x] := by
  have : u.length = 1 := by
    have := congrArg List.length h
    rwa [low_len] at this
  match u, this with
  | [x], _ => exact ⟨x, rfl⟩
theorem wordR7 {l1 u1 r1 u2 r2 : Bs} (h : pos l1 = some (u1, r1)) (hg : u1.all graph = true) (h2 : pos r1 = some (u2, r2)) (hw : low u2 = [98] ∨ low u2 = [113]) :
    word (61 :: 63 :: l1) = (cut [63, 61] (r2.dropWhile plain)).bind fun l4 => (says u1 (low u2) (r2.takeWhile plain)).map fun x => (x, l4) := by
  obtain ⟨x, rfl⟩ : ∃ x, u2 = [x] := by
    rcases hw with hw | hw
    · exact low_one hw
    · exact low_one hw
  obtain ⟨e2, hu⟩ := pos_some h2
  rw [wordR4 h hg, e2]
  rw [show List.drop 1 ([x] ++ 63 :: r2) = [63] ++ r2 from rfl, cut_app]
  rfl
theorem wordR8 {l1 u1 r1 u2 r2 : Bs} (h : pos l1 = some (u1, r1)) (hg : u1.all graph = true) (h2 : pos r1 = some (u2, r2)) (h3 : pos r2 = none) : word (61 :: 63 :: l1) = none := by
  by_cases hw : low u2 = [98] ∨ low u2 = [113]
  · rw [wordR7 h hg h2 hw, cut_none (run_none r2 (pos_none h3) [61])]
    rfl
  · exact wordR6 h hg h2 ⟨fun e => hw (.inl e), fun e => hw (.inr e)⟩
theorem wordR9 {l1 u1 r1 u2 r2 u3 r3 : Bs} (h : pos l1 = some (u1, r1)) (hg : u1.all graph = true) (h2 : pos r1 = some (u2, r2)) (h3 : pos r2 = some (u3, r3)) (hb : pre [61] r3 = false ∨ u3.all graph = false) : word (61 :: 63 :: l1) = none := by
  by_cases hw : low u2 = [98] ∨ low u2 = [113]
  · rw [wordR7 h hg h2 hw]
    obtain ⟨rfl, hu⟩ := pos_some h3
    rcases Bool.eq_false_or_eq_true (u3.all graph) with hg3 | hg3
    · obtain ⟨a1, a2⟩ := run_yes (r := r3) hu hg3
      rw [a2]
      have : pre [63, 61] (63 :: r3) = false := by
        rcases hb with hb | hb
        · unfold pre at hb ⊢
          cases r3 with
          | nil => simp
          | cons a r => simpa using hb
        · rw [hg3] at hb; cases hb
      rw [cut_none this]
      rfl
    · rw [cut_none (run_no _ u3 hu hg3 [61])]
      rfl
  · exact wordR6 h hg h2 ⟨fun e => hw (.inl e), fun e => hw (.inr e)⟩
theorem wordR10 {l1 u1 r1 u2 r2 u3 r4 : Bs} (h : pos l1 = some (u1, r1)) (hg : u1.all graph = true) (h2 : pos r1 = some (u2, r2)) (h3 : pos r2 = some (u3, 61 :: r4)) (hg3 : u3.all graph = true) (hw : low u2 = [98] ∨ low u2 = [113]) :
    word (61 :: 63 :: l1) = (says u1 (low u2) u3).map fun x => (x, r4) := by
  rw [wordR7 h hg h2 hw]
  obtain ⟨rfl, hu⟩ := pos_some h3
  obtain ⟨a1, a2⟩ := run_yes (r := 61 :: r4) hu hg3
  rw [a1, a2, show (63 : UInt8) :: 61 :: r4 = [63, 61] ++ r4 from rfl, cut_app]
  rfl
theorem graph_small : ∀ n : Fin 256, graph (small (UInt8.ofNat n.val)) = graph (UInt8.ofNat n.val) := by decide +kernel
theorem graph_low (u : Bs) : (low u).all graph = u.all graph := by
  unfold low
  rw [List.all_map]
  congr 1
  funext c
  have := graph_small ⟨c.toNat, c.toNat_lt⟩
  simp only [u8_of] at this
  exact this

/-- Lines, by the document's way. -/
def skip (r : Bs) : Bs := if (word (r.dropWhile blank)).isSome then r.dropWhile blank else r
theorem skip_len (r : Bs) : (skip r).length ≤ r.length := by
  unfold skip
  split
  · exact drop_len blank r
  · exact Nat.le_refl _
def wordsRN : Nat → Bs → Bs
  | 0, _ => []
  | n + 1, l => if l = [] then [] else match word l with
    | some (x, r) => x ++ wordsRN n (skip r)
    | none => l.take 1 ++ wordsRN n (l.drop 1)
def wordsR (l : Bs) : Bs := wordsRN l.length l
theorem wordsRN_more : ∀ (n m : Nat) (l : Bs), l.length ≤ n → l.length ≤ m → wordsRN n l = wordsRN m l
  | 0, 0, l, h1, h2 => rfl
  | 0, m + 1, l, h1, h2 => by
    have : l = [] := List.eq_nil_of_length_eq_zero (by omega)
    subst this; simp [wordsRN]
  | n + 1, 0, l, h1, h2 => by
    have : l = [] := List.eq_nil_of_length_eq_zero (by omega)
    subst this; simp [wordsRN]
  | n + 1, m + 1, l, h1, h2 => by
    unfold wordsRN
    by_cases h0 : l = []
    · simp [h0]
    · rw [if_neg h0, if_neg h0]
      have hl : 0 < l.length := by cases l with | nil => exact absurd rfl h0 | cons => simp
      split
      · next x r hw =>
        have := word_len hw
        have := skip_len r
        rw [wordsRN_more n m (skip r) (by omega) (by omega)]
      · rw [wordsRN_more n m _ (by rw [List.length_drop]; omega) (by rw [List.length_drop]; omega)]
theorem wordsR_nil : wordsR [] = [] := rfl
theorem wordsR_some {l x r : Bs} (h0 : l ≠ []) (h : word l = some (x, r)) : wordsR l = x ++ wordsR (skip r) := by
  have hl : 0 < l.length := by cases l with | nil => exact absurd rfl h0 | cons => simp
  have h1 := word_len h
  have h2 := skip_len r
  unfold wordsR
  rw [wordsRN_more l.length (l.length - 1 + 1) l (by omega) (by omega), wordsRN, if_neg h0, h]
  simp only
  rw [wordsRN_more (l.length - 1) (skip r).length (skip r) (by omega) (by omega)]
theorem wordsR_none {l : Bs} (h0 : l ≠ []) (h : word l = none) : wordsR l = l.take 1 ++ wordsR (l.drop 1) := by
  have hl : 0 < l.length := by cases l with | nil => exact absurd rfl h0 | cons => simp
  unfold wordsR
  rw [wordsRN_more l.length (l.length - 1 + 1) l (by omega) (by omega), wordsRN, if_neg h0, h]
  simp only
  rw [wordsRN_more (l.length - 1) _ _ (by rw [List.length_drop]; omega) (Nat.le_refl _)]
theorem blank_ne {c : UInt8} (h : blank c = true) : c ≠ 61 := by
  rintro rfl
  exact absurd h (by decide)
theorem wordsR_blanks (m : Bs) : ∀ g : Bs, (∀ c ∈ g, blank c = true) → wordsR (g ++ m) = g ++ wordsR m
  | [], _ => rfl
  | a :: g, h => by
    have ha := blank_ne (h a (by simp))
    rw [List.cons_append, wordsR_none (by simp) (word_no _ (pre_head ha))]
    simp only [List.take_succ_cons, List.take_zero, List.drop_succ_cons, List.drop_zero]
    rw [wordsR_blanks m g (fun c hc => h c (by simp [hc]))]
    rfl
theorem take_blank (l : Bs) : ∀ c ∈ l.takeWhile blank, blank c = true := by
  induction l with
  | nil => simp
  | cons a l ih =>
    intro c hc
    by_cases ha : blank a = true
    · rw [List.takeWhile_cons_of_pos ha] at hc
      rcases List.mem_cons.1 hc with rfl | hc
      · exact ha
      · exact ih c hc
    · rw [List.takeWhile_cons_of_neg ha] at hc
      cases hc
theorem ways : ∀ (n : Nat) (l : Bs), l.length ≤ n → wordsP false l = wordsR l ∧ wordsP true l = wordsR (skip l)
  | 0, l, h => by
    have : l = [] := List.eq_nil_of_length_eq_zero (by omega)
    subst this; exact ⟨rfl, by unfold skip; split <;> rfl⟩
  | n + 1, l, h => by
    by_cases h0 : l = []
    · subst h0; exact ⟨rfl, by unfold skip; split <;> rfl⟩
    · have hb := take_blank l
      have hl : l = l.takeWhile blank ++ l.dropWhile blank := (List.takeWhile_append_dropWhile (p := blank) (l := l)).symm
      have hrl := rest_lt l h0
      have hdl := drop_len blank l
      have hR : wordsR l = l.takeWhile blank ++ wordsR (l.dropWhile blank) := by
        have := wordsR_blanks (l.dropWhile blank) (l.takeWhile blank) hb
        rwa [← hl] at this
      rcases hw : word (l.dropWhile blank) with _ | ⟨x, r⟩
      · have e : wordsP false l = wordsR l := by
          rw [wordsP_none h0 hw, hR]
          by_cases hm : l.dropWhile blank = []
          · rw [hm]; simp [wordsP_nil, wordsR_nil]
          · rw [wordsR_none hm hw, (ways n _ (by omega)).1, List.append_assoc]
        refine ⟨e, ?_⟩
        have hs : skip l = l := by unfold skip; rw [hw]; rfl
        rw [hs, ← e, wordsP_none h0 hw, wordsP_none h0 hw]
      · have hwl := word_len hw
        have hm : l.dropWhile blank ≠ [] := by
          intro e
          rw [e] at hw
          cases hw
        have ih := (ways n r (by omega)).2
        constructor
        · rw [wordsP_some h0 hw, hR, wordsR_some hm hw, ih]
          simp
        · have hs : skip l = l.dropWhile blank := by unfold skip; rw [hw]; rfl
          rw [hs, wordsP_some h0 hw, wordsR_some hm hw, ih]
          simp
theorem both_ways (l : Bs) : wordsP false l = wordsR l := (ways _ l (Nat.le_refl _)).1
end Go.Proofs.YtjmjeiegbkfdbaaDoor
