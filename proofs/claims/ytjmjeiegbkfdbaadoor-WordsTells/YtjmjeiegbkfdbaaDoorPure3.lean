/- What this text holds: what an encoded word says, as plain facts; lines of such words. No program in it. -/
import Derived.Test.YtjmjeiegbkfdbaaDoorPure2
namespace Go.Proofs.YtjmjeiegbkfdbaaDoor
set_option linter.unusedVariables false
set_option linter.unusedSimpArgs false

theorem word_no (l : Bs) (h : pre [61, 63] l = false) : word l = none := by
  unfold word cut
  rw [if_neg (by rw [h]; simp)]
  rfl
theorem pre_head {p c : UInt8} {q l : Bs} (h : c ≠ p) : pre (p :: q) (c :: l) = false := by
  unfold pre
  simp [h]
theorem words_plain : ∀ (n : Nat) (b : Bool) (l : Bs), l.length ≤ n → (∀ c ∈ l, c ≠ 61) → wordsP b l = l
  | 0, b, l, h, _ => by
    have : l = [] := List.eq_nil_of_length_eq_zero (by omega)
    subst this; rfl
  | n + 1, b, l, h, hp => by
    by_cases h0 : l = []
    · subst h0; rfl
    · have hm : ∀ c ∈ l.dropWhile blank, c ≠ 61 := fun c hc => hp c ((List.dropWhile_suffix blank).subset hc)
      have hw : word (l.dropWhile blank) = none := by
        apply word_no
        cases hd : l.dropWhile blank with
        | nil => rfl
        | cons c r => exact pre_head (hm c (by rw [hd]; simp))
      have hr := rest_lt l h0
      rw [wordsP_none h0 hw, words_plain n false _ (by omega) (fun c hc => hm c (List.mem_of_mem_drop hc)), List.append_assoc, List.take_append_drop, List.takeWhile_append_dropWhile]
/-- An encoded word. -/
def ew (cs : Bs) (way : UInt8) (tx : Bs) : Bs := [61, 63] ++ cs ++ [63, way, 63] ++ tx ++ [63, 61]
theorem take_all (p : UInt8 → Bool) (c : UInt8) (hc : p c = false) (r : Bs) : ∀ x : Bs, (∀ a ∈ x, p a = true) → (x ++ c :: r).takeWhile p = x ∧ (x ++ c :: r).dropWhile p = c :: r
  | [], _ => by simp [hc]
  | a :: x, h => by
    have ha := h a (by simp)
    have ih := take_all p c hc r x (fun b hb => h b (by simp [hb]))
    simp [ha, ih.1, ih.2]
theorem cut_app (p l : Bs) : cut p (p ++ l) = some l := by
  unfold cut pre
  rw [if_pos (by simp)]
  simp
theorem word_ew (cs tx r x : Bs) (way : UInt8) (h1 : ∀ c ∈ cs, plain c = true) (h2 : ∀ c ∈ tx, plain c = true) (hs : says cs (low [way]) tx = some x) : word (ew cs way tx ++ r) = some (x, r) := by
  have p63 : plain 63 = false := by decide
  have e : ew cs way tx ++ r = [61, 63] ++ (cs ++ 63 :: ([way] ++ ([63] ++ (tx ++ 63 :: ([61] ++ r))))) := by simp [ew]
  unfold word
  rw [e, cut_app]
  obtain ⟨a1, a2⟩ := take_all plain 63 p63 ([way] ++ ([63] ++ (tx ++ 63 :: ([61] ++ r)))) cs h1
  obtain ⟨b1, b2⟩ := take_all plain 63 p63 ([61] ++ r) tx h2
  simp only [Option.bind_some, a1, a2]
  rw [show (63 : UInt8) :: ([way] ++ ([63] ++ (tx ++ 63 :: ([61] ++ r)))) = [63] ++ ([way] ++ ([63] ++ (tx ++ 63 :: ([61] ++ r)))) from rfl, cut_app]
  simp only [Option.bind_some]
  have e2 : List.drop 1 (([way] : Bs) ++ ([63] ++ (tx ++ 63 :: ([61] ++ r)))) = ([63] : Bs) ++ (tx ++ 63 :: ([61] ++ r)) := rfl
  have e3 : List.take 1 (([way] : Bs) ++ ([63] ++ (tx ++ 63 :: ([61] ++ r)))) = [way] := rfl
  rw [e2, cut_app, e3]
  simp only [Option.bind_some, b1, b2]
  have e4 : (63 : UInt8) :: (([61] : Bs) ++ r) = ([63, 61] : Bs) ++ r := rfl
  rw [e4, cut_app, hs]
  rfl
theorem ew_head (cs tx r : Bs) (way : UInt8) : ∃ t, ew cs way tx ++ r = 61 :: t := ⟨_, rfl⟩
theorem not_blank61 : blank 61 = false := by decide
theorem head_drop {c : UInt8} {t : Bs} (h : blank c = false) : (c :: t).dropWhile blank = c :: t ∧ (c :: t).takeWhile blank = [] := by simp [h]
/-- An encoded word ahead of others, blanks between. -/
theorem words_ew (cs tx r x g : Bs) (way : UInt8) (b : Bool) (h1 : ∀ c ∈ cs, plain c = true) (h2 : ∀ c ∈ tx, plain c = true) (hs : says cs (low [way]) tx = some x) (hg : ∀ c ∈ g, blank c = true) :
    wordsP b (g ++ (ew cs way tx ++ r)) = (if b then [] else g) ++ x ++ wordsP true r := by
  obtain ⟨t, ht⟩ := ew_head cs tx r way
  obtain ⟨d1, d2⟩ := take_all blank 61 not_blank61 t g hg
  rw [ht]
  have hw : word ((g ++ 61 :: t).dropWhile blank) = some (x, r) := by
    rw [d2, ← ht]
    exact word_ew cs tx r x way h1 h2 hs
  rw [wordsP_some (by simp) hw, d1]
theorem words_ew0 (cs tx r x : Bs) (way : UInt8) (b : Bool) (h1 : ∀ c ∈ cs, plain c = true) (h2 : ∀ c ∈ tx, plain c = true) (hs : says cs (low [way]) tx = some x) :
    wordsP b (ew cs way tx ++ r) = x ++ wordsP true r := by
  have := words_ew cs tx r x [] way b h1 h2 hs (by simp)
  simpa using this
theorem words_ew1 (cs tx x : Bs) (way : UInt8) (b : Bool) (h1 : ∀ c ∈ cs, plain c = true) (h2 : ∀ c ∈ tx, plain c = true) (hs : says cs (low [way]) tx = some x) :
    wordsP b (ew cs way tx) = x := by
  have := words_ew0 cs tx [] x way b h1 h2 hs
  rw [List.append_nil, wordsP_nil, List.append_nil] at this
  exact this
theorem words_x (l : Bs) (c : UInt8) (b : Bool) (h1 : c ≠ 61) (h2 : blank c = false) : wordsP b (c :: l) = c :: wordsP false l := by
  obtain ⟨d1, d2⟩ := head_drop (t := l) h2
  rw [wordsP_none (by simp) (by rw [d1]; exact word_no _ (pre_head h1)), d1, d2]
  rfl
theorem b64_plain : ∀ (n : Nat) (l : Bs), l.length ≤ n → ∀ c ∈ b64 l, plain c = true
  | 0, l, h => by
    have : l = [] := List.eq_nil_of_length_eq_zero (by omega)
    subst this; simp [b64_nil]
  | n + 1, l, h => by
    by_cases h0 : l = []
    · subst h0; simp [b64_nil]
    · have hl : 0 < l.length := by cases l with | nil => exact absurd rfl h0 | cons => simp
      intro c hc
      rw [b64_step l h0, List.mem_append] at hc
      rcases hc with hc | hc
      · unfold four at hc
        obtain ⟨i, _, rfl⟩ := List.mem_map.1 hc
        split
        · decide
        · have hp := let_plain' (val (l.take 3) / 2 ^ (18 - 6 * i) % 64) (Nat.mod_lt _ (by omega))
          unfold plain
          simp only [bne_iff_ne, Bool.and_eq_true, decide_eq_true_eq]
          exact ⟨⟨by omega, hp.2.2.2⟩, hp.2.1⟩
      · exact b64_plain n _ (by rw [List.length_drop]; omega) c hc
theorem b64_pl (l : Bs) : ∀ c ∈ b64 l, plain c = true := b64_plain _ l (Nat.le_refl _)
def oneL (a : Bs) : Bs := ew [85, 84, 70, 45, 56] 98 (b64 a)
def twoL (b : Bs) : Bs := ew [117, 115, 45, 97, 115, 99, 105, 105] 66 (b64 b)
theorem one_says (a : Bs) : says [85, 84, 70, 45, 56] (low [98]) (b64 a) = some a := by
  unfold says
  rw [if_pos (.inl (by decide))]
  unfold written
  rw [if_pos (by decide)]
  exact un_back a
theorem two_says (b : Bs) : says [117, 115, 45, 97, 115, 99, 105, 105] (low [66]) (b64 b) = some b := by
  unfold says
  rw [if_pos (.inr (by decide))]
  unfold written
  rw [if_pos (by decide)]
  exact un_back b
theorem one_cs : ∀ c ∈ ([85, 84, 70, 45, 56] : Bs), plain c = true := by decide
theorem two_cs : ∀ c ∈ ([117, 115, 45, 97, 115, 99, 105, 105] : Bs), plain c = true := by decide
theorem joined1 (a : Bs) : joined [a] = a := by simp [joined, List.intercalate]
theorem joined2 (a b : Bs) : joined [a, b] = a ++ 32 :: b := by simp [joined, List.intercalate, List.intersperse]
theorem pl1 (a : Bs) : wordsP false (joined [oneL a]) = a := by
  rw [joined1]; exact words_ew1 _ _ a _ _ one_cs (b64_pl a) (one_says a)
theorem pl2 (a b g : Bs) (hg : ∀ c ∈ g, blank c = true) : wordsP false (joined [oneL a, g ++ twoL b]) = a ++ b := by
  rw [joined2, oneL, words_ew0 _ _ _ a _ _ one_cs (b64_pl a) (one_says a)]
  have := words_ew _ _ [] b (32 :: g) 66 true two_cs (b64_pl b) (two_says b) (by
    intro c hc
    rcases List.mem_cons.1 hc with rfl | hc
    · decide
    · exact hg c hc)
  rw [List.append_nil, wordsP_nil, List.append_nil] at this
  rw [← List.cons_append, twoL, this]
  simp
theorem pl3 (a b : Bs) : wordsP false (joined [oneL a ++ [120] ++ twoL b]) = a ++ [120] ++ b := by
  rw [joined1, List.append_assoc, oneL, words_ew0 _ _ _ a _ _ one_cs (b64_pl a) (one_says a), List.singleton_append, words_x _ 120 _ (by decide) (by decide), twoL, words_ew1 _ _ b _ _ two_cs (b64_pl b) (two_says b)]
  simp
theorem ew_len (cs tx : Bs) (way : UInt8) : (ew cs way tx).length = cs.length + tx.length + 7 := by simp [ew]; omega
end Go.Proofs.YtjmjeiegbkfdbaaDoor
