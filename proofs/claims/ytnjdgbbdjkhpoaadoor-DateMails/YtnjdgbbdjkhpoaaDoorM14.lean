/- What this text holds: the texts that the program reads as a header's date, or as a day, are the document's (plain facts). -/
import Derived.Test.YtnjdgbbdjkhpoaaDoorM8
import Derived.Test.YtnjdgbbdjkhpoaaDoorM11
namespace Go.Proofs.YtnjdgbbdjkhpoaaDoor
open Go.RowKit
set_option linter.unusedVariables false
set_option linter.unusedSimpArgs false

theorem rmail_any (s : Bs) (hs : s.length ≤ 100000) (w : World) : Calls Tryd.prog 27 #[.string (str s)] w fun e w' => e = .returned (readV (mailT (kOf (spl s).1))) ∧ Below w.heap.size w w' := by
  by_cases h5 : (kOf (spl s).1).length = 5
  · obtain ⟨k0, k1, k2, k3, k4, hK⟩ := five h5
    have hL : ((spl s).1 = [k0, k1, k2, k3, k4] ∧ wdR k0 = false) ∨ ∃ x, (spl s).1 = [x, k0, k1, k2, k3, k4] ∧ wdR x = true := by
      cases hl : (spl s).1 with
      | nil => rw [hl] at hK; cases hK
      | cons x xs =>
        rw [hl] at hK
        by_cases hx : wdR x = true
        · right
          have : kOf (x :: xs) = xs := by simp [kOf, hx]
          rw [this] at hK
          exact ⟨x, by rw [hK], hx⟩
        · left
          have : kOf (x :: xs) = x :: xs := by simp [kOf, hx]
          rw [this] at hK
          simp only [List.cons.injEq] at hK
          obtain ⟨rfl, rfl⟩ := hK
          exact ⟨rfl, by simpa using hx⟩
    rw [hK]
    rcases hL with ⟨hL, hx⟩ | ⟨x, hL, hx⟩
    · by_cases h0 : k0.length ≤ 2
      · by_cases h2 : k2.length = 4
        · by_cases hg : low k4 = [103, 109, 116]
          · exact mail0_gmt s hs w hL hx h0 h2 hg
          · by_cases hu : low k4 = [117, 116]
            · exact mail0_ut s hs w hL hx h0 h2 hu
            · cases hz : (zoneT k4).isSome with
              | true => exact mail0_num s hs w hL hx h0 h2 hg hu hz
              | false => exact mail0_bad s hs w hL hx h0 h2 hg hu hz
        · exact mail0_year s hs w hL hx h0 h2
      · exact mail0_day s hs w hL hx h0
    · by_cases h0 : k0.length ≤ 2
      · by_cases h2 : k2.length = 4
        · by_cases hg : low k4 = [103, 109, 116]
          · exact mail1_gmt s hs w hL hx h0 h2 hg
          · by_cases hu : low k4 = [117, 116]
            · exact mail1_ut s hs w hL hx h0 h2 hu
            · cases hz : (zoneT k4).isSome with
              | true => exact mail1_num s hs w hL hx h0 h2 hg hu hz
              | false => exact mail1_bad s hs w hL hx h0 h2 hg hu hz
        · exact mail1_year s hs w hL hx h0 h2
      · exact mail1_day s hs w hL hx h0
  · exact rmail_none s hs h5 w
end Go.Proofs.YtnjdgbbdjkhpoaaDoor
namespace Go.Proofs.YtnjdgbbdjkhpoaaDoor.pm
set_option linter.unusedVariables false
set_option linter.unusedSimpArgs false
/-- A piece; what begins with a blank, or is empty; what does not. -/
def Nb (t : Bs) : Prop := ∀ c ∈ t, blankB c = false
def Gp (r : Bs) : Prop := r = [] ∨ ∃ c q, r = c :: q ∧ blankB c = true
def Bad (l : Bs) : Prop := ∃ c q, l = c :: q ∧ blankB c = false
theorem bl_cases {c : UInt8} (h : blankB c = true) : c = 32 ∨ c = 9 ∨ c = 13 ∨ c = 10 := by
  unfold blankB at h
  simp only [Bool.or_eq_true, beq_iff_eq] at h
  rcases h with ((h | h) | h) | h
  · exact .inl h
  · exact .inr (.inl h)
  · exact .inr (.inr (.inl h))
  · exact .inr (.inr (.inr h))
theorem dig_bl {c : UInt8} (h : blankB c = true) : digB c = false := by
  rcases bl_cases h with rfl | rfl | rfl | rfl <;> decide
theorem dig_nb {c : UInt8} (h : digB c = true) : blankB c = false := by
  cases hb : blankB c with
  | false => rfl
  | true => rw [dig_bl hb] at h; cases h
theorem Nb.tail {c : UInt8} {t : Bs} (h : Nb (c :: t)) : blankB c = false ∧ Nb t := ⟨h c (by simp), fun d hd => h d (by simp [hd])⟩
theorem Nb.drop {t : Bs} (h : Nb t) (k : Nat) : Nb (t.drop k) := fun c hc => h c (List.mem_of_mem_drop hc)
theorem bad_gap {l : Bs} (h : Bad l) : gapP l = none := by
  obtain ⟨c, q, rfl, hb⟩ := h
  simp [gapP, hb]
theorem bad_end {l : Bs} (h : Bad l) : l.dropWhile blankB ≠ [] := by
  obtain ⟨c, q, rfl, hb⟩ := h
  simp [List.dropWhile, hb]
theorem bad_of {t r : Bs} (h : Nb t) (h0 : t ≠ []) : Bad (t ++ r) := by
  cases t with
  | nil => exact absurd rfl h0
  | cons c t => exact ⟨c, t ++ r, rfl, h.tail.1⟩
theorem tok (l : Bs) : ∃ t r, l = t ++ r ∧ Nb t ∧ Gp r := by
  refine ⟨l.takeWhile (fun c => !blankB c), l.dropWhile (fun c => !blankB c), List.takeWhile_append_dropWhile.symm, fun c hc => ?_, ?_⟩
  · have : ∀ (l : Bs), c ∈ l.takeWhile (fun c => !blankB c) → blankB c = false := by
      intro l
      induction l with
      | nil => intro h; simp at h
      | cons a l ih =>
        intro h
        rw [List.takeWhile_cons] at h
        split at h
        · rename_i ha
          rcases List.mem_cons.1 h with rfl | h
          · simpa using ha
          · exact ih h
        · simp at h
    exact this l hc
  · induction l with
    | nil => exact .inl rfl
    | cons a l ih =>
      rw [List.dropWhile_cons]
      split
      · exact ih
      · rename_i ha
        exact .inr ⟨a, l, rfl, by simpa using ha⟩
theorem gp_dw {r : Bs} (h : Gp r) : gapP r = if r = [] then none else some (r.dropWhile blankB) := by
  rcases h with rfl | ⟨c, q, rfl, hb⟩
  · rfl
  · simp [gapP, hb, List.dropWhile]
/-! Pieces. -/
theorem lastD (L M : List Bs) (h : M ≠ []) : (L ++ M).getLastD [] = M.getLastD [] := by
  rw [List.getLastD_eq_getLast?, List.getLastD_eq_getLast?, List.getLast?_append]
  cases h9 : M.getLast? with
  | none => exact absurd (List.getLast?_eq_none_iff.1 h9) h
  | some x => rfl
theorem fold_l (r : Bs) : ∀ (L M : List Bs) (b : Bool), (b = true → M ≠ []) → r.foldl stepS (L ++ M, b) = (L ++ (r.foldl stepS (M, b)).1, (r.foldl stepS (M, b)).2) := by
  induction r with
  | nil => intro L M b h; rfl
  | cons c r ih =>
    intro L M b h
    simp only [List.foldl_cons]
    unfold stepS
    split
    · exact ih L M false (fun h => by cases h)
    · cases b with
      | false =>
        simp only [Bool.false_eq_true, if_false]
        rw [List.append_assoc]
        exact ih L (M ++ [[c]]) true (fun _ => by simp)
      | true =>
        simp only [if_true]
        have hM := h rfl
        rw [List.dropLast_append_of_ne_nil hM, List.append_assoc, show (L ++ M).getLastD [] = M.getLastD [] by
          exact lastD L M hM]
        exact ih L _ true (fun _ => by simp)
theorem fold_tok (t : Bs) (ht : Nb t) : ∀ (p : Bs), t.foldl stepS ([p], true) = ([p ++ t], true) := by
  induction t with
  | nil => intro p; simp
  | cons c t ih =>
    intro p
    obtain ⟨h1, h2⟩ := ht.tail
    rw [List.foldl_cons, show stepS ([p], true) c = ([p ++ [c]], true) by simp [stepS, h1], ih h2, List.append_assoc]
    rfl
theorem spl_blank (c : UInt8) (r : Bs) (h : blankB c = true) : (spl (c :: r)).1 = (spl r).1 := by
  unfold spl
  rw [List.foldl_cons, show stepS ([], false) c = ([], false) by simp [stepS, h]]
theorem spl_dw (r : Bs) : (spl (r.dropWhile blankB)).1 = (spl r).1 := by
  induction r with
  | nil => rfl
  | cons c r ih =>
    rw [List.dropWhile_cons]
    split
    · rename_i h
      rw [ih, spl_blank c r h]
    · rfl
theorem spl_tok (t r : Bs) (ht : Nb t) (h0 : t ≠ []) (hr : Gp r) : (spl (t ++ r)).1 = t :: (spl r).1 := by
  cases t with
  | nil => exact absurd rfl h0
  | cons c t =>
    obtain ⟨h1, h2⟩ := ht.tail
    unfold spl
    rw [List.foldl_append, List.foldl_cons, show stepS ([], false) c = ([[c]], true) by simp [stepS, h1], fold_tok t h2]
    rcases hr with rfl | ⟨d, q, rfl, hd⟩
    · rfl
    · rw [List.foldl_cons, List.foldl_cons, show stepS ([[c] ++ t], true) d = ([[c] ++ t], false) by simp [stepS, hd], show stepS ([], false) d = ([], false) by simp [stepS, hd]]
      have := fold_l q [[c] ++ t] [] false (fun h => by cases h)
      rw [List.append_nil] at this
      rw [this]
      rfl
theorem spl_nil : (spl []).1 = [] := rfl
/-- What is left behind blanks: nothing, or a piece and what is behind it. -/
theorem dw_tok (r : Bs) : r.dropWhile blankB = [] ∨ ∃ t q, r.dropWhile blankB = t ++ q ∧ Nb t ∧ t ≠ [] ∧ Gp q := by
  obtain ⟨t, q, h1, h2, h3⟩ := tok (r.dropWhile blankB)
  by_cases ht : t = []
  · left
    subst ht
    rw [List.nil_append] at h1
    rcases h3 with h | ⟨c, q', h, hb⟩
    · rw [h1, h]
    · have : ∀ (l : Bs) (c : UInt8) (q : Bs), l.dropWhile blankB = c :: q → blankB c = false := by
        intro l
        induction l with
        | nil => intro c q h; simp at h
        | cons a l ih =>
          intro c q h
          rw [List.dropWhile_cons] at h
          split at h
          · exact ih c q h
          · rename_i ha
            simp only [List.cons.injEq] at h
            rw [← h.1]
            simpa using ha
      have := this r c q' (by rw [h1, h])
      rw [hb] at this
      cases this
  · exact .inr ⟨t, q, h1, h2, ht, h3⟩
/-! Numbers. -/
theorem numL_tok (t r : Bs) (hr : Gp r) : ∀ most, numL most (t ++ r) = numL most t := by
  induction t with
  | nil =>
    intro most
    rcases hr with rfl | ⟨c, q, rfl, hb⟩
    · rfl
    · cases most with
      | zero => rfl
      | succ m => simp [numL, List.takeWhile, dig_bl hb]
  | cons a t ih =>
    intro most
    cases most with
    | zero => rfl
    | succ m =>
      have := ih m
      unfold numL at this ⊢
      simp only [List.cons_append, List.take_succ_cons, List.takeWhile_cons]
      split
      · rw [this]
      · rfl
theorem numL_le (most : Nat) (t : Bs) : (numL most t).length ≤ t.length ∧ (numL most t).length ≤ most := by
  unfold numL
  have := (List.takeWhile_prefix digB (l := t.take most)).length_le
  rw [List.length_take] at this
  omega
theorem numL_all {t : Bs} (h : t.all digB = true) : ∀ {most : Nat}, t.length ≤ most → numL most t = t := by
  intro most hm
  unfold numL
  rw [List.take_of_length_le hm]
  induction t with
  | nil => rfl
  | cons a t ih =>
    simp only [List.all_cons, Bool.and_eq_true] at h
    rw [List.takeWhile_cons, if_pos h.1, ih h.2 (by simp at hm; omega)]
theorem numL_whole : ∀ (t : Bs) (most : Nat), t.drop (numL most t).length = [] → t.all digB = true ∧ t.length ≤ most
  | [], most, h => ⟨rfl, Nat.zero_le _⟩
  | a :: t, 0, h => by simp [numL] at h
  | a :: t, m + 1, h => by
    have e : numL (m + 1) (a :: t) = if digB a = true then a :: numL m t else [] := by
      unfold numL
      rw [List.take_succ_cons, List.takeWhile_cons]
    rw [e] at h
    split at h
    · rename_i ha
      simp only [List.length_cons, List.drop_succ_cons] at h
      obtain ⟨h1, h2⟩ := numL_whole t m h
      exact ⟨by simp [ha, h1], by simp; omega⟩
    · simp at h
/-- A number that is wholly read. -/
def ND (a b : Nat) (t : Bs) : Prop := t.all digB = true ∧ a ≤ t.length ∧ t.length ≤ b
theorem num_yes {a b : Nat} {t r : Bs} (h : ND a b t) (hr : Gp r) : numP a b (t ++ r) = some (val t, r) := by
  obtain ⟨h1, h2, h3⟩ := h
  unfold numP
  rw [numL_tok t r hr, numL_all h1 h3, if_neg (by omega), List.drop_left]
theorem num_no {a b : Nat} {t r : Bs} (ha : 1 ≤ a) (h : ¬ ND a b t) (ht : Nb t) (hr : Gp r) : numP a b (t ++ r) = none ∨ ∃ v l, numP a b (t ++ r) = some (v, l) ∧ Bad l := by
  unfold numP
  rw [numL_tok t r hr]
  by_cases hl : (numL b t).length < a
  · rw [if_pos hl]; exact .inl rfl
  · rw [if_neg hl]
    right
    refine ⟨_, _, rfl, ?_⟩
    rw [List.drop_append_of_le_length (numL_le b t).1]
    refine bad_of (ht.drop _) (fun e => h ?_)
    obtain ⟨h1, h2⟩ := numL_whole t b e
    have := (numL_le b t).1
    exact ⟨h1, by omega, h2⟩
theorem val_nn (t : Bs) (h : t.all digB = true) : 0 ≤ val t := by
  have : ∀ (t : Bs) (n : Int), t.all digB = true → 0 ≤ n → 0 ≤ t.foldl valF n := by
    intro t
    induction t with
    | nil => intro n _ hn; exact hn
    | cons a t ih =>
      intro n ht hn
      simp only [List.all_cons, Bool.and_eq_true] at ht
      refine ih _ ht.2 ?_
      have h1 := ht.1
      unfold digB at h1
      simp only [Bool.and_eq_true, decide_eq_true_eq] at h1
      have h2 : (48 : Nat) ≤ a.toNat := h1.1
      unfold valF
      omega
  exact this t 0 h (Int.le_refl _)
theorem numR_nd {a b : Nat} {t : Bs} (h : ND a b t) (ha : 1 ≤ a) (hb : b ≤ 9) : numR t = val t ∧ 0 ≤ val t := by
  obtain ⟨h1, h2, h3⟩ := h
  exact ⟨by unfold numR; rw [if_pos ⟨h1, by omega, by omega⟩], val_nn t h1⟩
theorem numR_no {t : Bs} (h : ¬ (t.all digB = true ∧ 1 ≤ t.length ∧ t.length ≤ 9)) : numR t = -1 := by unfold numR; rw [if_neg h]

theorem low_blank {c : UInt8} (h : blankB c = true) : lowB c = c := by
  rcases bl_cases h with rfl | rfl | rfl | rfl <;> decide
theorem low_append (a b : Bs) : low (a ++ b) = low a ++ low b := by simp [low]
theorem low_length (a : Bs) : (low a).length = a.length := by simp [low]
/-- A text that begins so, letters of a piece. -/
theorem hasP_tok {t r b : Bs} (hr : Gp r) (hb : ∀ c ∈ low b, blankB c = false) : hasP (t ++ r) b = (decide (b.length ≤ t.length) && (low (t.take b.length) == low b)) := by
  unfold hasP
  by_cases h : b.length ≤ t.length
  · rw [List.take_append_of_le_length h]
    simp [h]
  · simp only [h, decide_false, Bool.false_and]
    rw [beq_eq_false_iff_ne]
    intro e
    have hl := congrArg List.length e
    rw [low_length, low_length, List.length_take, List.length_append] at hl
    rcases hr with rfl | ⟨c, q, rfl, hc⟩
    · simp at hl; omega
    · have hm : c ∈ low ((t ++ c :: q).take b.length) := by
        rw [List.take_append, show b.length - t.length = (b.length - t.length - 1) + 1 by omega, List.take_succ_cons, low_append]
        simp only [low, List.map_append, List.map_cons, List.mem_append, List.mem_cons]
        exact .inr (.inl (low_blank hc).symm)
      rw [e] at hm
      have := hb c hm
      rw [hc] at this
      cases this
theorem hasP_one {t r : Bs} {k : UInt8} (hr : Gp r) (hk : ∀ c ∈ low [k], blankB c = false) (hl : ∀ c : UInt8, (lowB c = lowB k) = (c = k)) : hasP (t ++ r) [k] = decide (t.head? = some k) := by
  rw [hasP_tok hr hk]
  cases t with
  | nil => simp
  | cons c t =>
    simp only [List.length_cons, List.length_nil, List.take_succ_cons, List.take_zero, List.head?_cons, Option.some.injEq, low, List.map_cons, List.map_nil]
    have e := hl c
    by_cases h : c = k
    · subst h; simp
    · have h2 : ¬ lowB c = lowB k := by rw [e]; exact h
      simp [h, h2]
theorem low_only (k : UInt8) (h : k = 58 ∨ k = 44 ∨ k = 43 ∨ k = 45) : ∀ c : UInt8, (lowB c = lowB k) = (c = k) := by
  have : ∀ k ∈ ([58, 44, 43, 45] : List UInt8), ∀ n : Fin 256, (lowB (UInt8.ofNat n.val) = lowB k ↔ UInt8.ofNat n.val = k) := by decide +kernel
  intro c
  have := this k (by simp; exact h) ⟨c.toNat, c.toNat_lt⟩
  simp only [UInt8.ofNat_toNat] at this
  exact propext this
theorem need_one {t r : Bs} (k : UInt8) (h : k = 58 ∨ k = 44 ∨ k = 43 ∨ k = 45) (hr : Gp r) : hasP (t ++ r) [k] = decide (t.head? = some k) := by
  refine hasP_one hr (fun c hc => ?_) (low_only k h)
  rcases h with rfl | rfl | rfl | rfl <;> (simp [low] at hc; subst hc; decide)
/-! Names. -/
theorem find_ext {α : Type} (p q : α → Bool) : ∀ (l : List α), (∀ x ∈ l, p x = q x) → l.find? p = l.find? q
  | [], _ => rfl
  | a :: l, h => by
    simp only [List.find?_cons]
    rw [h a (by simp), find_ext p q l (fun x hx => h x (by simp [hx]))]
theorem name_nb (names : Bs) (n : Nat) (hn : ∀ i, i < n → (((names.drop (3 * i)).take 3).length = 3 ∧ ∀ c ∈ low ((names.drop (3 * i)).take 3), blankB c = false)) {t r : Bs} (hr : Gp r) :
    nameF names n (t ++ r) = if 3 ≤ t.length then (List.range n).find? (fun i => low (t.take 3) == low ((names.drop (3 * i)).take 3)) else none := by
  unfold nameF
  by_cases h3 : 3 ≤ t.length
  · rw [if_pos h3]
    refine find_ext _ _ _ (fun i hi => ?_)
    obtain ⟨h1, h2⟩ := hn i (List.mem_range.1 hi)
    rw [hasP_tok hr h2, h1]
    simp [h3]
  · rw [if_neg h3, List.find?_eq_none]
    intro i hi
    obtain ⟨h1, h2⟩ := hn i (List.mem_range.1 hi)
    rw [hasP_tok hr h2, h1]
    simp [h3]
theorem months_ok : ∀ i, i < 12 → (((months.drop (3 * i)).take 3).length = 3 ∧ ∀ c ∈ low ((months.drop (3 * i)).take 3), blankB c = false) := by decide +kernel
theorem weekdays_ok : ∀ i, i < 7 → (((weekdays.drop (3 * i)).take 3).length = 3 ∧ ∀ c ∈ low ((weekdays.drop (3 * i)).take 3), blankB c = false) := by decide +kernel
theorem monthR_find (t : Bs) : monthR t = match (List.range 12).find? (fun i => low t == low ((months.drop (3 * i)).take 3)) with
  | some i => (i : Int) + 1
  | none => 0 := by
  have e : (List.range 12).find? (fun i : Nat => low (monthN ((i : Int) + 1)) == low t) = (List.range 12).find? (fun i => low t == low ((months.drop (3 * i)).take 3)) := by
    refine find_ext _ _ _ (fun i hi => ?_)
    rw [show monthN ((i : Int) + 1) = (months.drop (3 * i)).take 3 by unfold monthN; rw [show ((i : Int) + 1 - 1).toNat = i by omega], BEq.comm]
  unfold monthR
  rw [e]
  generalize (List.range 12).find? (fun i => low t == low ((months.drop (3 * i)).take 3)) = o
  cases o <;> rfl
theorem monthR_len {t : Bs} (h : t.length ≠ 3) : monthR t = 0 := by
  rw [monthR_find]
  have : (List.range 12).find? (fun i => low t == low ((months.drop (3 * i)).take 3)) = none := by
    rw [List.find?_eq_none]
    intro i hi e
    have := congrArg List.length (eq_of_beq e)
    rw [low_length, low_length, (months_ok i (List.mem_range.1 hi)).1] at this
    exact h this
  rw [this]
/-- A month's name that is wholly read, or none. -/
theorem month_tok {t r : Bs} (ht : Nb t) (hr : Gp r) : (1 ≤ monthR t ∧ monthP (t ++ r) = some (monthR t, r)) ∨ (monthR t = 0 ∧ (monthP (t ++ r) = none ∨ ∃ v l, monthP (t ++ r) = some (v, l) ∧ Bad l)) := by
  unfold monthP
  rw [name_nb months 12 months_ok hr]
  by_cases h3 : t.length = 3
  · rw [if_pos (by omega), List.take_of_length_le (by omega), monthR_find]
    cases hf : (List.range 12).find? (fun i => low t == low ((months.drop (3 * i)).take 3)) with
    | none => right; exact ⟨rfl, .inl rfl⟩
    | some i =>
      left
      refine ⟨by simp; omega, ?_⟩
      simp only
      rw [show (3 : Nat) = t.length from h3.symm, List.drop_left]
  · right
    refine ⟨monthR_len h3, ?_⟩
    by_cases h : 3 ≤ t.length
    · rw [if_pos h]
      cases (List.range 12).find? (fun i => low (t.take 3) == low ((months.drop (3 * i)).take 3)) with
      | none => exact .inl rfl
      | some i =>
        right
        refine ⟨_, _, rfl, ?_⟩
        rw [List.drop_append_of_le_length h]
        exact bad_of (ht.drop _) (fun e => by have := congrArg List.length e; simp at this; omega)
    · rw [if_neg h]
      exact .inl rfl
/-! The clock. -/
theorem num2 {l l' : Bs} {v : Int} (h : numP 2 2 l = some (v, l')) : ∃ a b, l = a :: b :: l' ∧ digB a = true ∧ digB b = true ∧ v = val [a, b] := by
  unfold numP at h
  split at h
  · cases h
  · rename_i hl
    simp only [Option.some.injEq, Prod.mk.injEq] at h
    obtain ⟨h1, h2⟩ := h
    have h9 := (numL_le 2 l).2
    match l, hl, h1, h2, h9 with
    | [], hl, _, _, _ => simp [numL] at hl
    | [a], hl, _, _, _ =>
      have := (numL_le 2 [a]).1
      simp at this
      omega
    | a :: b :: q, hl, h1, h2, h9 =>
      have e : numL 2 (a :: b :: q) = [a, b].takeWhile digB := rfl
      rw [e] at hl h1 h2
      by_cases ha : digB a = true
      · by_cases hb : digB b = true
        · simp [List.takeWhile, ha, hb] at h1 h2
          subst h1 h2
          exact ⟨a, b, rfl, ha, hb, rfl⟩
        · simp [List.takeWhile, ha, hb] at hl
      · simp [List.takeWhile, ha] at hl
theorem num2_yes {a b : UInt8} {l : Bs} (ha : digB a = true) (hb : digB b = true) : numP 2 2 (a :: b :: l) = some (val [a, b], l) := by
  have e : numL 2 (a :: b :: l) = [a, b] := by show [a, b].takeWhile digB = _; simp [List.takeWhile, ha, hb]
  unfold numP
  rw [e]
  rfl
theorem numR2 (a b : UInt8) : numR [a, b] = if digB a = true ∧ digB b = true then val [a, b] else -1 := by
  unfold numR
  by_cases h : digB a = true ∧ digB b = true
  · rw [if_pos h, if_pos ⟨by simp [h.1, h.2], by simp, by simp⟩]
  · rw [if_neg h, if_neg]
    intro e
    have := e.1
    simp at this
    exact h this
theorem val2_nn {a b : UInt8} (ha : digB a = true) (hb : digB b = true) : 0 ≤ val [a, b] := val_nn _ (by simp [ha, hb])

theorem dig_ne58 {c : UInt8} (h : digB c = true) : c ≠ 58 := by rintro rfl; exact absurd h (by decide)
theorem need_iff {k : UInt8} (h : k = 58 ∨ k = 44 ∨ k = 43 ∨ k = 45) (l : Bs) : hasP l [k] = decide (l.head? = some k) := by
  obtain ⟨t, r, rfl, ht, hr⟩ := tok l
  rw [need_one k h hr]
  cases t with
  | nil =>
    rcases hr with rfl | ⟨c, q, rfl, hb⟩
    · rfl
    · have : c ≠ k := by rintro rfl; rcases h with rfl | rfl | rfl | rfl <;> exact absurd hb (by decide)
      simp [this]
  | cons c t => rfl
theorem needP58 (l : Bs) : needP [58] l = match l with | c :: q => if c = 58 then some q else none | [] => none := by
  unfold needP
  rw [need_iff (.inl rfl)]
  cases l with
  | nil => rfl
  | cons c q =>
    by_cases h : c = 58
    · subst h; simp
    · simp [h]
/-- What a clock's text is. -/
theorem clock_is (l : Bs) (x : Int × Int × Option Int) (l' : Bs) (h : clockP l = some (x, l')) :
    (∃ a b c d, l = a :: b :: 58 :: c :: d :: l' ∧ digB a = true ∧ digB b = true ∧ digB c = true ∧ digB d = true ∧ l'.head? ≠ some 58 ∧ x = (val [a, b], val [c, d], none)) ∨
    (∃ a b c d e f, l = a :: b :: 58 :: c :: d :: 58 :: e :: f :: l' ∧ digB a = true ∧ digB b = true ∧ digB c = true ∧ digB d = true ∧ digB e = true ∧ digB f = true ∧ x = (val [a, b], val [c, d], some (val [e, f]))) := by
  unfold clockP at h
  cases h1 : numP 2 2 l with
  | none => rw [h1] at h; cases h
  | some p =>
    obtain ⟨hv, r1⟩ := p
    rw [h1] at h
    obtain ⟨a, b, rfl, ha, hb, rfl⟩ := num2 h1
    simp only at h
    rw [needP58] at h
    cases r1 with
    | nil => cases h
    | cons c1 r2 =>
      simp only at h
      by_cases hc1 : c1 = 58
      · subst hc1
        rw [if_pos rfl] at h
        simp only at h
        cases h2 : numP 2 2 r2 with
        | none => rw [h2] at h; cases h
        | some p =>
          obtain ⟨mv, r3⟩ := p
          rw [h2] at h
          obtain ⟨c, d, rfl, hc, hd, rfl⟩ := num2 h2
          simp only at h
          rw [need_iff (.inl rfl)] at h
          by_cases h58 : r3.head? = some 58
          · simp only [h58, decide_true, if_true] at h
            obtain ⟨r4, rfl⟩ : ∃ r4, r3 = 58 :: r4 := by
              cases r3 with
              | nil => cases h58
              | cons y r4 => simp at h58; subst h58; exact ⟨r4, rfl⟩
            simp only [List.drop_succ_cons, List.drop_zero] at h
            cases h3 : numP 2 2 r4 with
            | none => rw [h3] at h; cases h
            | some p =>
              obtain ⟨sv, r5⟩ := p
              rw [h3] at h
              obtain ⟨e, f, rfl, he, hf, rfl⟩ := num2 h3
              simp only [Option.some.injEq, Prod.mk.injEq] at h
              obtain ⟨rfl, rfl⟩ := h
              exact .inr ⟨a, b, c, d, e, f, rfl, ha, hb, hc, hd, he, hf, rfl⟩
          · simp only [h58, decide_false, Bool.false_eq_true, if_false, Option.some.injEq, Prod.mk.injEq] at h
            obtain ⟨rfl, rfl⟩ := h
            exact .inl ⟨a, b, c, d, rfl, ha, hb, hc, hd, h58, rfl⟩
      · rw [if_neg hc1] at h
        cases h
theorem clock5 {a b c d : UInt8} {r : Bs} (ha : digB a = true) (hb : digB b = true) (hc : digB c = true) (hd : digB d = true) (hr : r.head? ≠ some 58) : clockP (a :: b :: 58 :: c :: d :: r) = some ((val [a, b], val [c, d], none), r) := by
  unfold clockP
  rw [num2_yes ha hb]
  simp only
  rw [needP58]
  simp only [if_true]
  rw [num2_yes hc hd]
  simp only
  rw [need_iff (.inl rfl)]
  simp [hr]
theorem clock8 {a b c d e f : UInt8} {r : Bs} (ha : digB a = true) (hb : digB b = true) (hc : digB c = true) (hd : digB d = true) (he : digB e = true) (hf : digB f = true) : clockP (a :: b :: 58 :: c :: d :: 58 :: e :: f :: r) = some ((val [a, b], val [c, d], some (val [e, f])), r) := by
  unfold clockP
  rw [num2_yes ha hb]
  simp only
  rw [needP58]
  simp only [if_true]
  rw [num2_yes hc hd]
  simp only
  rw [need_iff (.inl rfl)]
  simp only [List.head?_cons, decide_true, if_true, List.drop_succ_cons, List.drop_zero]
  rw [num2_yes he hf]
def ClkOk (t : Bs) : Prop := 0 ≤ (clkR t).1 ∧ 0 ≤ (clkR t).2.1 ∧ 0 ≤ (clkR t).2.2
theorem clkT8 (a b c1 c d c2 e f : UInt8) : clkT [a, b, c1, c, d, c2, e, f] = if c1 = 58 ∧ c2 = 58 then (numR [a, b], numR [c, d], numR [e, f]) else (-1, 0, 0) := by
  unfold clkT
  by_cases h : c1 = 58 ∧ c2 = 58
  · obtain ⟨rfl, rfl⟩ := h
    rw [if_pos ⟨rfl, rfl, rfl⟩, if_pos ⟨rfl, rfl⟩]
    rfl
  · rw [if_neg h, if_neg]
    rintro ⟨_, h1, h2⟩
    simp at h1 h2
    exact h ⟨h1, h2⟩
theorem dig48 : digB 48 = true ∧ val [48, 48] = 0 := by decide
/-- A clock that is wholly read, or none. -/
theorem clock_tok {t r : Bs} (ht : Nb t) (hr : Gp r) :
    (ClkOk t ∧ ∃ o, clockP (t ++ r) = some (((clkR t).1, (clkR t).2.1, o), r) ∧ (clkR t).2.2 = o.getD 0) ∨
    (¬ ClkOk t ∧ (clockP (t ++ r) = none ∨ ∃ v l, clockP (t ++ r) = some (v, l) ∧ Bad l)) := by
  have hr58 : r.head? ≠ some 58 := by
    rcases hr with rfl | ⟨c, q, rfl, hb⟩
    · simp
    · intro e; simp at e; subst e; exact absurd hb (by decide)
  by_cases h5 : t.length = 5
  · match t, h5 with
    | [a, b, c1, c, d], _ =>
      have hk : clkR [a, b, c1, c, d] = if c1 = 58 then (numR [a, b], numR [c, d], 0) else (-1, 0, 0) := by
        show clkT [a, b, c1, c, d, 58, 48, 48] = _
        rw [clkT8]
        by_cases h : c1 = 58
        · rw [if_pos ⟨h, rfl⟩, if_pos h, numR2 48 48, if_pos ⟨dig48.1, dig48.1⟩, dig48.2]
        · rw [if_neg (fun e => h e.1), if_neg h]
      by_cases hok : c1 = 58 ∧ digB a = true ∧ digB b = true ∧ digB c = true ∧ digB d = true
      · obtain ⟨rfl, ha, hb, hc, hd⟩ := hok
        left
        rw [if_pos rfl, numR2, numR2, if_pos ⟨ha, hb⟩, if_pos ⟨hc, hd⟩] at hk
        refine ⟨?_, none, ?_, by rw [hk]; rfl⟩
        · unfold ClkOk
          rw [hk]
          exact ⟨val2_nn ha hb, val2_nn hc hd, Int.le_refl _⟩
        · rw [hk]
          exact clock5 ha hb hc hd hr58
      · right
        refine ⟨?_, ?_⟩
        · unfold ClkOk
          rw [hk]
          intro h
          apply hok
          by_cases h58 : c1 = 58
          · rw [if_pos h58, numR2, numR2] at h
            obtain ⟨g1, g2, _⟩ := h
            simp only at g1 g2
            split at g1
            · rename_i hab
              split at g2
              · rename_i hcd
                exact ⟨h58, hab.1, hab.2, hcd.1, hcd.2⟩
              · omega
            · omega
          · rw [if_neg h58] at h
            have := h.1
            simp at this
        · cases hc : clockP ([a, b, c1, c, d] ++ r) with
          | none => exact .inl rfl
          | some p =>
            obtain ⟨x, l'⟩ := p
            right
            refine ⟨x, l', rfl, ?_⟩
            rcases clock_is _ _ _ hc with ⟨a', b', c', d', e, h1, h2, h3, h4, _⟩ | ⟨a', b', c', d', e', f', e, h1, h2, h3, h4, h5, h6, _⟩
            · simp at e
              obtain ⟨rfl, rfl, rfl, rfl, rfl, rfl⟩ := e
              exact absurd ⟨rfl, h1, h2, h3, h4⟩ hok
            · simp at e
              obtain ⟨rfl, rfl, rfl, rfl, rfl, rfl⟩ := e
              exact absurd ⟨rfl, h1, h2, h3, h4⟩ hok
  · by_cases h8 : t.length = 8
    · match t, h8 with
      | [a, b, c1, c, d, c2, e, f], _ =>
        have hk : clkR [a, b, c1, c, d, c2, e, f] = if c1 = 58 ∧ c2 = 58 then (numR [a, b], numR [c, d], numR [e, f]) else (-1, 0, 0) := by
          show clkT [a, b, c1, c, d, c2, e, f] = _
          exact clkT8 _ _ _ _ _ _ _ _
        by_cases hok : (c1 = 58 ∧ c2 = 58) ∧ digB a = true ∧ digB b = true ∧ digB c = true ∧ digB d = true ∧ digB e = true ∧ digB f = true
        · obtain ⟨⟨rfl, rfl⟩, ha, hb, hc, hd, he, hf⟩ := hok
          left
          rw [if_pos ⟨rfl, rfl⟩, numR2, numR2, numR2, if_pos ⟨ha, hb⟩, if_pos ⟨hc, hd⟩, if_pos ⟨he, hf⟩] at hk
          refine ⟨?_, some (val [e, f]), ?_, by rw [hk]; rfl⟩
          · unfold ClkOk
            rw [hk]
            exact ⟨val2_nn ha hb, val2_nn hc hd, val2_nn he hf⟩
          · rw [hk]
            exact clock8 ha hb hc hd he hf
        · right
          refine ⟨?_, ?_⟩
          · unfold ClkOk
            rw [hk]
            intro h
            apply hok
            by_cases h58 : c1 = 58 ∧ c2 = 58
            · rw [if_pos h58, numR2, numR2, numR2] at h
              obtain ⟨g1, g2, g3⟩ := h
              simp only at g1 g2 g3
              split at g1
              · rename_i hab
                split at g2
                · rename_i hcd
                  split at g3
                  · rename_i hef
                    exact ⟨h58, hab.1, hab.2, hcd.1, hcd.2, hef.1, hef.2⟩
                  · omega
                · omega
              · omega
            · rw [if_neg h58] at h
              have := h.1
              simp at this
          · cases hc : clockP ([a, b, c1, c, d, c2, e, f] ++ r) with
            | none => exact .inl rfl
            | some p =>
              obtain ⟨x, l'⟩ := p
              right
              refine ⟨x, l', rfl, ?_⟩
              rcases clock_is _ _ _ hc with ⟨a', b', c', d', e9, h1, h2, h3, h4, _⟩ | ⟨a', b', c', d', e', f', e9, h1, h2, h3, h4, h5, h6, _⟩
              · simp at e9
                obtain ⟨rfl, rfl, rfl, rfl, rfl, rfl⟩ := e9
                exact ⟨c2, _, rfl, ht c2 (by simp)⟩
              · simp at e9
                obtain ⟨rfl, rfl, rfl, rfl, rfl, rfl, rfl, rfl, rfl⟩ := e9
                exact absurd ⟨⟨rfl, rfl⟩, h1, h2, h3, h4, h5, h6⟩ hok
    · right
      have hk : clkR t = (-1, 0, 0) := by
        unfold clkR clkS
        rw [if_neg h5]
        unfold clkT
        rw [if_neg (fun e => h8 e.1)]
      refine ⟨?_, ?_⟩
      · unfold ClkOk
        rw [hk]
        intro h
        have := h.1
        simp at this
      · cases hc : clockP (t ++ r) with
        | none => exact .inl rfl
        | some p =>
          obtain ⟨x, l'⟩ := p
          right
          refine ⟨x, l', rfl, ?_⟩
          have key : ∀ (pre : Bs), (∀ c ∈ pre, blankB c = false) → t ++ r = pre ++ l' → t.length ≠ pre.length → Bad l' := by
            intro pre hp he hl
            rcases Nat.lt_or_ge t.length pre.length with hlt | hge
            · exfalso
              rcases hr with rfl | ⟨c, q, rfl, hb⟩
              · have := congrArg List.length he
                simp at this
                omega
              · have h1 : (t ++ c :: q)[t.length]? = some c := by simp
                rw [he, List.getElem?_append_left hlt] at h1
                have := hp c (List.mem_of_getElem? h1)
                rw [hb] at this
                cases this
            · have h2 : l' = t.drop pre.length ++ r := by
                have := congrArg (List.drop pre.length) he
                rw [List.drop_left, List.drop_append_of_le_length hge] at this
                exact this.symm
              rw [h2]
              exact bad_of (ht.drop _) (fun e => by have := congrArg List.length e; simp at this; omega)
          rcases clock_is _ _ _ hc with ⟨a', b', c', d', e9, h1, h2, h3, h4, _⟩ | ⟨a', b', c', d', e', f', e9, h1, h2, h3, h4, h5', h6, _⟩
          · refine key [a', b', 58, c', d'] (fun c hc => ?_) e9 h5
            simp at hc
            rcases hc with rfl | rfl | rfl | rfl | rfl
            · exact dig_nb h1
            · exact dig_nb h2
            · decide
            · exact dig_nb h3
            · exact dig_nb h4
          · refine key [a', b', 58, c', d', 58, e', f'] (fun c hc => ?_) e9 h8
            simp at hc
            rcases hc with rfl | rfl | rfl | rfl | rfl | rfl | rfl | rfl
            · exact dig_nb h1
            · exact dig_nb h2
            · decide
            · exact dig_nb h3
            · exact dig_nb h4
            · decide
            · exact dig_nb h5'
            · exact dig_nb h6

/-! The zone. -/
theorem upTo_is {most : Int} {l l' : Bs} {v : Int} (h : upToP most l = some (v, l')) : ∃ a b, l = a :: b :: l' ∧ digB a = true ∧ digB b = true ∧ v = val [a, b] ∧ v ≤ most := by
  unfold upToP at h
  cases h1 : numP 2 2 l with
  | none => rw [h1] at h; cases h
  | some p =>
    obtain ⟨n, r⟩ := p
    rw [h1] at h
    simp only at h
    split at h
    · cases h
    · simp only [Option.some.injEq, Prod.mk.injEq] at h
      obtain ⟨rfl, rfl⟩ := h
      obtain ⟨a, b, rfl, ha, hb, rfl⟩ := num2 h1
      exact ⟨a, b, rfl, ha, hb, rfl, by omega⟩
theorem upTo_yes {most : Int} {a b : UInt8} {l : Bs} (ha : digB a = true) (hb : digB b = true) (h : val [a, b] ≤ most) : upToP most (a :: b :: l) = some (val [a, b], l) := by
  unfold upToP
  rw [num2_yes ha hb]
  simp only
  rw [if_neg (by omega)]
theorem minutes_is {l l' : Bs} {v : Int} (h : minutesP l = some (v, l')) : ∃ a b c d, l = a :: b :: c :: d :: l' ∧ digB a = true ∧ digB b = true ∧ digB c = true ∧ digB d = true ∧ val [a, b] ≤ 23 ∧ val [c, d] ≤ 59 ∧ v = 60 * val [a, b] + val [c, d] := by
  unfold minutesP at h
  cases h1 : upToP 23 l with
  | none => rw [h1] at h; cases h
  | some p =>
    obtain ⟨n, r⟩ := p
    rw [h1] at h
    simp only at h
    cases h2 : upToP 59 r with
    | none => rw [h2] at h; cases h
    | some p =>
      obtain ⟨n2, r2⟩ := p
      rw [h2] at h
      simp only [Option.some.injEq, Prod.mk.injEq] at h
      obtain ⟨rfl, rfl⟩ := h
      obtain ⟨a, b, rfl, ha, hb, rfl, hab⟩ := upTo_is h1
      obtain ⟨c, d, rfl, hc, hd, rfl, hcd⟩ := upTo_is h2
      exact ⟨a, b, c, d, rfl, ha, hb, hc, hd, hab, hcd, rfl⟩
theorem minutes_yes {a b c d : UInt8} {l : Bs} (ha : digB a = true) (hb : digB b = true) (hc : digB c = true) (hd : digB d = true) (h1 : val [a, b] ≤ 23) (h2 : val [c, d] ≤ 59) : minutesP (a :: b :: c :: d :: l) = some (60 * val [a, b] + val [c, d], l) := by
  unfold minutesP
  rw [upTo_yes ha hb h1]
  simp only
  rw [upTo_yes hc hd h2]
/-- What was read reaches beyond a piece, or leaves some of it, or reads just it. -/
theorem key {t r pre l' : Bs} (ht : Nb t) (hr : Gp r) (hp : ∀ c ∈ pre, blankB c = false) (he : t ++ r = pre ++ l') (hl : t.length ≠ pre.length) : Bad l' := by
  rcases Nat.lt_or_ge t.length pre.length with hlt | hge
  · exfalso
    rcases hr with rfl | ⟨c, q, rfl, hb⟩
    · have := congrArg List.length he
      simp at this
      omega
    · have h1 : (t ++ c :: q)[t.length]? = some c := by simp
      rw [he, List.getElem?_append_left hlt] at h1
      have := hp c (List.mem_of_getElem? h1)
      rw [hb] at this
      cases this
  · have h2 : l' = t.drop pre.length ++ r := by
      have := congrArg (List.drop pre.length) he
      rw [List.drop_left, List.drop_append_of_le_length hge] at this
      exact this.symm
    rw [h2]
    exact bad_of (ht.drop _) (fun e => by have := congrArg List.length e; simp at this; omega)
/-- Four digits that are hours and minutes. -/
def MinOk (t : Bs) : Prop := t.length = 4 ∧ 0 ≤ numR (t.take 2) ∧ numR (t.take 2) ≤ 23 ∧ 0 ≤ numR ((t.drop 2).take 2) ∧ numR ((t.drop 2).take 2) ≤ 59
theorem minutes_tok {t r : Bs} (ht : Nb t) (hr : Gp r) : (MinOk t ∧ minutesP (t ++ r) = some (60 * numR (t.take 2) + numR ((t.drop 2).take 2), r)) ∨ (¬ MinOk t ∧ (minutesP (t ++ r) = none ∨ ∃ v l, minutesP (t ++ r) = some (v, l) ∧ Bad l)) := by
  by_cases h4 : t.length = 4
  · match t, h4 with
    | [a, b, c, d], _ =>
      have e1 : ([a, b, c, d] : Bs).take 2 = [a, b] := rfl
      have e2 : (([a, b, c, d] : Bs).drop 2).take 2 = [c, d] := rfl
      by_cases hok : (digB a = true ∧ digB b = true) ∧ (digB c = true ∧ digB d = true) ∧ val [a, b] ≤ 23 ∧ val [c, d] ≤ 59
      · obtain ⟨⟨ha, hb⟩, ⟨hc, hd⟩, h1, h2⟩ := hok
        left
        unfold MinOk
        rw [e1, e2, numR2, numR2, if_pos ⟨ha, hb⟩, if_pos ⟨hc, hd⟩]
        exact ⟨⟨rfl, val2_nn ha hb, h1, val2_nn hc hd, h2⟩, minutes_yes ha hb hc hd h1 h2⟩
      · right
        refine ⟨?_, ?_⟩
        · unfold MinOk
          rw [e1, e2, numR2, numR2]
          rintro ⟨_, g1, g2, g3, g4⟩
          apply hok
          split at g1
          · rename_i hab
            split at g3
            · rename_i hcd
              rw [if_pos hab] at g2
              rw [if_pos hcd] at g4
              exact ⟨hab, hcd, g2, g4⟩
            · omega
          · omega
        · cases hc : minutesP ([a, b, c, d] ++ r) with
          | none => exact .inl rfl
          | some p =>
            obtain ⟨v, l'⟩ := p
            obtain ⟨a', b', c', d', e, h1, h2, h3, h4, h5, h6, _⟩ := minutes_is hc
            simp at e
            obtain ⟨rfl, rfl, rfl, rfl, rfl⟩ := e
            exact absurd ⟨⟨h1, h2⟩, ⟨h3, h4⟩, h5, h6⟩ hok
  · right
    refine ⟨fun h => h4 h.1, ?_⟩
    cases hc : minutesP (t ++ r) with
    | none => exact .inl rfl
    | some p =>
      obtain ⟨v, l'⟩ := p
      obtain ⟨a', b', c', d', e, h1, h2, h3, h4', _⟩ := minutes_is hc
      right
      refine ⟨v, l', rfl, key ht hr (pre := [a', b', c', d']) (fun c hc => ?_) e h4⟩
      simp at hc
      rcases hc with rfl | rfl | rfl | rfl
      · exact dig_nb h1
      · exact dig_nb h2
      · exact dig_nb h3
      · exact dig_nb h4'
theorem zoneT_pm (c : UInt8) (t : Bs) (hc : c = 43 ∨ c = 45) : (MinOk t → zoneT (c :: t) = some (if c = 45 then -60 * numR (t.take 2) - numR ((t.drop 2).take 2) else 60 * numR (t.take 2) + numR ((t.drop 2).take 2))) ∧ (¬ MinOk t → zoneT (c :: t) = none) := by
  have hh : (c :: t).head? = some 43 ∨ (c :: t).head? = some 45 := by simpa using hc
  have e1 : ((c :: t).drop 1).take 2 = t.take 2 := rfl
  have e2 : ((c :: t).drop 3).take 2 = (t.drop 2).take 2 := rfl
  have e3 : ((c :: t).head? = some 45) = (c = 45) := by simp
  refine ⟨fun h => ?_, fun h => ?_⟩
  · obtain ⟨h1, h2, h3, h4, h5⟩ := h
    unfold zoneT
    rw [e1, e2, if_pos ⟨by simp [h1], hh, h2, h3, h4, h5⟩]
    simp only [List.head?_cons, Option.some.injEq]
  · unfold zoneT
    rw [e1, e2, if_neg]
    rintro ⟨g1, _, g2, g3, g4, g5⟩
    exact h ⟨by simp at g1; omega, g2, g3, g4, g5⟩
theorem zoneT_no {t : Bs} (h1 : t.head? ≠ some 43) (h2 : t.head? ≠ some 45) : zoneT t = none := by
  unfold zoneT
  rw [if_neg]
  rintro ⟨_, g | g, _⟩
  · exact h1 g
  · exact h2 g
theorem zoneT_len {t : Bs} (h : t.length ≠ 5) : zoneT t = none := by
  unfold zoneT
  rw [if_neg (fun e => h e.1)]
theorem low_43 {c : UInt8} {t : Bs} (hc : c = 43 ∨ c = 45) : low (c :: t) ≠ [103, 109, 116] ∧ low (c :: t) ≠ [117, 116] := by
  refine ⟨fun e => ?_, fun e => ?_⟩ <;> (simp only [low, List.map_cons, List.cons.injEq] at e; have := e.1; rcases hc with rfl | rfl <;> exact absurd this (by decide))
theorem zok_is (t : Bs) : zokR t = ((zoneT t).isSome || decide (low t = [103, 109, 116]) || decide (low t = [117, 116])) := by
  have h1 : ∀ a b : Bs, (a == b) = decide (a = b) := fun a b => by rw [Bool.eq_iff_iff]; simp
  unfold zokR
  rw [h1, h1]
/-- A zone that is wholly read, or none. -/
theorem zone_tok {t r : Bs} (ht : Nb t) (hr : Gp r) : (zokR t = true ∧ zoneP (t ++ r) = some ((zoneT t).getD 0, r)) ∨ (zokR t = false ∧ (zoneP (t ++ r) = none ∨ ∃ v l, zoneP (t ++ r) = some (v, l) ∧ Bad l)) := by
  have hgmt : ∀ c ∈ low [71, 77, 84], blankB c = false := by decide
  have hut : ∀ c ∈ low [85, 84], blankB c = false := by decide
  unfold zoneP
  rw [need_one 43 (by simp) hr, need_one 45 (by simp) hr, hasP_tok hr hgmt, hasP_tok hr hut]
  by_cases h43 : t.head? = some 43
  · obtain ⟨t', rfl⟩ : ∃ t', t = 43 :: t' := by
      cases t with
      | nil => cases h43
      | cons c t' => simp at h43; subst h43; exact ⟨t', rfl⟩
    simp only [List.head?_cons, decide_true, if_true, List.cons_append, List.drop_succ_cons, List.drop_zero]
    obtain ⟨z1, z2⟩ := zoneT_pm 43 t' (.inl rfl)
    obtain ⟨l1, l2⟩ := low_43 (c := 43) (t := t') (.inl rfl)
    rcases minutes_tok ht.tail.2 hr with ⟨hm, h⟩ | ⟨hm, h⟩
    · left
      rw [zok_is, z1 hm, h]
      exact ⟨by simp, by simp⟩
    · right
      rw [zok_is, z2 hm]
      exact ⟨by simp [l1, l2], h⟩
  · by_cases h45 : t.head? = some 45
    · obtain ⟨t', rfl⟩ : ∃ t', t = 45 :: t' := by
        cases t with
        | nil => cases h45
        | cons c t' => simp at h45; subst h45; exact ⟨t', rfl⟩
      have hne : decide ((45 :: t' : Bs).head? = some 43) = false := by simp
      rw [hne]
      simp only [Bool.false_eq_true, if_false, List.head?_cons, decide_true, if_true, List.cons_append, List.drop_succ_cons, List.drop_zero]
      obtain ⟨z1, z2⟩ := zoneT_pm 45 t' (.inr rfl)
      obtain ⟨l1, l2⟩ := low_43 (c := 45) (t := t') (.inr rfl)
      rcases minutes_tok ht.tail.2 hr with ⟨hm, h⟩ | ⟨hm, h⟩
      · left
        rw [zok_is, z1 hm, h]
        refine ⟨by simp, ?_⟩
        simp
        omega
      · right
        rw [zok_is, z2 hm]
        refine ⟨by simp [l1, l2], ?_⟩
        rcases h with h | ⟨v, l, h, hb⟩
        · left; rw [h]; rfl
        · right; exact ⟨-v, l, by rw [h]; rfl, hb⟩
    · simp only [h43, h45, decide_false, Bool.false_eq_true, if_false]
      have hz := zoneT_no h43 h45
      rw [zok_is, hz]
      simp only [Option.isSome_none, Bool.false_or, Option.getD_none]
      have lg : low [71, 77, 84] = [103, 109, 116] := by decide
      have lu : low [85, 84] = [117, 116] := by decide
      rw [lg, lu]
      simp only [List.length_cons, List.length_nil, Nat.zero_add, Nat.reduceAdd]
      by_cases hg : 3 ≤ t.length ∧ low (t.take 3) = [103, 109, 116]
      · rw [if_pos (by simp [hg.1, hg.2])]
        by_cases h3 : t.length = 3
        · left
          have e : t.take 3 = t := List.take_of_length_le (by omega)
          refine ⟨by have := hg.2; rw [e] at this; simp [this], ?_⟩
          rw [show (t ++ r).drop 3 = r by rw [← h3]; exact List.drop_left]
        · right
          refine ⟨?_, .inr ⟨_, _, rfl, ?_⟩⟩
          · have n1 : low t ≠ [103, 109, 116] := fun e => h3 (by have := congrArg List.length e; rw [low_length] at this; simpa using this)
            have n2 : low t ≠ [117, 116] := fun e => by have := congrArg List.length e; rw [low_length] at this; simp at this; omega
            simp [n1, n2]
          · rw [List.drop_append_of_le_length hg.1]
            exact bad_of (ht.drop _) (fun e => by have := congrArg List.length e; simp at this; omega)
      · rw [if_neg (by simpa using hg)]
        have n1 : low t ≠ [103, 109, 116] := fun e => hg (by
          have h3 : t.length = 3 := by have := congrArg List.length e; rw [low_length] at this; simpa using this
          rw [List.take_of_length_le (by omega)]
          exact ⟨by omega, e⟩)
        by_cases hu : 2 ≤ t.length ∧ low (t.take 2) = [117, 116]
        · rw [if_pos (by simp [hu.1, hu.2])]
          by_cases h2 : t.length = 2
          · left
            have e : t.take 2 = t := List.take_of_length_le (by omega)
            refine ⟨by have := hu.2; rw [e] at this; simp [this], ?_⟩
            rw [show (t ++ r).drop 2 = r by rw [← h2]; exact List.drop_left]
          · right
            refine ⟨?_, .inr ⟨_, _, rfl, ?_⟩⟩
            · have n2 : low t ≠ [117, 116] := fun e => h2 (by have := congrArg List.length e; rw [low_length] at this; simpa using this)
              simp [n1, n2]
            · rw [List.drop_append_of_le_length hu.1]
              exact bad_of (ht.drop _) (fun e => by have := congrArg List.length e; simp at this; omega)
        · rw [if_neg (by simpa using hu)]
          right
          have n2 : low t ≠ [117, 116] := fun e => hu (by
            have h3 : t.length = 2 := by have := congrArg List.length e; rw [low_length] at this; simpa using this
            rw [List.take_of_length_le (by omega)]
            exact ⟨by omega, e⟩)
          exact ⟨by simp [n1, n2], .inl rfl⟩
/-! The day's name. -/
theorem wdN_is : ∀ k < 7, wdN k = low ((weekdays.drop (3 * k)).take 3) ++ [44] := by decide +kernel
theorem wdR_iff (t : Bs) : wdR t = true ↔ ∃ k, k < 7 ∧ low t = low ((weekdays.drop (3 * k)).take 3) ++ [44] := by
  unfold wdR
  rw [List.any_eq_true]
  refine ⟨fun ⟨k, hk, h⟩ => ⟨k, List.mem_range.1 hk, ?_⟩, fun ⟨k, hk, h⟩ => ⟨k, List.mem_range.2 hk, ?_⟩⟩
  · rw [← wdN_is k (List.mem_range.1 hk)]; exact eq_of_beq h
  · rw [wdN_is k hk]; exact beq_iff_eq.2 h
theorem wday_tok {t r : Bs} (ht : Nb t) (hr : Gp r) : (wdR t = true ∧ weekdayP (t ++ r) = gapP r) ∨ (wdR t = false ∧ weekdayP (t ++ r) = some (t ++ r)) ∨ (wdR t = false ∧ 3 ≤ t.length ∧ weekdayP (t ++ r) = none) := by
  have hlen : ∀ k, k < 7 → ((weekdays.drop (3 * k)).take 3).length = 3 := fun k hk => (weekdays_ok k hk).1
  have hw4 : wdR t = true → t.length = 4 := fun h => by
    obtain ⟨k, hk, e⟩ := (wdR_iff t).1 h
    have := congrArg List.length e
    rw [low_length, List.length_append, low_length, hlen k hk] at this
    simpa using this
  unfold weekdayP
  rw [name_nb weekdays 7 weekdays_ok hr]
  by_cases h3 : 3 ≤ t.length
  · rw [if_pos h3]
    cases hf : (List.range 7).find? (fun i => low (t.take 3) == low ((weekdays.drop (3 * i)).take 3)) with
    | none =>
      right; left
      refine ⟨?_, rfl⟩
      rw [← Bool.not_eq_true]
      intro h
      have h4 := hw4 h
      obtain ⟨k, hk, e⟩ := (wdR_iff t).1 h
      have := List.find?_eq_none.1 hf k (List.mem_range.2 hk)
      apply this
      rw [beq_iff_eq]
      have hwl : (low ((weekdays.drop (3 * k)).take 3)).length = 3 := by rw [low_length]; exact hlen k hk
      generalize low ((weekdays.drop (3 * k)).take 3) = W at *
      have e2 : (low t).take 3 = W := by rw [e, List.take_append_of_le_length (by omega), List.take_of_length_le (by omega)]
      rw [← e2]
      simp [low, List.map_take]
    | some i =>
      have hi := List.find?_some hf
      have hi7 := List.mem_range.1 (List.mem_of_find?_eq_some hf)
      rw [beq_iff_eq] at hi
      simp only
      rw [List.drop_append_of_le_length h3]
      have hdt : t = t.take 3 ++ t.drop 3 := (List.take_append_drop 3 t).symm
      unfold needP
      rw [need_one 44 (by simp) hr]
      cases hd : t.drop 3 with
      | nil =>
        right; right
        refine ⟨?_, h3, by simp⟩
        rw [← Bool.not_eq_true]
        intro h
        have := hw4 h
        have := congrArg List.length hd
        simp at this
        omega
      | cons c q =>
        by_cases hc : c = 44
        · subst hc
          simp only [List.head?_cons, decide_true, if_true, List.cons_append, List.length_cons, List.length_nil, Nat.zero_add, List.drop_succ_cons, List.drop_zero, Option.bind_some]
          by_cases hq : q = []
          · subst hq
            left
            refine ⟨(wdR_iff t).2 ⟨i, hi7, ?_⟩, rfl⟩
            rw [hdt, hd, low_append, hi]
            rfl
          · right; right
            refine ⟨?_, h3, ?_⟩
            · rw [← Bool.not_eq_true]
              intro h
              have h4 := hw4 h
              have := congrArg List.length hd
              simp at this
              have : 0 < q.length := List.length_pos_iff.2 hq
              omega
            · have hnq : Nb q := by have := ht.drop 3; rw [hd] at this; exact this.tail.2
              exact bad_gap (bad_of hnq hq)
        · right; right
          refine ⟨?_, h3, by simp [hc]⟩
          rw [← Bool.not_eq_true]
          intro h
          obtain ⟨k, hk, e⟩ := (wdR_iff t).1 h
          rw [hdt, hd, low_append] at e
          have e2 := congrArg (List.drop 3) e
          have hl3 : (low (t.take 3)).length = 3 := by rw [low_length, List.length_take]; omega
          have hk3 : (low ((weekdays.drop (3 * k)).take 3)).length = 3 := by rw [low_length, hlen k hk]
          rw [List.drop_append_of_le_length (by omega), List.drop_append_of_le_length (by omega), List.drop_of_length_le (by omega), List.drop_of_length_le (by omega)] at e2
          simp only [List.nil_append, low, List.map_cons, List.cons.injEq] at e2
          have := low_only 44 (by simp) c
          rw [show lowB 44 = 44 by decide] at this
          rw [this] at e2
          exact hc e2.1
  · rw [if_neg h3]
    right; left
    refine ⟨?_, rfl⟩
    rw [← Bool.not_eq_true]
    intro h
    have := hw4 h
    omega

/-- What is read behind a day's name, piece by piece. -/
def fin (o : Option Rd) : Option Dt := match o with
  | some r => if r.l.dropWhile blankB = [] ∧ RightP r.t then some r.t else none
  | none => none
def ch6 (t : Dt) (l : Bs) : Option Dt := fin (zoneR ⟨l, t⟩)
def ch5 (t : Dt) (l : Bs) : Option Dt := match gapP l with
  | none => none
  | some l => ch6 t l
def ch4 (t : Dt) (l : Bs) : Option Dt := match clockP l with
  | none => none
  | some ((h, m, s), l) => ch5 { t with h := h, mi := m, s := s.getD 0 } l
def ch3 (t : Dt) (l : Bs) : Option Dt := match gapP l with
  | none => none
  | some l => ch4 t l
def ch2 (d m : Int) (l : Bs) : Option Dt := match numP 4 4 l with
  | none => none
  | some (y, l) => ch3 { Dt.zero with d := d, mo := m, y := y } l
def ch1 (d : Int) (l : Bs) : Option Dt := match monthP l with
  | none => none
  | some (m, l) => match gapP l with
    | none => none
    | some l => ch2 d m l
def ch0 (l : Bs) : Option Dt := match numP 1 2 l with
  | none => none
  | some (d, l) => match gapP l with
    | none => none
    | some l => ch1 d l
theorem mail_ch (s : Bs) : readP mailP s = match weekdayP (s.dropWhile blankB) with
  | none => none
  | some l => ch0 l := by
  unfold readP mailP mailDay
  simp only
  cases h0 : weekdayP (s.dropWhile blankB) with
  | none => rfl
  | some x0 =>
    simp only
    unfold ch0
    cases h1 : numP 1 2 x0 with
    | none => rfl
    | some p =>
      obtain ⟨d, x1⟩ := p
      simp only
      cases h2 : gapP x1 with
      | none => rfl
      | some x2 =>
        simp only
        unfold ch1
        cases h3 : monthP x2 with
        | none => rfl
        | some p =>
          obtain ⟨m, x3⟩ := p
          simp only
          cases h4 : gapP x3 with
          | none => rfl
          | some x4 =>
            simp only
            unfold ch2
            cases h5 : numP 4 4 x4 with
            | none => rfl
            | some p =>
              obtain ⟨y, x5⟩ := p
              simp only [Option.bind_some]
              unfold ch3 gapR
              simp only
              cases h6 : gapP x5 with
              | none => rfl
              | some x6 =>
                simp only [Option.bind_some]
                unfold ch4 clockR
                simp only
                cases h7 : clockP x6 with
                | none => rfl
                | some p =>
                  obtain ⟨⟨h, mi, sc⟩, x7⟩ := p
                  simp only [Option.bind_some]
                  unfold ch5
                  cases h8 : gapP x7 with
                  | none => rfl
                  | some x8 =>
                    simp only [Option.bind_some]
                    unfold ch6 fin zoneR
                    simp only
                    cases h9 : zoneP x8 with
                    | none => rfl
                    | some p =>
                      obtain ⟨z, x9⟩ := p
                      rfl
theorem mailT_bad {K : List Bs} (h : ∀ k0 k1 k2 k3 k4, K = [k0, k1, k2, k3, k4] → ¬ (k0.length ≤ 2 ∧ k2.length = 4 ∧ zokR k4 = true ∧ RightP (mailD k0 k1 k2 k3 k4))) : mailT K = none := by
  unfold mailT
  split
  · rename_i k0 k1 k2 k3 k4
    rw [if_neg (h k0 k1 k2 k3 k4 rfl)]
  · rfl
theorem right_parts {k0 k1 k2 k3 k4 : Bs} (h : RightP (mailD k0 k1 k2 k3 k4)) : 1 ≤ numR k2 ∧ 1 ≤ monthR k1 ∧ 1 ≤ numR k0 ∧ ClkOk k3 := by
  obtain ⟨⟨h1, h2, h3, h4, h5, h6⟩, h7, h8, h9, h10, h11, h12, h13⟩ := h
  exact ⟨h1, h3, h5, h7, h9, h11⟩
theorem numR_pos {t : Bs} (h : 0 ≤ numR t) : t.all digB = true ∧ 1 ≤ t.length ∧ t.length ≤ 9 := by
  apply Classical.byContradiction
  intro hn
  rw [numR_no hn] at h
  omega
/-- The pieces behind blanks. -/
theorem gap_some {r l : Bs} (hr : Gp r) (h : gapP r = some l) : l = r.dropWhile blankB ∧ (spl l).1 = (spl r).1 := by
  rw [gp_dw hr] at h
  split at h
  · cases h
  · simp only [Option.some.injEq] at h
    subst h
    exact ⟨rfl, spl_dw r⟩
theorem gap_none {r : Bs} (hr : Gp r) (h : gapP r = none) : (spl r).1 = [] := by
  rw [gp_dw hr] at h
  split at h
  · rename_i h0; rw [h0]; rfl
  · cases h
theorem ch6_is {t : Dt} {l : Bs} (hd : l = [] ∨ ∃ p q, l = p ++ q ∧ Nb p ∧ p ≠ [] ∧ Gp q) {k0 k1 k2 k3 : Bs} (h0 : k0.length ≤ 2) (h2 : k2.length = 4) (ht : ∀ k4, { t with z := (zoneT k4).getD 0 } = mailD k0 k1 k2 k3 k4) : ch6 t l = mailT (k0 :: k1 :: k2 :: k3 :: (spl l).1) := by
  rcases hd with rfl | ⟨p, q, rfl, hp, hp0, hq⟩
  · rw [spl_nil]
    unfold ch6 zoneR
    simp only
    rw [show zoneP [] = none by decide +kernel]
    rfl
  · rw [spl_tok p q hp hp0 hq]
    unfold ch6 zoneR
    simp only
    rcases zone_tok hp hq with ⟨hz, h⟩ | ⟨hz, h⟩
    · rw [h]
      simp only [fin]
      rw [ht p]
      by_cases he : q.dropWhile blankB = []
      · have : (spl q).1 = [] := by rw [← spl_dw, he]; rfl
        rw [this]
        simp only [mailT, h0, h2, hz, he, true_and]
      · rw [if_neg (fun e => he e.1), mailT_bad]
        intro a0 a1 a2 a3 a4 e
        simp only [List.cons.injEq] at e
        obtain ⟨_, _, _, _, _, e⟩ := e
        rcases dw_tok q with h9 | ⟨t', q', h9, g1, g2, g3⟩
        · exact absurd h9 he
        · rw [← spl_dw, h9, spl_tok t' q' g1 g2 g3] at e
          cases e
    · have hb : mailT (k0 :: k1 :: k2 :: k3 :: p :: (spl q).1) = none := by
        refine mailT_bad (fun a0 a1 a2 a3 a4 e => ?_)
        simp only [List.cons.injEq] at e
        obtain ⟨_, _, _, _, rfl, _⟩ := e
        rintro ⟨_, _, g, _⟩
        rw [hz] at g
        cases g
      rw [hb]
      rcases h with h | ⟨v, l, h, hl⟩
      · rw [h]; rfl
      · rw [h]
        simp only [fin]
        rw [if_neg (fun e => bad_end hl e.1)]
theorem ch4_is {t : Dt} {l : Bs} (hd : l = [] ∨ ∃ p q, l = p ++ q ∧ Nb p ∧ p ≠ [] ∧ Gp q) {k0 k1 k2 : Bs} (h0 : k0.length ≤ 2) (h2 : k2.length = 4) (ht : t = ⟨numR k2, monthR k1, numR k0, 0, 0, 0, 0⟩) : ch4 t l = mailT (k0 :: k1 :: k2 :: (spl l).1) := by
  rcases hd with rfl | ⟨p, q, rfl, hp, hp0, hq⟩
  · rw [spl_nil]
    unfold ch4
    rw [show clockP [] = none by decide +kernel]
    rfl
  · rw [spl_tok p q hp hp0 hq]
    unfold ch4
    rcases clock_tok hp hq with ⟨hc, o, h, ho⟩ | ⟨hc, h⟩
    · rw [h]
      simp only
      unfold ch5
      cases hg : gapP q with
      | none =>
        rw [gap_none hq hg]
        rfl
      | some l' =>
        obtain ⟨e1, e2⟩ := gap_some hq hg
        rw [← e2]
        refine ch6_is ?_ h0 h2 (fun k4 => ?_)
        · rw [e1]; exact dw_tok q
        · subst ht
          unfold mailD
          rw [ho]
    · have hb : mailT (k0 :: k1 :: k2 :: p :: (spl q).1) = none := by
        refine mailT_bad (fun a0 a1 a2 a3 a4 e => ?_)
        simp only [List.cons.injEq] at e
        obtain ⟨_, _, _, rfl, _⟩ := e
        rintro ⟨_, _, _, g⟩
        exact hc (right_parts g).2.2.2
      rw [hb]
      rcases h with h | ⟨v, l, h, hl⟩
      · rw [h]
      · rw [h]
        obtain ⟨a, b, c⟩ := v
        simp only
        unfold ch5
        rw [bad_gap hl]
theorem ch2_is {l : Bs} (hd : l = [] ∨ ∃ p q, l = p ++ q ∧ Nb p ∧ p ≠ [] ∧ Gp q) {k0 k1 : Bs} (h0 : k0.length ≤ 2) : ch2 (numR k0) (monthR k1) l = mailT (k0 :: k1 :: (spl l).1) := by
  rcases hd with rfl | ⟨p, q, rfl, hp, hp0, hq⟩
  · rw [spl_nil]
    rfl
  · rw [spl_tok p q hp hp0 hq]
    unfold ch2
    by_cases hn : ND 4 4 p
    · rw [num_yes hn hq]
      simp only
      obtain ⟨e, _⟩ := numR_nd hn (by omega) (by omega)
      unfold ch3
      cases hg : gapP q with
      | none =>
        rw [gap_none hq hg]
        rfl
      | some l' =>
        obtain ⟨e1, e2⟩ := gap_some hq hg
        rw [← e2]
        refine ch4_is ?_ h0 (by have := hn.2; omega) (by rw [e]; rfl)
        rw [e1]; exact dw_tok q
    · have hb : mailT (k0 :: k1 :: p :: (spl q).1) = none := by
        refine mailT_bad (fun a0 a1 a2 a3 a4 e => ?_)
        simp only [List.cons.injEq] at e
        obtain ⟨_, _, rfl, _⟩ := e
        rintro ⟨_, g4, _, g⟩
        have := numR_pos (t := p) (by have := (right_parts g).1; omega)
        exact hn ⟨this.1, by omega, by omega⟩
      rw [hb]
      rcases num_no (by omega) hn hp hq with h | ⟨v, l, h, hl⟩
      · rw [h]
      · rw [h]
        simp only
        unfold ch3
        rw [bad_gap hl]
theorem ch1_is {l : Bs} (hd : l = [] ∨ ∃ p q, l = p ++ q ∧ Nb p ∧ p ≠ [] ∧ Gp q) {k0 : Bs} (h0 : k0.length ≤ 2) : ch1 (numR k0) l = mailT (k0 :: (spl l).1) := by
  rcases hd with rfl | ⟨p, q, rfl, hp, hp0, hq⟩
  · rw [spl_nil]
    unfold ch1
    rw [show monthP [] = none by decide +kernel]
    rfl
  · rw [spl_tok p q hp hp0 hq]
    unfold ch1
    rcases month_tok hp hq with ⟨hm, h⟩ | ⟨hm, h⟩
    · rw [h]
      simp only
      cases hg : gapP q with
      | none =>
        rw [gap_none hq hg]
        rfl
      | some l' =>
        obtain ⟨e1, e2⟩ := gap_some hq hg
        rw [← e2]
        refine ch2_is ?_ h0
        rw [e1]; exact dw_tok q
    · have hb : mailT (k0 :: p :: (spl q).1) = none := by
        refine mailT_bad (fun a0 a1 a2 a3 a4 e => ?_)
        simp only [List.cons.injEq] at e
        obtain ⟨_, rfl, _⟩ := e
        rintro ⟨_, _, _, g⟩
        have := (right_parts g).2.1
        omega
      rw [hb]
      rcases h with h | ⟨v, l, h, hl⟩
      · rw [h]
      · rw [h]
        simp only
        rw [bad_gap hl]
theorem ch0_is {l : Bs} (hd : l = [] ∨ ∃ p q, l = p ++ q ∧ Nb p ∧ p ≠ [] ∧ Gp q) : ch0 l = mailT (spl l).1 := by
  rcases hd with rfl | ⟨p, q, rfl, hp, hp0, hq⟩
  · rfl
  · rw [spl_tok p q hp hp0 hq]
    unfold ch0
    by_cases hn : ND 1 2 p
    · rw [num_yes hn hq]
      simp only
      obtain ⟨e, _⟩ := numR_nd hn (by omega) (by omega)
      cases hg : gapP q with
      | none =>
        rw [gap_none hq hg]
        rfl
      | some l' =>
        obtain ⟨e1, e2⟩ := gap_some hq hg
        rw [← e2, ← e]
        refine ch1_is ?_ hn.2.2
        rw [e1]; exact dw_tok q
    · have hb : mailT (p :: (spl q).1) = none := by
        refine mailT_bad (fun a0 a1 a2 a3 a4 e => ?_)
        simp only [List.cons.injEq] at e
        obtain ⟨rfl, _⟩ := e
        rintro ⟨g2, _, _, g⟩
        have := numR_pos (t := p) (by have := (right_parts g).2.2.1; omega)
        exact hn ⟨this.1, this.2.1, g2⟩
      rw [hb]
      rcases num_no (by omega) hn hp hq with h | ⟨v, l, h, hl⟩
      · rw [h]
      · rw [h]
        simp only
        rw [bad_gap hl]
/-- The program's reading of a header's date is the document's. -/
theorem mail_eq (s : Bs) : readP mailP s = mailT (kOf (spl s).1) := by
  rw [mail_ch, ← spl_dw s]
  rcases dw_tok s with h | ⟨p, q, h, hp, hp0, hq⟩
  · rw [h]
    decide +kernel
  · rw [h, spl_tok p q hp hp0 hq]
    rcases wday_tok hp hq with ⟨hw, e⟩ | ⟨hw, e⟩ | ⟨hw, h3, e⟩
    · rw [e]
      have hk : kOf (p :: (spl q).1) = (spl q).1 := by simp [kOf, hw]
      rw [hk]
      cases hg : gapP q with
      | none =>
        rw [gap_none hq hg]
        rfl
      | some l' =>
        obtain ⟨e1, e2⟩ := gap_some hq hg
        rw [← e2]
        refine ch0_is ?_
        rw [e1]; exact dw_tok q
    · rw [e]
      have hk : kOf (p :: (spl q).1) = p :: (spl q).1 := by simp [kOf, hw]
      rw [hk, ← spl_tok p q hp hp0 hq]
      exact ch0_is (.inr ⟨p, q, rfl, hp, hp0, hq⟩)
    · rw [e]
      have hk : kOf (p :: (spl q).1) = p :: (spl q).1 := by simp [kOf, hw]
      rw [hk]
      refine (mailT_bad (fun a0 a1 a2 a3 a4 e => ?_)).symm
      simp only [List.cons.injEq] at e
      obtain ⟨rfl, _⟩ := e
      rintro ⟨g2, _⟩
      omega

theorem num_pre {a b : Nat} {l l' : Bs} {v : Int} (h : numP a b l = some (v, l')) : ∃ D, l = D ++ l' ∧ D.all digB = true ∧ a ≤ D.length ∧ D.length ≤ b ∧ v = val D := by
  unfold numP at h
  split at h
  · cases h
  · rename_i hl
    simp only [Option.some.injEq, Prod.mk.injEq] at h
    obtain ⟨rfl, rfl⟩ := h
    have hp : numL b l <+: l := (List.takeWhile_prefix digB).trans (List.take_prefix b l)
    obtain ⟨q, hq⟩ := hp
    refine ⟨numL b l, ?_, ?_, by omega, (numL_le b l).2, rfl⟩
    · rw [← hq]
      have : (numL b (numL b l ++ q)) = numL b l := by rw [hq]
      rw [this, List.drop_left]
    · unfold numL
      exact List.all_takeWhile
theorem month_any {l l' : Bs} {v : Int} (h : monthP l = some (v, l')) : ∃ a b c, l = a :: b :: c :: l' ∧ v = monthR [a, b, c] ∧ 1 ≤ v := by
  unfold monthP at h
  cases hn : nameF months 12 l with
  | none => rw [hn] at h; cases h
  | some i =>
    rw [hn] at h
    simp only [Option.some.injEq, Prod.mk.injEq] at h
    obtain ⟨rfl, rfl⟩ := h
    unfold nameF at hn
    have h1 := List.find?_some hn
    have h12 := List.mem_range.1 (List.mem_of_find?_eq_some hn)
    unfold hasP at h1
    rw [(months_ok i h12).1, beq_iff_eq] at h1
    have hl := congrArg List.length h1
    rw [low_length, low_length, (months_ok i h12).1, List.length_take] at hl
    match l, hl with
    | a :: b :: c :: q, _ =>
      refine ⟨a, b, c, rfl, ?_, by omega⟩
      rw [monthR_find]
      have e : (List.range 12).find? (fun i => low [a, b, c] == low ((months.drop (3 * i)).take 3)) = some i := by
        rw [← hn]
        refine find_ext _ _ _ (fun j hj => ?_)
        unfold hasP
        rw [(months_ok j (List.mem_range.1 hj)).1]
        rfl
      rw [e]
theorem month_some {a b c : UInt8} {r : Bs} (h : 1 ≤ monthR [a, b, c]) : monthP (a :: b :: c :: r) = some (monthR [a, b, c], r) := by
  have e : nameF months 12 (a :: b :: c :: r) = (List.range 12).find? (fun i => low [a, b, c] == low ((months.drop (3 * i)).take 3)) := by
    unfold nameF
    refine find_ext _ _ _ (fun j hj => ?_)
    unfold hasP
    rw [(months_ok j (List.mem_range.1 hj)).1]
    rfl
  rw [monthR_find] at h ⊢
  unfold monthP
  rw [e]
  cases hf : (List.range 12).find? (fun i => low [a, b, c] == low ((months.drop (3 * i)).take 3)) with
  | none => rw [hf] at h; simp at h
  | some i => rfl
theorem needP45 (l : Bs) : needP [45] l = match l with | c :: q => if c = 45 then some q else none | [] => none := by
  unfold needP
  rw [need_iff (by simp)]
  cases l with
  | nil => rfl
  | cons c q =>
    by_cases h : c = 45
    · subst h; simp
    · simp [h]
theorem need45 {l l' : Bs} (h : needP [45] l = some l') : l = 45 :: l' := by
  rw [needP45] at h
  cases l with
  | nil => cases h
  | cons c q =>
    simp only at h
    split at h
    · rename_i hc
      simp only [Option.some.injEq] at h
      rw [hc, h]
    · cases h
/-- What a day's text is. -/
theorem day_is {s l : Bs} {u t : Dt} (h : dayP ⟨s, u⟩ = some ⟨l, t⟩) : ∃ D a b c Y, s = D ++ 45 :: a :: b :: c :: 45 :: (Y ++ l) ∧ D.all digB = true ∧ 1 ≤ D.length ∧ D.length ≤ 2 ∧ Y.all digB = true ∧ Y.length = 4 ∧ 1 ≤ monthR [a, b, c] ∧ t = { u with d := val D, mo := monthR [a, b, c], y := val Y } := by
  unfold dayP at h
  simp only at h
  cases h1 : numP 1 2 s with
  | none => rw [h1] at h; cases h
  | some p =>
    obtain ⟨d, l1⟩ := p
    rw [h1] at h
    simp only at h
    cases h2 : needP [45] l1 with
    | none => rw [h2] at h; cases h
    | some l2 =>
      rw [h2] at h
      simp only at h
      cases h3 : monthP l2 with
      | none => rw [h3] at h; cases h
      | some p =>
        obtain ⟨m, l3⟩ := p
        rw [h3] at h
        simp only at h
        cases h4 : needP [45] l3 with
        | none => rw [h4] at h; cases h
        | some l4 =>
          rw [h4] at h
          simp only at h
          cases h5 : numP 4 4 l4 with
          | none => rw [h5] at h; cases h
          | some p =>
            obtain ⟨y, l5⟩ := p
            rw [h5] at h
            simp only [Option.some.injEq, Rd.mk.injEq] at h
            obtain ⟨rfl, rfl⟩ := h
            obtain ⟨D, rfl, d1, d2, d3, rfl⟩ := num_pre h1
            obtain ⟨Y, rfl, y1, y2, y3, rfl⟩ := num_pre h5
            obtain ⟨a, b, c, rfl, rfl, m1⟩ := month_any h3
            have e2 := need45 h2
            have e4 := need45 h4
            subst e2 e4
            exact ⟨D, a, b, c, Y, rfl, d1, d2, d3, y1, by omega, m1, rfl⟩
theorem numL_stop {D : Bs} {c : UInt8} {r : Bs} (hc : digB c = false) (hD : D.all digB = true) : ∀ {b : Nat}, D.length ≤ b → numL b (D ++ c :: r) = D := by
  intro b hb
  induction D generalizing b with
  | nil =>
    cases b with
    | zero => rfl
    | succ b => simp [numL, List.takeWhile, hc]
  | cons a D ih =>
    simp only [List.all_cons, Bool.and_eq_true] at hD
    cases b with
    | zero => simp at hb
    | succ b =>
      have := ih hD.2 (b := b) (by simp at hb; omega)
      unfold numL at this ⊢
      simp only [List.cons_append, List.take_succ_cons, List.takeWhile_cons, hD.1, if_true]
      rw [this]
theorem day_yes {D Y : Bs} {a b c : UInt8} {u : Dt} (h1 : D.all digB = true) (h2 : 1 ≤ D.length) (h3 : D.length ≤ 2) (h4 : Y.all digB = true) (h5 : Y.length = 4) (h6 : 1 ≤ monthR [a, b, c]) :
    dayP ⟨D ++ 45 :: a :: b :: c :: 45 :: Y, u⟩ = some ⟨[], { u with d := val D, mo := monthR [a, b, c], y := val Y }⟩ := by
  have n1 : numP 1 2 (D ++ 45 :: a :: b :: c :: 45 :: Y) = some (val D, 45 :: a :: b :: c :: 45 :: Y) := by
    unfold numP
    rw [numL_stop (by decide) h1 h3, if_neg (by omega), List.drop_left]
  have n2 : numP 4 4 Y = some (val Y, []) := by
    have := num_yes (a := 4) (b := 4) (t := Y) (r := []) ⟨h4, by omega, by omega⟩ (.inl rfl)
    rwa [List.append_nil] at this
  unfold dayP
  simp only
  rw [n1]
  simp only
  rw [needP45]
  simp only [if_true]
  rw [month_some h6]
  simp only
  rw [needP45]
  simp only [if_true]
  rw [n2]
theorem val_zero (D : Bs) : val (48 :: D) = val D := by
  unfold val
  rw [List.foldl_cons]
  rfl
/-- The day of a text, as the document reads it. -/
def dayQ (s : Bs) : Option Dt := match dayT (dayS s) with
  | some (y, m, d) => if There y m d then some ⟨y, m, d, 0, 0, 0, 0⟩ else none
  | none => none
theorem dayT_is (D Y : Bs) (a b c : UInt8) (hD : D.length = 2) (hY : Y.length = 4) : dayT (D ++ 45 :: a :: b :: c :: 45 :: Y) = some (numR Y, monthR [a, b, c], numR D) := by
  match D, hD, Y, hY with
  | [d1, d2], _, [y1, y2, y3, y4], _ => rfl
theorem there_pos {y m d : Int} (h : There y m d) : 1 ≤ y ∧ 1 ≤ m ∧ 1 ≤ d := ⟨h.1, h.2.2.1, h.2.2.2.2.1⟩
theorem right_day (y m d : Int) : RightP ⟨y, m, d, 0, 0, 0, 0⟩ ↔ There y m d := by
  unfold RightP
  simp
theorem dayT_some {t : Bs} {y m d : Int} (h : dayT t = some (y, m, d)) : ∃ D a b c Y, t = D ++ 45 :: a :: b :: c :: 45 :: Y ∧ D.length = 2 ∧ Y.length = 4 ∧ y = numR Y ∧ m = monthR [a, b, c] ∧ d = numR D := by
  unfold dayT at h
  split at h
  · rename_i hc
    obtain ⟨h1, h2, h3⟩ := hc
    match t, h1 with
    | [d1, d2, c1, a, b, c, c2, y1, y2, y3, y4], _ =>
      simp at h2 h3
      subst h2 h3
      simp only [Option.some.injEq, Prod.mk.injEq] at h
      obtain ⟨rfl, rfl, rfl⟩ := h
      exact ⟨[d1, d2], a, b, c, [y1, y2, y3, y4], rfl, rfl, rfl, rfl, rfl, rfl⟩
  · cases h
theorem day_eq (s : Bs) : readP dayP s = dayQ s := by
  unfold readP
  -- what the program reads is what the document reads
  have H1 : ∀ D a b c Y, s = D ++ 45 :: a :: b :: c :: 45 :: Y → D.all digB = true → 1 ≤ D.length → D.length ≤ 2 → Y.all digB = true → Y.length = 4 → dayQ s = if There (val Y) (monthR [a, b, c]) (val D) then some ⟨val Y, monthR [a, b, c], val D, 0, 0, 0, 0⟩ else none := by
    intro D a b c Y hs h1 h2 h3 h4 h5
    have eY : numR Y = val Y := by unfold numR; rw [if_pos ⟨h4, by omega, by omega⟩]
    unfold dayQ dayS
    rcases Nat.lt_or_ge D.length 2 with hl | hl
    · have hlen : s.length = 10 := by rw [hs]; simp; omega
      rw [if_pos hlen, hs]
      have e := dayT_is (48 :: D) Y a b c (by simp; omega) h5
      rw [List.cons_append] at e
      rw [e]
      have eD : numR (48 :: D) = val D := by
        unfold numR
        rw [if_pos ⟨by simp [h1]; decide, by simp, by simp; omega⟩, val_zero]
      simp only [eY, eD]
    · have hlen : ¬ s.length = 10 := by rw [hs]; simp; omega
      rw [if_neg hlen, hs, dayT_is D Y a b c (by omega) h5]
      have eD : numR D = val D := by unfold numR; rw [if_pos ⟨h1, by omega, by omega⟩]
      simp only [eY, eD]
  cases hd : dayP ⟨s, Dt.zero⟩ with
  | some r =>
    obtain ⟨l, t⟩ := r
    simp only
    obtain ⟨D, a, b, c, Y, e, g1, g2, g3, g4, g5, g6, rfl⟩ := day_is hd
    by_cases hl : l = []
    · subst hl
      rw [List.append_nil] at e
      rw [H1 D a b c Y e g1 g2 g3 g4 g5]
      show (if ([] : Bs) = [] ∧ RightP ⟨val Y, monthR [a, b, c], val D, 0, 0, 0, 0⟩ then some _ else none) = _
      by_cases ht : There (val Y) (monthR [a, b, c]) (val D)
      · rw [if_pos ⟨rfl, (right_day _ _ _).2 ht⟩, if_pos ht]
        rfl
      · rw [if_neg (fun e => ht ((right_day _ _ _).1 e.2)), if_neg ht]
    · rw [if_neg (fun e => hl e.1)]
      symm
      unfold dayQ
      cases hq : dayT (dayS s) with
      | none => rfl
      | some p =>
        obtain ⟨y, m, d⟩ := p
        simp only
        rw [if_neg]
        intro ht
        have hp := there_pos ht
        obtain ⟨D', a', b', c', Y', e', k1, k2, rfl, rfl, rfl⟩ := dayT_some hq
        have q1 := numR_pos (t := D') (by omega)
        have q2 := numR_pos (t := Y') (by omega)
        -- s is such a text, so nothing is left
        have hlen := congrArg List.length e
        simp at hlen
        have : 0 < l.length := List.length_pos_iff.2 hl
        unfold dayS at e'
        split at e'
        · rename_i h10
          rw [h10] at hlen
          omega
        · rename_i h10
          have hl2 := congrArg List.length e'
          simp at hl2
          have hD1 : D.length = 1 ∨ D.length = 2 := by omega
          rcases hD1 with hD1 | hD1
          · -- one digit, a sign: the document has the sign one byte later
            rw [e] at e'
            match D, hD1, D', k1 with
            | [x], _, [x', y'], _ =>
              simp only [List.cons_append, List.nil_append, List.cons.injEq] at e'
              obtain ⟨_, e2, _⟩ := e'
              have := q1.1
              simp at this
              rw [← e2] at this
              exact absurd this.2 (by decide)
          · omega
  | none =>
    simp only
    symm
    unfold dayQ
    cases hq : dayT (dayS s) with
    | none => rfl
    | some p =>
      obtain ⟨y, m, d⟩ := p
      simp only
      rw [if_neg]
      intro ht
      have hp := there_pos ht
      obtain ⟨D', a', b', c', Y', e', k1, k2, rfl, rfl, rfl⟩ := dayT_some hq
      have q1 := numR_pos (t := D') (by omega)
      have q2 := numR_pos (t := Y') (by omega)
      unfold dayS at e'
      split at e'
      · match D', k1 with
        | [x', y'], _ =>
          simp only [List.cons_append, List.nil_append, List.cons.injEq] at e'
          obtain ⟨_, e2⟩ := e'
          have hy : digB y' = true := by have := q1.1; simp at this; exact this.2
          have := day_yes (D := [y']) (Y := Y') (a := a') (b := b') (c := c') (u := Dt.zero) (by simp [hy]) (by simp) (by simp) q2.1 k2 hp.2.1
          rw [show ([y'] ++ 45 :: a' :: b' :: c' :: 45 :: Y' : Bs) = s from e2.symm, hd] at this
          cases this
      · have := day_yes (D := D') (Y := Y') (a := a') (b := b') (c := c') (u := Dt.zero) q1.1 (by omega) (by omega) q2.1 k2 hp.2.1
        rw [← e', hd] at this
        cases this

end Go.Proofs.YtnjdgbbdjkhpoaaDoor.pm
