/- What this text holds: a message that is made of contents (plain facts for the law of made messages). -/
import Derived.Test.YtgolcmafbenjbaaGreatDoorQ4
namespace Go.Proofs.YtgolcmafbenjbaaGreatDoor
set_option linter.unusedVariables false
set_option linter.unusedSimpArgs false

def hMade : Bs := [83, 117, 98, 106, 101, 99, 116, 58, 32, 120, 13, 10, 67, 111, 110, 116, 101, 110, 116, 45, 84, 121, 112, 101, 58, 32, 109, 117, 108, 116, 105, 112, 97, 114, 116, 47, 109, 105, 120, 101, 100, 59, 32, 98, 111, 117, 110, 100, 97, 114, 121, 61, 34, 61, 98, 61, 34, 13, 10, 13, 10]
def wAhead : Bs := [97, 104, 101, 97, 100, 13, 10]
def wBord : Bs := [45, 45, 61, 98, 61, 13, 10]
def hPart : Bs := [67, 111, 110, 116, 101, 110, 116, 45, 68, 101, 115, 99, 114, 105, 112, 116, 105, 111, 110, 58, 32, 100, 13, 10, 13, 10]
def wEnd : Bs := [45, 45, 61, 98, 61, 45, 45, 13, 10, 98, 101, 104, 105, 110, 100, 13, 10]
def begB : Bs := [45, 45, 61, 98, 61]
def wMixed : Bs := [109, 105, 120, 101, 100]
/-- No two bytes - one behind the other. -/
def NoDD (l : Bs) : Prop := ∀ i : Nat, l[i]? = some 45 → l[i + 1]? ≠ some 45
def onePart (x : Bs) : Bs := wBord ++ (hPart ++ x ++ [13, 10])
def rests (L : List Bs) : Bs := L.flatMap onePart ++ wEnd
def made (L : List Bs) : Bs := hMade ++ (wAhead ++ rests L)
theorem NoDD.drop {l : Bs} (h : NoDD l) (k : Nat) : NoDD (l.drop k) := by
  intro i h1 h2
  rw [List.getElem?_drop] at h1 h2
  exact h (k + i) h1 (by rw [← h2]; congr 1)
theorem ndd_ahead : NoDD wAhead := by
  intro i h1 h2
  have hl : i < wAhead.length := (List.getElem?_eq_some_iff.1 h1).1
  have hl' : i < 7 := hl
  have : ∀ j : Fin 7, wAhead[j.val]? = some 45 → False := by decide
  exact this ⟨i, hl'⟩ h1
theorem ndd_part {x : Bs} (h : NoDD x) : NoDD (hPart ++ x ++ [13, 10]) := by
  intro i h1 h2
  have hp : hPart.length = 26 := rfl
  rcases Nat.lt_or_ge i 26 with hi | hi
  · rw [List.append_assoc, List.getElem?_append_left (by omega)] at h1
    have : ∀ j : Fin 26, hPart[j.val]? = some 45 → j.val + 1 < 26 ∧ hPart[j.val + 1]? ≠ some 45 := by decide
    obtain ⟨a1, a2⟩ := this ⟨i, hi⟩ h1
    rw [List.append_assoc, List.getElem?_append_left (by rw [hp]; exact a1)] at h2
    exact a2 h2
  · rw [List.append_assoc, List.getElem?_append_right (by omega)] at h1
    rw [List.append_assoc, List.getElem?_append_right (by omega)] at h2
    rw [hp] at h1 h2
    rw [show i + 1 - 26 = (i - 26) + 1 by omega] at h2
    generalize i - 26 = q at *
    rcases Nat.lt_or_ge (q + 1) x.length with hq | hq
    · rw [List.getElem?_append_left (by omega)] at h1
      rw [List.getElem?_append_left hq] at h2
      exact h q h1 h2
    · rw [List.getElem?_append_right hq] at h2
      have : q + 1 - x.length < 2 := (List.getElem?_eq_some_iff.1 h2).1
      have hd : ∀ j : Fin 2, ([13, 10] : Bs)[j.val]? = some 45 → False := by decide
      exact hd ⟨_, this⟩ h2
theorem ln_app : ∀ (y r : Bs), 10 ∈ y → ln (y ++ r) = ln y
  | [], r, h => by simp at h
  | c :: y, r, h => by
    rw [List.cons_append]
    unfold ln
    by_cases hc : c = 10
    · rw [if_pos hc, if_pos hc]
    · rw [if_neg hc, if_neg hc, ln_app y r (by rcases List.mem_cons.1 h with e | e; exact absurd e.symm hc; exact e)]
theorem last_drop {y : Bs} (k : Nat) (h : y.getLast? = some 10) : y.drop k = [] ∨ (y.drop k).getLast? = some 10 := by
  rcases Nat.lt_or_ge k y.length with hk | hk
  · right
    rw [List.getLast?_drop, if_neg (by omega)]
    exact h
  · left
    exact List.drop_of_length_le hk
theorem last_mem {y : Bs} (h : y.getLast? = some 10) : 10 ∈ y := List.mem_of_getLast? h
theorem bor_no {line : Bs} (h : NoDD line) : borderM line begB = (false, false) := by
  unfold borderM
  rw [if_neg]
  intro hp
  rw [List.isPrefixOf_iff_prefix] at hp
  obtain ⟨t, ht⟩ := hp
  subst ht
  exact h 0 rfl rfl
theorem drop_line {m : Bs} {a b : Nat} {y : Bs} (hb : b = m.length) (h : m.drop a = y) : inn m a b = y ∧ eol m a b = a + ln y ∧ inn m a (eol m a b) = y.take (ln y) := by
  have h1 : inn m a b = y := by rw [hb, inn_drop, h]
  have h2 : eol m a b = a + ln y := by unfold eol; rw [h1]
  refine ⟨h1, h2, ?_⟩
  rw [h2]
  unfold inn
  rw [h, show a + ln y - a = ln y by omega]
theorem drop_ne {m : Bs} {a : Nat} {y : Bs} (h : m.drop a = y) (hy : y ≠ []) : a < m.length := by
  rcases Nat.lt_or_ge a m.length with hk | hk
  · exact hk
  · rw [List.drop_of_length_le hk] at h
    exact absurd h.symm hy
/-- Lines that are no borders are passed over. -/
theorem bet_skip (m : Bs) (op : Option Nat) : ∀ (n : Nat) (y r : Bs) (a : Nat), y.length ≤ n → NoDD y → (y = [] ∨ y.getLast? = some 10) → m.drop a = y ++ r → betR m begB m.length a op = betR m begB m.length (a + y.length) op
  | n, [], r, a, hn, hd, hl, h => by simp
  | 0, c :: y, r, a, hn, hd, hl, h => by simp at hn
  | n + 1, c :: y, r, a, hn, hd, hl, h => by
    have hl' : (c :: y).getLast? = some 10 := by rcases hl with e | e; simp at e; exact e
    generalize hz : c :: y = z at *
    have hz0 : z ≠ [] := by rw [← hz]; simp
    obtain ⟨h1, h2, h3⟩ := drop_line rfl h
    have hla := ln_app z r (last_mem hl')
    have hpos := ln_pos z hz0
    have hle := ln_le z
    rw [hla] at h2 h3
    rw [List.take_append_of_le_length hle] at h3
    have hbn : borderM (z.take (ln z)) begB = (false, false) := bor_no (fun i e1 e2 => hd i (by
      rw [List.getElem?_take] at e1; split at e1; exact e1; cases e1) (by rw [List.getElem?_take] at e2; split at e2; exact e2; cases e2))
    rw [betR_step m begB _ a op (Nat.le_refl _) (drop_ne h (by simp [hz0])), h3, hbn, h2]
    simp only [Bool.false_eq_true, if_false]
    have hd2 : m.drop (a + ln z) = z.drop (ln z) ++ r := by
      rw [← List.drop_drop, h, List.drop_append_of_le_length hle]
    rw [bet_skip m op n (z.drop (ln z)) r (a + ln z) (by simp; omega) (hd.drop _) (last_drop _ hl') hd2, List.length_drop, show a + ln z + (z.length - ln z) = a + z.length by omega]
theorem bet_bord (m : Bs) (op : Option Nat) (a : Nat) (r : Bs) (h : m.drop a = wBord ++ r) : betR m begB m.length a op = bits m op a ++ betR m begB m.length (a + 7) (some (a + 7)) := by
  obtain ⟨h1, h2, h3⟩ := drop_line rfl h
  rw [show ln (wBord ++ r) = 7 from rfl] at h2 h3
  rw [betR_step m begB _ a op (Nat.le_refl _) (drop_ne h (by simp [wBord])), h3, h2, show (wBord ++ r).take 7 = wBord from rfl, show borderM wBord begB = (true, false) by decide +kernel]
  rfl
theorem bet_end (m : Bs) (op : Option Nat) (a : Nat) (h : m.drop a = wEnd) : betR m begB m.length a op = bits m op a := by
  obtain ⟨h1, h2, h3⟩ := drop_line rfl h
  rw [betR_step m begB _ a op (Nat.le_refl _) (drop_ne h (by simp [wEnd])), h3, show borderM (wEnd.take (ln wEnd)) begB = (false, true) by decide +kernel]
  rfl
/-- Where the contents lie. -/
def places : Nat → List Bs → List (Nat × Nat)
  | _, [] => []
  | a, x :: L => (a + 7, a + 33 + x.length) :: places (a + 35 + x.length) L
theorem bare_crlf (y : Bs) : bare (y ++ [13, 10]) = y := by
  unfold bare
  rw [show y ++ [13, 10] = (y ++ [13]) ++ [10] by simp, List.getLast?_concat, if_pos rfl, List.dropLast_concat, List.getLast?_concat, if_pos rfl, List.dropLast_concat]
theorem bet_parts (m : Bs) : ∀ (L : List Bs) (a : Nat) (op : Option Nat), (∀ x ∈ L, NoDD x) → m.drop a = rests L → betR m begB m.length a op = bits m op a ++ places a L
  | [], a, op, hL, h => by
    rw [bet_end m op a h, places, List.append_nil]
  | x :: L, a, op, hL, h => by
    have h' : m.drop a = wBord ++ ((hPart ++ x ++ [13, 10]) ++ rests L) := by rw [h]; simp [rests, onePart]
    have hy : (hPart ++ x ++ [13, 10]).length = 28 + x.length := by simp [hPart]; omega
    have hd7 : m.drop (a + 7) = (hPart ++ x ++ [13, 10]) ++ rests L := by rw [← List.drop_drop, h']; rfl
    have hdn : m.drop (a + 35 + x.length) = rests L := by
      rw [show a + 35 + x.length = (a + 7) + (hPart ++ x ++ [13, 10]).length by omega, ← List.drop_drop, hd7, List.drop_left]
    have hin : inn m (a + 7) (a + 35 + x.length) = hPart ++ x ++ [13, 10] := by
      unfold inn
      rw [hd7, show a + 35 + x.length - (a + 7) = (hPart ++ x ++ [13, 10]).length by omega, List.take_left]
    rw [bet_bord m op a _ h', bet_skip m _ _ _ _ _ (Nat.le_refl _) (ndd_part (hL x (by simp))) (.inr (by simp)) hd7, hy, show a + 7 + (28 + x.length) = a + 35 + x.length by omega,
      bet_parts m L _ _ (fun z hz => hL z (by simp [hz])) hdn]
    rw [places]
    simp only [bits, hin]
    rw [bare_crlf]
    simp [hPart]
    omega
theorem hdr_made (r : Bs) : hdr (hMade ++ r) = 61 := by
  rw [hdr_step _ (by simp [hMade]), show ln (hMade ++ r) = 12 from rfl, show emp ((hMade ++ r).take 12) = false from rfl, hdr_step _ (by simp [hMade]), show ln ((hMade ++ r).drop 12) = 47 from rfl, show emp (((hMade ++ r).drop 12).take 47) = false from rfl, show ((hMade ++ r).drop 12).drop 47 = [13, 10] ++ r from rfl, hdr_two]
  rfl
theorem of_made (r : Bs) : fieldsOf (hMade ++ r) = fieldsP hMade := by
  unfold fieldsOf
  rw [hdr_made]
  rfl
theorem kind_made : kindOfM (fieldsP hMade) false = (wMulti, wMixed, [(nBound, [61, 98, 61])]) := by decide +kernel
theorem hdr_part (r : Bs) : hdr (hPart ++ r) = 26 := by
  rw [hdr_step _ (by simp [hPart]), show ln (hPart ++ r) = 24 from rfl, show emp ((hPart ++ r).take 24) = false from rfl, show (hPart ++ r).drop 24 = [13, 10] ++ r from rfl, hdr_two]
  rfl
theorem of_part (r : Bs) : fieldsOf (hPart ++ r) = fieldsP hPart := by
  unfold fieldsOf
  rw [hdr_part]
  rfl
theorem kind_part : kindOfM (fieldsP hPart) false = (wText, wPlain, []) := by decide +kernel
theorem desc_part : firstM (fieldsP hPart) nDesc = [[100]] := by decide +kernel
/-- A content, told. -/
theorem part_made {m : Bs} {a b : Nat} {x : Bs} (h : inn m a b = hPart ++ x) : (partM m a b false).ty = wText ∧ (partM m a b false).desc = [[100]] ∧ inn m (partM m a b false).fr (partM m a b false).to = x := by
  refine ⟨?_, ?_, ?_⟩
  · unfold partM
    rw [h, of_part, kind_part]
  · unfold partM
    rw [h, of_part, desc_part]
  · show inn m (a + hdr (inn m a b)) b = x
    rw [h, hdr_part, inn_at, h]
    rfl
theorem tell_part {m : Bs} {a b : Nat} {x : Bs} (j many : Nat) (h : inn m a b = hPart ++ x) : tellM m j a b false many = (.mk (partM m a b false) [], many + 1) := by
  cases j with
  | zero => rfl
  | succ j =>
    simp only [tellM]
    rw [texts_sub (part_made h).1]
    rfl
theorem place_inn {m : Bs} {a : Nat} {x r : Bs} (h : m.drop a = onePart x ++ r) : inn m (a + 7) (a + 33 + x.length) = hPart ++ x := by
  unfold inn
  rw [← List.drop_drop, h, show a + 33 + x.length - (a + 7) = (hPart ++ x).length by simp [hPart]; omega]
  show ((hPart ++ x ++ [13, 10]) ++ r).take _ = _
  rw [List.append_assoc, List.take_left]
/-- The kids of a message that was made. -/
def Kid (m : Bs) (x : Bs) (k : Pt) : Prop := k.d.ty = wText ∧ k.d.desc = [[100]] ∧ inn m k.d.fr k.d.to = x
theorem kids_made (m : Bs) : ∀ (L : List Bs) (a many : Nat), m.drop a = rests L → many + L.length ≤ 60 →
    (kidsF (tellM m 6) false (places a L) many).2 = many + L.length ∧ (kidsF (tellM m 6) false (places a L) many).1.length = L.length ∧ ∀ (i : Nat) k x, (kidsF (tellM m 6) false (places a L) many).1[i]? = some k → L[i]? = some x → Kid m x k
  | [], a, many, h, hm => by simp [places, kidsF]
  | x :: L, a, many, h, hm => by
    simp only [List.length_cons] at hm
    have h' : m.drop a = onePart x ++ rests L := by rw [h]; simp [rests]
    have hi := place_inn h'
    have hdn : m.drop (a + 35 + x.length) = rests L := by
      rw [show a + 35 + x.length = a + (onePart x).length by simp [onePart, wBord, hPart]; omega, ← List.drop_drop, h', List.drop_left]
    obtain ⟨i1, i2, i3⟩ := kids_made m L (a + 35 + x.length) (many + 1) hdn (by omega)
    simp only [places, kidsF, if_neg (show ¬ 60 ≤ many by omega), tell_part 6 many hi]
    refine ⟨by rw [i1, List.length_cons]; omega, by rw [List.length_cons, i2, List.length_cons], fun i k y h1 h2 => ?_⟩
    cases i with
    | zero =>
      simp only [List.getElem?_cons_zero, Option.some.injEq] at h1 h2
      subst h1 h2
      exact part_made hi
    | succ i => exact i3 i k y (by simpa using h1) (by simpa using h2)
theorem made_struc (L : List Bs) (hL : ∀ x ∈ L, NoDD x) (h0 : L ≠ []) (h40 : L.length ≤ 40) :
    (strucM (made L)).d.ty = wMulti ∧ (strucM (made L)).d.sub = wMixed ∧ (strucM (made L)).kids.length = L.length ∧ cntD 7 (strucM (made L)) = L.length + 1 ∧ partedB (strucM (made L)) = true ∧
    ∀ (i : Nat) k x, (strucM (made L)).kids[i]? = some k → L[i]? = some x → Kid (made L) x k := by
  have hd := struc_d (made L)
  have hin : inn (made L) 0 (made L).length = made L := inn_all _
  have hty : (partM (made L) 0 (made L).length false).ty = wMulti ∧ (partM (made L) 0 (made L).length false).sub = wMixed ∧ (partM (made L) 0 (made L).length false).ps = [(nBound, [61, 98, 61])] ∧ (partM (made L) 0 (made L).length false).fr = 61 ∧ (partM (made L) 0 (made L).length false).to = (made L).length := by
    unfold partM
    rw [hin]
    unfold made
    rw [of_made, kind_made, hdr_made]
    exact ⟨rfl, rfl, rfl, rfl, rfl⟩
  obtain ⟨t1, t2, t3, t4, t5⟩ := hty
  have hdr1 : (made L).drop 61 = wAhead ++ rests L := rfl
  have hdr2 : (made L).drop 68 = rests L := rfl
  have htx : textsM (made L) (partM (made L) 0 (made L).length false) = places 68 L := by
    unfold textsM isLetter isMulti
    rw [t1, t3, t4, t5, if_neg (by rw [show decide (wMulti = wMess) = false by decide]; simp), if_pos ⟨by decide, by decide⟩, show (45 :: 45 :: boundM [(nBound, [61, 98, 61])]) = begB by decide, betM_is, bet_skip (made L) none 7 wAhead (rests L) 61 (by decide) ndd_ahead (.inr (by decide)) hdr1]
    show betR _ _ _ 68 none = _
    rw [bet_parts (made L) L 68 none hL hdr2]
    rfl
  have hdg : isDig (partM (made L) 0 (made L).length false) = false := by
    unfold isDig isMulti
    rw [t1, t2]
    rfl
  obtain ⟨k1, k2, k3⟩ := kids_made (made L) L 68 1 hdr2 (by omega)
  have hT : tellM (made L) 7 0 (made L).length false 0 = (.mk (partM (made L) 0 (made L).length false) (kidsF (tellM (made L) 6) false (places 68 L) 1).1, (kidsF (tellM (made L) 6) false (places 68 L) 1).2) := by
    rw [tellM, htx, hdg]
  have hc := tell_cnt (made L) 7 0 (made L).length false 0 (by omega)
  have hks : (strucM (made L)).kids = (kidsF (tellM (made L) 6) false (places 68 L) 1).1 := by unfold strucM; rw [hT]; rfl
  have hkl : (strucM (made L)).kids.length = L.length := by rw [hks, k2]
  have hc2 : cntD 7 (strucM (made L)) = L.length + 1 := by
    rw [hT, k1] at hc
    have e : strucM (made L) = .mk (partM (made L) 0 (made L).length false) (kidsF (tellM (made L) 6) false (places 68 L) 1).1 := by unfold strucM; rw [hT]
    rw [e]
    simp only at hc
    omega
  refine ⟨by rw [hd]; exact t1, by rw [hd]; exact t2, hkl, hc2, ?_, fun i k x h1 h2 => ?_⟩
  · unfold partedB isMulti
    rw [hd, t1, hkl]
    have : 0 < L.length := List.length_pos_iff.2 h0
    simp [this]
  · rw [hks] at h1
    exact k3 i k x h1 h2
end Go.Proofs.YtgolcmafbenjbaaGreatDoor
