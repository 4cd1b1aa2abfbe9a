/- What this text holds: the addresses of a value as plain functions over bytes. No program in it. -/
import Derived.Test.YtaniljfjmbifnaaGreatDoorHP1
namespace Go.Proofs.YtaniljfjmbifnaaGreatDoor.H
set_option linter.unusedVariables false
set_option linter.unusedSimpArgs false

/-- What is quoted, behind its first byte: what it says, and what comes then. -/
def quoP : Bs → Bs × Bs
  | [] => ([], [])
  | c :: s => if c = 34 then ([], s) else if c = 92 then (match s with
    | [] => ([92], [])
    | d :: t => (d :: (quoP t).1, (quoP t).2)) else (c :: (quoP s).1, (quoP s).2)
/-- What comes behind a remark, so deep. -/
def remP : Nat → Bs → Bs
  | 0, s => s
  | d + 1, [] => []
  | d + 1, c :: s => if c = 92 then (match s with
    | [] => []
    | _ :: t => remP (d + 1) t) else if c = 40 then remP (d + 2) s else if c = 41 then remP d s else remP (d + 1) s
def parP (c : UInt8) (s : Bs) : Bs × Bs := if c = 34 then quoP s else if c = 40 then ([], remP 1 s) else ([c], s)
theorem quoP_len : ∀ (n : Nat) (s : Bs), s.length ≤ n → (quoP s).1.length + (quoP s).2.length ≤ s.length
  | _, [], _ => by simp [quoP]
  | 0, c :: s, h => by simp at h
  | n + 1, c :: s, h => by
    have h1 := quoP_len n s (by simpa using h)
    unfold quoP
    split
    · simp
    · split
      · split
        · simp
        · rename_i d t
          have h2 := quoP_len n t (by simp at h; omega)
          simp; omega
      · simp; omega
theorem remP_len : ∀ (n d : Nat) (s : Bs), s.length ≤ n → (remP d s).length ≤ s.length
  | n, 0, s, _ => by simp [remP]
  | _, d + 1, [], _ => by simp [remP]
  | 0, d + 1, c :: s, h => by simp at h
  | n + 1, d + 1, c :: s, h => by
    have hs : s.length ≤ n := by simpa using h
    have h1 := remP_len n (d + 2) s hs
    have h2 := remP_len n d s hs
    have h3 := remP_len n (d + 1) s hs
    unfold remP
    split
    · split
      · simp
      · rename_i x t
        have h2 := remP_len n (d + 1) t (by simp at hs; omega)
        simp; omega
    · split
      · simp; omega
      · split <;> simp <;> omega
theorem parP_len (c : UInt8) (s : Bs) : (parP c s).1.length + (parP c s).2.length ≤ s.length + 1 := by
  unfold parP
  split
  · have := quoP_len _ s (Nat.le_refl _); omega
  · split
    · have := remP_len _ 1 s (Nat.le_refl _); simp; omega
    · simp; omega
theorem parP_lt (c : UInt8) (s : Bs) : (parP c s).2.length ≤ s.length := by
  unfold parP
  split
  · have := quoP_len _ s (Nat.le_refl _); omega
  · split
    · have := remP_len _ 1 s (Nat.le_refl _); simpa
    · simp
def angN : Nat → Bs → Bs × Bs
  | 0, _ => ([], [])
  | n + 1, s => match s with
    | [] => ([], [])
    | c :: t => if c = 62 then ([], t) else ((parP c t).1 ++ (angN n (parP c t).2).1, (angN n (parP c t).2).2)
/-- An angle, behind its first byte: what it says, and what comes then. -/
def angP (s : Bs) : Bs × Bs := angN s.length s
theorem angN_more : ∀ (n m : Nat) (s : Bs), s.length ≤ n → s.length ≤ m → angN n s = angN m s
  | 0, 0, s, h1, h2 => rfl
  | 0, m + 1, s, h1, h2 => by
    have : s = [] := List.eq_nil_of_length_eq_zero (by omega)
    subst this; simp [angN]
  | n + 1, 0, s, h1, h2 => by
    have : s = [] := List.eq_nil_of_length_eq_zero (by omega)
    subst this; simp [angN]
  | n + 1, m + 1, s, h1, h2 => by
    cases s with
    | nil => rfl
    | cons c t =>
      have := parP_lt c t
      simp at h1 h2
      rw [angN, angN]
      split
      · rfl
      · rw [angN_more n m (parP c t).2 (by omega) (by omega)]
theorem angP_nil : angP [] = ([], []) := rfl
theorem angP_end (t : Bs) : angP (62 :: t) = ([], t) := by simp [angP, angN]
theorem angP_step (c : UInt8) (t : Bs) (h : c ≠ 62) : angP (c :: t) = ((parP c t).1 ++ (angP (parP c t).2).1, (angP (parP c t).2).2) := by
  have := parP_lt c t
  unfold angP
  rw [show (c :: t).length = t.length + 1 from rfl, angN, if_neg h, angN_more t.length (parP c t).2.length _ (by omega) (Nat.le_refl _)]
theorem angP_len : ∀ (n : Nat) (s : Bs), s.length ≤ n → (angP s).1.length + (angP s).2.length ≤ s.length
  | _, [], _ => by simp [angP_nil]
  | 0, c :: s, h => by simp at h
  | n + 1, c :: s, h => by
    simp at h
    by_cases hc : c = 62
    · subst hc; simp [angP_end]
    · rw [angP_step c s hc]
      have h1 := parP_len c s
      have h2 := angP_len n (parP c s).2 (by have := parP_lt c s; omega)
      simp; omega

/-- An address: name, box, host. -/
abbrev Ad := Bs × Bs × Bs
def lastAt : Bs → Option Nat
  | [] => none
  | c :: s => match lastAt s with
    | some k => some (k + 1)
    | none => if c = 64 then some 0 else none
/-- A name and an address, parted at its last @. -/
def partedP (name addr : Bs) : Ad := match lastAt addr with
  | none => (name, addr, [])
  | some k => (name, addr.take k, addr.drop (k + 1))
theorem lastAt_snoc (c : UInt8) : ∀ l : Bs, lastAt (l ++ [c]) = if c = 64 then some l.length else lastAt l
  | [] => by simp [lastAt]
  | d :: l => by
    have := lastAt_snoc c l
    rw [List.cons_append, lastAt, this]
    by_cases hc : c = 64
    · simp [hc]
    · simp [hc, lastAt]
theorem lastAt_some : ∀ (l : Bs) (k : Nat), lastAt l = some k → k < l.length
  | [], k, h => by simp [lastAt] at h
  | d :: l, k, h => by
    rw [lastAt] at h
    rcases h1 : lastAt l with _ | m
    · rw [h1] at h
      simp at h
      simp; omega
    · rw [h1] at h
      have := lastAt_some l m h1
      simp at h
      simp; omega
theorem lastAt_no (l : Bs) (h : ∀ c ∈ l, c ≠ 64) : lastAt l = none := by
  induction l with
  | nil => rfl
  | cons d l ih =>
    rw [lastAt, ih (fun c hc => h c (List.mem_cons_of_mem _ hc))]
    simp [h d (List.mem_cons_self)]
theorem lastAt_is (l r : Bs) (h : ∀ c ∈ r, c ≠ 64) : lastAt (l ++ 64 :: r) = some l.length := by
  induction l with
  | nil => simp [lastAt, lastAt_no r h]
  | cons d l ih => rw [List.cons_append, lastAt, ih]; rfl
/-- What is known of a piece so far: the first angle's name and address. -/
abbrev Pst := Option (Bs × Bs)
def pieN : Nat → Pst → Bs → Bs → Pst × Bs × Bs
  | 0, st, d, _ => (st, d, [])
  | n + 1, st, d, s => match s with
    | [] => (st, d, [])
    | c :: t => if c = 44 then (st, d, t) else if c = 60 then pieN n (some (st.getD (trimA d, trimA (angP t).1))) [] (angP t).2 else pieN n st (d ++ (parP c t).1) (parP c t).2
/-- A piece: what is known of it, what it says behind that, and what comes then. -/
def pieP (st : Pst) (d s : Bs) : Pst × Bs × Bs := pieN s.length st d s
theorem angP_lt (s : Bs) : (angP s).2.length ≤ s.length := by have := angP_len _ s (Nat.le_refl _); omega
theorem pieN_more : ∀ (n m : Nat) (st : Pst) (d s : Bs), s.length ≤ n → s.length ≤ m → pieN n st d s = pieN m st d s
  | 0, 0, st, d, s, h1, h2 => rfl
  | 0, m + 1, st, d, s, h1, h2 => by
    have : s = [] := List.eq_nil_of_length_eq_zero (by omega)
    subst this; simp [pieN]
  | n + 1, 0, st, d, s, h1, h2 => by
    have : s = [] := List.eq_nil_of_length_eq_zero (by omega)
    subst this; simp [pieN]
  | n + 1, m + 1, st, d, s, h1, h2 => by
    cases s with
    | nil => rfl
    | cons c t =>
      have := parP_lt c t
      have := angP_lt t
      simp at h1 h2
      rw [pieN, pieN]
      split
      · rfl
      · split
        · rw [pieN_more n m _ _ (angP t).2 (by omega) (by omega)]
        · rw [pieN_more n m _ _ (parP c t).2 (by omega) (by omega)]
theorem pieP_nil (st : Pst) (d : Bs) : pieP st d [] = (st, d, []) := rfl
theorem pieP_comma (st : Pst) (d t : Bs) : pieP st d (44 :: t) = (st, d, t) := by simp [pieP, pieN]
theorem pieP_angle (st : Pst) (d t : Bs) : pieP st d (60 :: t) = pieP (some (st.getD (trimA d, trimA (angP t).1))) [] (angP t).2 := by
  have := angP_lt t
  unfold pieP
  rw [show (60 :: t).length = t.length + 1 from rfl, pieN, if_neg (by decide), if_pos rfl, pieN_more t.length (angP t).2.length _ _ _ (by omega) (Nat.le_refl _)]
theorem pieP_step (st : Pst) (d : Bs) (c : UInt8) (t : Bs) (h1 : c ≠ 44) (h2 : c ≠ 60) : pieP st d (c :: t) = pieP st (d ++ (parP c t).1) (parP c t).2 := by
  have := parP_lt c t
  unfold pieP
  rw [show (c :: t).length = t.length + 1 from rfl, pieN, if_neg h1, if_neg h2, pieN_more t.length (parP c t).2.length _ _ _ (by omega) (Nat.le_refl _)]
theorem pieP_lt : ∀ (n : Nat) (st : Pst) (d s : Bs), s.length ≤ n → (pieP st d s).2.2.length ≤ s.length - 1
  | _, st, d, [], _ => by simp [pieP_nil]
  | 0, st, d, c :: s, h => by simp at h
  | n + 1, st, d, c :: s, h => by
    simp at h
    by_cases h1 : c = 44
    · subst h1; simp [pieP_comma]
    · by_cases h2 : c = 60
      · subst h2
        rw [pieP_angle]
        have := angP_lt s
        have := pieP_lt n (some (st.getD (trimA d, trimA (angP s).1))) [] (angP s).2 (by omega)
        simp; omega
      · rw [pieP_step st d c s h1 h2]
        have := parP_lt c s
        have := pieP_lt n st (d ++ (parP c s).1) (parP c s).2 (by omega)
        simp; omega
/-- The address that a piece is. -/
def adOf (st : Pst) (d : Bs) : Ad := match st with
  | none => partedP [] (trimA d)
  | some p => partedP p.1 p.2
def noAd : Ad := ([], [], [])
def adsN : Nat → Bs → List Ad
  | 0, _ => []
  | n + 1, s => if s = [] then [] else (if adOf (pieP none [] s).1 (pieP none [] s).2.1 = noAd then [] else [adOf (pieP none [] s).1 (pieP none [] s).2.1]) ++ adsN n (pieP none [] s).2.2
/-- The addresses of a value. -/
def adsP (s : Bs) : List Ad := adsN s.length s
theorem adsN_more : ∀ (n m : Nat) (s : Bs), s.length ≤ n → s.length ≤ m → adsN n s = adsN m s
  | 0, 0, s, h1, h2 => rfl
  | 0, m + 1, s, h1, h2 => by
    have : s = [] := List.eq_nil_of_length_eq_zero (by omega)
    subst this; simp [adsN]
  | n + 1, 0, s, h1, h2 => by
    have : s = [] := List.eq_nil_of_length_eq_zero (by omega)
    subst this; simp [adsN]
  | n + 1, m + 1, s, h1, h2 => by
    unfold adsN
    by_cases h0 : s = []
    · simp [h0]
    · rw [if_neg h0, if_neg h0]
      have hl : 0 < s.length := List.length_pos_iff.2 h0
      have := pieP_lt _ none [] s (Nat.le_refl _)
      rw [adsN_more n m (pieP none [] s).2.2 (by omega) (by omega)]
theorem adsP_nil : adsP [] = [] := rfl
theorem adsP_step (s : Bs) (h : s ≠ []) : adsP s = (if adOf (pieP none [] s).1 (pieP none [] s).2.1 = noAd then [] else [adOf (pieP none [] s).1 (pieP none [] s).2.1]) ++ adsP (pieP none [] s).2.2 := by
  have hl : 0 < s.length := List.length_pos_iff.2 h
  have := pieP_lt _ none [] s (Nat.le_refl _)
  unfold adsP
  obtain ⟨n, hn⟩ : ∃ n, s.length = n + 1 := ⟨s.length - 1, by omega⟩
  rw [hn, adsN, if_neg h, adsN_more n (pieP none [] s).2.2.length _ (by omega) (Nat.le_refl _)]
end Go.Proofs.YtaniljfjmbifnaaGreatDoor.H
