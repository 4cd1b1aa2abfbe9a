/- What this text holds: quoted text, letters, encoded words and lines of chapter 8 as plain functions over bytes. No program in it. -/
import Derived.Test.YtaniljfjmbifnaaGreatDoorWPure
namespace Go.Proofs.YtaniljfjmbifnaaGreatDoor.W
set_option linter.unusedVariables false
set_option linter.unusedSimpArgs false

/-- Small letters. -/
def small (c : UInt8) : UInt8 := if 65 ≤ c.toNat ∧ c.toNat ≤ 90 then c + 32 else c
def hexL : Bs := [48, 49, 50, 51, 52, 53, 54, 55, 56, 57, 97, 98, 99, 100, 101, 102]
/-- A digit's number; below 0: none. -/
def hex (c : UInt8) : Int := Go.Lib.indexByte hexL (small c)
theorem hex_range : ∀ n : Fin 256, -1 ≤ hex (UInt8.ofNat n.val) ∧ hex (UInt8.ofNat n.val) < 16 := by decide +kernel
theorem hex_lt (c : UInt8) : -1 ≤ hex c ∧ hex c < 16 := by
  have := hex_range ⟨c.toNat, c.toNat_lt⟩
  simpa only [u8_of] using this
/-- The byte that = and two digits stand for. -/
def coded (l : Bs) : Option UInt8 := match l with
  | [e, h, l] => if e = 61 ∧ 0 ≤ hex h ∧ 0 ≤ hex l then some (UInt8.ofNat (16 * (hex h).toNat + (hex l).toNat)) else none
  | _ => none
def stepC (l : Bs) : Bs × Nat := match coded (l.take 3) with
  | some b => ([b], 3)
  | none => (l.take 1, 1)
def pre (p l : Bs) : Bool := decide (l.take p.length = p)
def stepU (l : Bs) : Bs × Nat := if pre [61, 13, 10] l then ([], 3) else if pre [61, 10] l then ([], 2) else stepC l
def stepQ (l : Bs) : Bs × Nat := if pre [95] l then ([32], 1) else stepC l
theorem stepC_pos (l : Bs) : 1 ≤ (stepC l).2 := by
  unfold stepC
  split <;> simp
theorem stepU_pos (l : Bs) (h : l ≠ []) : 1 ≤ (stepU l).2 := by
  unfold stepU
  split
  · simp
  · split
    · simp
    · exact stepC_pos l
theorem stepQ_pos (l : Bs) (h : l ≠ []) : 1 ≤ (stepQ l).2 := by
  unfold stepQ
  split
  · simp
  · exact stepC_pos l
def unq : Bs → Bs := run stepU
def und : Bs → Bs := run stepQ
theorem unq_step (l : Bs) (h : l ≠ []) : unq l = (stepU l).1 ++ unq (l.drop (stepU l).2) := run_step _ stepU_pos l h
theorem und_step (l : Bs) (h : l ≠ []) : und l = (stepQ l).1 ++ und (l.drop (stepQ l).2) := run_step _ stepQ_pos l h
/-- What is read takes no more bytes than it had. -/
theorem run_len (step : Bs → Bs × Nat) (hp : ∀ l, l ≠ [] → 1 ≤ (step l).2) (hs : ∀ l, (step l).1.length ≤ min l.length (step l).2) : ∀ (n : Nat) (l : Bs), l.length ≤ n → (run step l).length ≤ l.length
  | 0, l, h => by
    have : l = [] := List.eq_nil_of_length_eq_zero (by omega)
    subst this; simp [run_nil]
  | n + 1, l, h => by
    by_cases h0 : l = []
    · subst h0; simp [run_nil]
    · have h1 := hp l h0
      have h2 := hs l
      have hl : 0 < l.length := by cases l with | nil => exact absurd rfl h0 | cons => simp
      have ih := run_len step hp hs n (l.drop (step l).2) (by rw [List.length_drop]; omega)
      rw [run_step step hp l h0, List.length_append]
      rw [List.length_drop] at ih
      omega
theorem coded_len {l : Bs} {b : UInt8} (h : coded l = some b) : l.length = 3 := by
  unfold coded at h
  split at h
  · rfl
  · cases h
theorem stepC_len (l : Bs) : (stepC l).1.length ≤ min l.length (stepC l).2 := by
  unfold stepC
  split
  · next b hb =>
    have := coded_len hb
    rw [List.length_take] at this
    simp; omega
  · simp; omega
theorem pre_len {p l : Bs} (h : pre p l = true) : p.length ≤ l.length := by
  unfold pre at h
  have := congrArg List.length (of_decide_eq_true h)
  rw [List.length_take] at this
  omega
theorem stepU_len (l : Bs) : (stepU l).1.length ≤ min l.length (stepU l).2 := by
  unfold stepU
  split
  · simp
  · split
    · simp
    · exact stepC_len l
theorem stepQ_len (l : Bs) : (stepQ l).1.length ≤ min l.length (stepQ l).2 := by
  unfold stepQ
  split
  · next h =>
    have := pre_len h
    simp at this ⊢; omega
  · exact stepC_len l
theorem unq_len (l : Bs) : (unq l).length ≤ l.length := run_len _ stepU_pos stepU_len _ l (Nat.le_refl _)
theorem und_len (l : Bs) : (und l).length ≤ l.length := run_len _ stepQ_pos stepQ_len _ l (Nat.le_refl _)

def low (l : Bs) : Bs := l.map small
theorem low_len (l : Bs) : (low l).length = l.length := by simp [low]
/-- Each byte as the letter with that number. -/
def latin (l : Bs) : Bs := l.flatMap fun c => Go.Lib.encodeRune c.toNat
theorem rune_len (r : Int) : (Go.Lib.encodeRune r).length ≤ 4 := by
  unfold Go.Lib.encodeRune
  rw [List.length_map]
  exact (Go.Lib.encodeRuneZ_length r).2
theorem latin_len (l : Bs) : (latin l).length ≤ 4 * l.length := by
  induction l with
  | nil => simp [latin]
  | cons c l ih =>
    have := rune_len c.toNat
    simp only [latin, List.flatMap_cons, List.length_append, List.length_cons] at ih ⊢
    omega

/-- Bytes that part words; that a charset and a text may have. -/
def blank (c : UInt8) : Bool := c == 32 || c == 9 || c == 13 || c == 10
def plain (c : UInt8) : Bool := decide (32 < c.toNat) && decide (c.toNat ≤ 126) && c != 63
/-- What a text of an encoded word stands for; what the word says. -/
def written (way text : Bs) : Option Bs := if way = [98] then un text else if way = [113] then some (und text) else none
def utf8L : Bs := [117, 116, 102, 45, 56]
def asciiL : Bs := [117, 115, 45, 97, 115, 99, 105, 105]
def isoL : Bs := [105, 115, 111, 45, 56, 56, 53, 57, 45, 49]
def says (charset way text : Bs) : Option Bs := if low charset = utf8L ∨ low charset = asciiL then written way text else if low charset = isoL then (written way text).map latin else none
/-- What is behind a beginning, if it is there. -/
def cut (p l : Bs) : Option Bs := if pre p l then some (l.drop p.length) else none
/-- An encoded word at the beginning: what it says, and what is behind it. -/
def word (l : Bs) : Option (Bs × Bs) :=
  (cut [61, 63] l).bind fun l1 => (cut [63] (l1.dropWhile plain)).bind fun l2 => (cut [63] (l2.drop 1)).bind fun l3 => (cut [63, 61] (l3.dropWhile plain)).bind fun l4 =>
    (says (l1.takeWhile plain) (low (l2.take 1)) (l3.takeWhile plain)).map fun x => (x, l4)
theorem cut_len {p l r : Bs} (h : cut p l = some r) : r.length + p.length = l.length := by
  unfold cut at h
  split at h
  · next hp =>
    cases h
    have := pre_len hp
    rw [List.length_drop]; omega
  · cases h
theorem drop_len (p : UInt8 → Bool) (l : Bs) : (l.dropWhile p).length ≤ l.length := (List.dropWhile_suffix p (l := l)).length_le
theorem word_len {l x r : Bs} (h : word l = some (x, r)) : r.length + 6 ≤ l.length := by
  unfold word at h
  simp only [Option.bind_eq_some_iff, Option.map_eq_some_iff] at h
  obtain ⟨l1, h1, l2, h2, l3, h3, l4, h4, y, hy, e⟩ := h
  cases e
  have a1 := cut_len h1
  have a2 := cut_len h2
  have a3 := cut_len h3
  have a4 := cut_len h4
  have b1 := drop_len plain l1
  have b3 := drop_len plain l3
  simp only [List.length_cons, List.length_nil, List.length_drop] at a1 a2 a3 a4
  omega

/-- Lines, by the program's way: it knows whether an encoded word was read last. -/
def wordsN : Nat → Bool → Bs → Bs
  | 0, _, _ => []
  | n + 1, b, l => if l = [] then [] else match word (l.dropWhile blank) with
    | some (x, r) => (if b then [] else l.takeWhile blank) ++ x ++ wordsN n true r
    | none => l.takeWhile blank ++ (l.dropWhile blank).take 1 ++ wordsN n false ((l.dropWhile blank).drop 1)
def wordsP (b : Bool) (l : Bs) : Bs := wordsN l.length b l
theorem rest_lt (l : Bs) (h0 : l ≠ []) : ((l.dropWhile blank).drop 1).length < l.length := by
  have := drop_len blank l
  have hl : 0 < l.length := by cases l with | nil => exact absurd rfl h0 | cons => simp
  rw [List.length_drop]
  omega
theorem wordsN_more : ∀ (n m : Nat) (b : Bool) (l : Bs), l.length ≤ n → l.length ≤ m → wordsN n b l = wordsN m b l
  | 0, 0, b, l, h1, h2 => rfl
  | 0, m + 1, b, l, h1, h2 => by
    have : l = [] := List.eq_nil_of_length_eq_zero (by omega)
    subst this; simp [wordsN]
  | n + 1, 0, b, l, h1, h2 => by
    have : l = [] := List.eq_nil_of_length_eq_zero (by omega)
    subst this; simp [wordsN]
  | n + 1, m + 1, b, l, h1, h2 => by
    unfold wordsN
    by_cases h0 : l = []
    · simp [h0]
    · rw [if_neg h0, if_neg h0]
      have hr := rest_lt l h0
      split
      · next x r hw =>
        have := word_len hw
        have := drop_len blank l
        rw [wordsN_more n m true r (by omega) (by omega)]
      · rw [wordsN_more n m false _ (by omega) (by omega)]
theorem wordsP_nil (b : Bool) : wordsP b [] = [] := rfl
theorem wordsP_some {b : Bool} {l x r : Bs} (h0 : l ≠ []) (h : word (l.dropWhile blank) = some (x, r)) : wordsP b l = (if b then [] else l.takeWhile blank) ++ x ++ wordsP true r := by
  have hl : 0 < l.length := by cases l with | nil => exact absurd rfl h0 | cons => simp
  have h1 := word_len h
  have h2 := drop_len blank l
  unfold wordsP
  rw [wordsN_more l.length (l.length - 1 + 1) b l (by omega) (by omega), wordsN, if_neg h0, h]
  simp only
  rw [wordsN_more (l.length - 1) r.length true r (by omega) (by omega)]
theorem wordsP_none {b : Bool} {l : Bs} (h0 : l ≠ []) (h : word (l.dropWhile blank) = none) : wordsP b l = l.takeWhile blank ++ (l.dropWhile blank).take 1 ++ wordsP false ((l.dropWhile blank).drop 1) := by
  have hl : 0 < l.length := by cases l with | nil => exact absurd rfl h0 | cons => simp
  have h1 := rest_lt l h0
  unfold wordsP
  rw [wordsN_more l.length (l.length - 1 + 1) b l (by omega) (by omega), wordsN, if_neg h0, h]
  simp only
  rw [wordsN_more (l.length - 1) _ false _ (by omega) (Nat.le_refl _)]
/-- Lines are joined by a blank. -/
def joined (ls : List Bs) : Bs := ([32] : Bs).intercalate ls
theorem un_len {s b : Bs} (h : un s = some b) : b.length ≤ s.length := by
  have := (un_iff s b).1 h
  have := congrArg List.length this
  rw [b64_len] at this
  omega
theorem written_len {way text x : Bs} (h : written way text = some x) : x.length ≤ text.length := by
  unfold written at h
  split at h
  · exact un_len h
  · split at h
    · cases h; exact und_len text
    · cases h
theorem says_len {cs way text x : Bs} (h : says cs way text = some x) : x.length ≤ 4 * text.length := by
  unfold says at h
  split at h
  · have := written_len h; omega
  · split at h
    · obtain ⟨y, hy, rfl⟩ := Option.map_eq_some_iff.1 h
      have := written_len hy
      have := latin_len y
      omega
    · cases h
theorem take_len (p : UInt8 → Bool) (l : Bs) : (l.takeWhile p).length + (l.dropWhile p).length = l.length := by
  have := congrArg List.length (List.takeWhile_append_dropWhile (p := p) (l := l))
  rwa [List.length_append] at this
theorem word_said {l x r : Bs} (h : word l = some (x, r)) : x.length + 4 * r.length ≤ 4 * l.length := by
  unfold word at h
  simp only [Option.bind_eq_some_iff, Option.map_eq_some_iff] at h
  obtain ⟨l1, h1, l2, h2, l3, h3, l4, h4, y, hy, e⟩ := h
  cases e
  have a1 := cut_len h1
  have a2 := cut_len h2
  have a3 := cut_len h3
  have a4 := cut_len h4
  have b1 := drop_len plain l1
  have b3 := take_len plain l3
  have c := says_len hy
  simp only [List.length_cons, List.length_nil, List.length_drop] at a1 a2 a3 a4
  omega
theorem pre_has (p l : Bs) : Go.Lib.hasPrefix l p = pre p l := by
  unfold Go.Lib.hasPrefix pre
  rw [Bool.eq_iff_iff, List.isPrefixOf_iff_prefix, decide_eq_true_eq]
  constructor
  · rintro ⟨t, rfl⟩; simp
  · intro h
    exact ⟨l.drop p.length, by conv => { lhs; lhs; rw [← h] }; exact List.take_append_drop _ _⟩
end Go.Proofs.YtaniljfjmbifnaaGreatDoor.W
