/- What this text holds: the words of chapter 8 as plain functions over bytes, and what follows of them. No program in it. -/
import Derived.Lib.TrimByte
import Derived.Lib.RuneBytes
import Derived.Lib.Bytealg
namespace Go.Proofs.YtaniljfjmbifnaaGreatDoor.W
set_option linter.unusedVariables false
set_option linter.unusedSimpArgs false

abbrev Bs := List UInt8

/-- A text that is read step by step: what each step says, and how many bytes it takes. -/
def goN (step : Bs → Bs × Nat) : Nat → Bs → Bs
  | 0, _ => []
  | n + 1, l => if l = [] then [] else (step l).1 ++ goN step n (l.drop (step l).2)
def run (step : Bs → Bs × Nat) (l : Bs) : Bs := goN step l.length l
theorem run_nil (step : Bs → Bs × Nat) : run step [] = [] := rfl
theorem goN_more (step : Bs → Bs × Nat) (h : ∀ l, l ≠ [] → 1 ≤ (step l).2) : ∀ (n m : Nat) (l : Bs), l.length ≤ n → l.length ≤ m → goN step n l = goN step m l
  | 0, 0, l, h1, h2 => rfl
  | 0, m + 1, l, h1, h2 => by
    have : l = [] := List.eq_nil_of_length_eq_zero (by omega)
    subst this; simp [goN]
  | n + 1, 0, l, h1, h2 => by
    have : l = [] := List.eq_nil_of_length_eq_zero (by omega)
    subst this; simp [goN]
  | n + 1, m + 1, l, h1, h2 => by
    unfold goN
    by_cases h0 : l = []
    · simp [h0]
    · rw [if_neg h0, if_neg h0]
      have := h l h0
      have hl : 0 < l.length := by cases l with | nil => exact absurd rfl h0 | cons => simp
      rw [goN_more step h n m _ (by rw [List.length_drop]; omega) (by rw [List.length_drop]; omega)]
theorem run_step (step : Bs → Bs × Nat) (h : ∀ l, l ≠ [] → 1 ≤ (step l).2) (l : Bs) (h0 : l ≠ []) : run step l = (step l).1 ++ run step (l.drop (step l).2) := by
  have hl : 0 < l.length := by cases l with | nil => exact absurd rfl h0 | cons => simp
  have h1 := h l h0
  unfold run
  rw [goN_more step h l.length (l.length - 1 + 1) l (by omega) (by omega)]
  rw [goN, if_neg h0]
  rw [goN_more step h _ _ (l.drop (step l).2) (by rw [List.length_drop]; omega) (Nat.le_refl _)]

/-- The same with steps that may refuse. -/
def goO (step : Bs → Option Bs) (k : Nat) : Nat → Bs → Option Bs
  | 0, _ => some []
  | n + 1, l => if l = [] then some [] else match step l with
    | none => none
    | some x => (goO step k n (l.drop k)).map (x ++ ·)
def runO (step : Bs → Option Bs) (k : Nat) (l : Bs) : Option Bs := goO step k l.length l
theorem runO_nil (step : Bs → Option Bs) (k : Nat) : runO step k [] = some [] := rfl
theorem goO_more (step : Bs → Option Bs) (k : Nat) (hk : 1 ≤ k) : ∀ (n m : Nat) (l : Bs), l.length ≤ n → l.length ≤ m → goO step k n l = goO step k m l
  | 0, 0, l, h1, h2 => rfl
  | 0, m + 1, l, h1, h2 => by
    have : l = [] := List.eq_nil_of_length_eq_zero (by omega)
    subst this; simp [goO]
  | n + 1, 0, l, h1, h2 => by
    have : l = [] := List.eq_nil_of_length_eq_zero (by omega)
    subst this; simp [goO]
  | n + 1, m + 1, l, h1, h2 => by
    unfold goO
    by_cases h0 : l = []
    · simp [h0]
    · rw [if_neg h0, if_neg h0]
      have hl : 0 < l.length := by cases l with | nil => exact absurd rfl h0 | cons => simp
      rw [goO_more step k hk n m _ (by rw [List.length_drop]; omega) (by rw [List.length_drop]; omega)]
theorem runO_step (step : Bs → Option Bs) (k : Nat) (hk : 1 ≤ k) (l : Bs) (h0 : l ≠ []) : runO step k l = match step l with
    | none => none
    | some x => (runO step k (l.drop k)).map (x ++ ·) := by
  have hl : 0 < l.length := by cases l with | nil => exact absurd rfl h0 | cons => simp
  unfold runO
  rw [goO_more step k hk l.length (l.length - 1 + 1) l (by omega) (by omega)]
  rw [goO, if_neg h0]
  rw [goO_more step k hk _ _ (l.drop k) (by rw [List.length_drop]; omega) (Nat.le_refl _)]
theorem runO_some {step : Bs → Option Bs} {k : Nat} (hk : 1 ≤ k) {l : Bs} (h0 : l ≠ []) {x : Bs} (h : step l = some x) : runO step k l = (runO step k (l.drop k)).map (x ++ ·) := by
  rw [runO_step step k hk l h0, h]
theorem runO_none {step : Bs → Option Bs} {k : Nat} (hk : 1 ≤ k) {l : Bs} (h0 : l ≠ []) (h : step l = none) : runO step k l = none := by
  rw [runO_step step k hk l h0, h]

/-- Base 64. -/
def sixL : Bs := [65, 66, 67, 68, 69, 70, 71, 72, 73, 74, 75, 76, 77, 78, 79, 80, 81, 82, 83, 84, 85, 86, 87, 88, 89, 90, 97, 98, 99, 100, 101, 102, 103, 104, 105, 106, 107, 108, 109, 110, 111, 112, 113, 114, 115, 116, 117, 118, 119, 120, 121, 122, 48, 49, 50, 51, 52, 53, 54, 55, 56, 57, 43, 47]
def let64 (n : Nat) : UInt8 := sixL.getD n 0
def six (c : UInt8) : Int := Go.Lib.indexByte sixL c
theorem six_let : ∀ n : Fin 64, six (let64 n.val) = n.val := by decide +kernel
theorem six_let' (n : Nat) (h : n < 64) : six (let64 n) = n := six_let ⟨n, h⟩
theorem six_pos (n : Nat) (h : n < 64) : decide (0 ≤ six (let64 n)) = true := by rw [six_let' n h]; simp
theorem six_nat (n : Nat) (h : n < 64) : (six (let64 n)).toNat = n := by rw [six_let' n h]; simp
theorem let_plain : ∀ n : Fin 64, let64 n.val ≠ 61 ∧ let64 n.val ≠ 63 ∧ 33 ≤ (let64 n.val).toNat ∧ (let64 n.val).toNat ≤ 126 := by decide +kernel
theorem let_plain' (n : Nat) (h : n < 64) : let64 n ≠ 61 ∧ let64 n ≠ 63 ∧ 33 ≤ (let64 n).toNat ∧ (let64 n).toNat ≤ 126 := let_plain ⟨n, h⟩
theorem six_range : ∀ n : Fin 256, -1 ≤ six (UInt8.ofNat n.val) ∧ six (UInt8.ofNat n.val) < 64 := by decide +kernel
theorem u8_of (c : UInt8) : UInt8.ofNat c.toNat = c := by simp
theorem six_lt (c : UInt8) : -1 ≤ six c ∧ six c < 64 := by
  have := six_range ⟨c.toNat, c.toNat_lt⟩
  simpa only [u8_of] using this

/-- The bits of at most three bytes; of at most four letters. -/
def val (l : Bs) : Nat := (l.getD 0 0).toNat * 65536 + (l.getD 1 0).toNat * 256 + (l.getD 2 0).toNat
def four (l : Bs) : Bs := (List.range 4).map fun i => if l.length < i then 61 else let64 (val l / 2 ^ (18 - 6 * i) % 64)
def b64 : Bs → Bs := run fun l => (four (l.take 3), 3)
theorem b64_nil : b64 [] = [] := rfl
theorem b64_step (l : Bs) (h : l ≠ []) : b64 l = four (l.take 3) ++ b64 (l.drop 3) := run_step _ (fun _ _ => by simp) l h
theorem four_length (l : Bs) : (four l).length = 4 := by simp [four]
theorem b64_length : ∀ (n : Nat) (l : Bs), l.length ≤ n → (b64 l).length = (l.length + 2) / 3 * 4
  | 0, l, h => by
    have : l = [] := List.eq_nil_of_length_eq_zero (by omega)
    subst this; rfl
  | n + 1, l, h => by
    by_cases h0 : l = []
    · subst h0; rfl
    · have hl : 0 < l.length := by cases l with | nil => exact absurd rfl h0 | cons => simp
      rw [b64_step l h0, List.length_append, four_length, b64_length n _ (by rw [List.length_drop]; omega), List.length_drop]
      omega
theorem b64_len (l : Bs) : (b64 l).length = (l.length + 2) / 3 * 4 := b64_length _ l (Nat.le_refl _)

/-- The number of at most four letters: what the program makes of them. -/
def sixN (l : Bs) (i : Nat) : Nat := match l[i]? with
  | some c => (six c).toNat
  | none => 0
def val4 (l : Bs) : Nat := sixN l 0 * 262144 + sixN l 1 * 4096 + sixN l 2 * 64 + sixN l 3
def three (l : Bs) : Option Bs := if l.all (fun c => decide (0 ≤ six c)) then some ((List.range (l.length * 6 / 8)).map fun i => UInt8.ofNat (val4 l / 2 ^ (16 - 8 * i))) else none
def unP (s : Bs) : Option Bs := runO (fun l => three (l.take 4)) 4 (Go.Lib.trimRightB s 61)
def un (s : Bs) : Option Bs := match unP s with
  | some b => if b64 b = s then some b else none
  | none => none

theorem range4 : List.range 4 = [0, 1, 2, 3] := by decide
theorem range3 : List.range 3 = [0, 1, 2] := by decide
theorem range2 : List.range 2 = [0, 1] := by decide
theorem range1 : List.range 1 = [0] := by decide
theorem ofNat_eq (n : Nat) (a : UInt8) (h : n % 256 = a.toNat) : UInt8.ofNat n = a := by
  apply UInt8.toNat_inj.1
  rw [UInt8.toNat_ofNat']
  exact h

theorem four_three (a b c : UInt8) : four [a, b, c] = [let64 (val [a, b, c] / 262144), let64 (val [a, b, c] / 4096 % 64), let64 (val [a, b, c] / 64 % 64), let64 (val [a, b, c] % 64)] := by
  have ha := a.toNat_lt
  have hb := b.toNat_lt
  have hc := c.toNat_lt
  have : val [a, b, c] / 262144 % 64 = val [a, b, c] / 262144 := by simp [val]; omega
  simp [four, range4, this]
theorem four_two (a b : UInt8) : four [a, b] = [let64 (val [a, b] / 262144), let64 (val [a, b] / 4096 % 64), let64 (val [a, b] / 64 % 64), 61] := by
  have ha := a.toNat_lt
  have hb := b.toNat_lt
  have : val [a, b] / 262144 % 64 = val [a, b] / 262144 := by simp [val]; omega
  simp [four, range4, this]
theorem four_one (a : UInt8) : four [a] = [let64 (val [a] / 262144), let64 (val [a] / 4096 % 64), 61, 61] := by
  have ha := a.toNat_lt
  have : val [a] / 262144 % 64 = val [a] / 262144 := by simp [val]; omega
  simp [four, range4, this]
theorem three_back3 (a b c : UInt8) : three (four [a, b, c]) = some [a, b, c] := by
  have ha := a.toNat_lt
  have hb := b.toNat_lt
  have hc := c.toNat_lt
  have hv : val [a, b, c] = a.toNat * 65536 + b.toNat * 256 + c.toNat := by simp [val]
  have ps1 := six_pos (val [a, b, c] / 262144) (by omega)
  have ts1 := six_nat (val [a, b, c] / 262144) (by omega)
  have ps2 := six_pos (val [a, b, c] / 4096 % 64) (by omega)
  have ts2 := six_nat (val [a, b, c] / 4096 % 64) (by omega)
  have ps3 := six_pos (val [a, b, c] / 64 % 64) (by omega)
  have ts3 := six_nat (val [a, b, c] / 64 % 64) (by omega)
  have ps4 := six_pos (val [a, b, c] % 64) (by omega)
  have ts4 := six_nat (val [a, b, c] % 64) (by omega)
  rw [four_three]
  have h4 : val4 [let64 (val [a, b, c] / 262144), let64 (val [a, b, c] / 4096 % 64), let64 (val [a, b, c] / 64 % 64), let64 (val [a, b, c] % 64)] = val [a, b, c] := by
    simp only [val4, sixN, List.getElem?_cons_zero, List.getElem?_cons_succ, ts1, ts2, ts3, ts4]
    omega
  unfold three
  rw [if_pos (by simp only [List.all_cons, List.all_nil, ps1, ps2, ps3, ps4, Bool.and_true]), h4]
  have : List.range (([let64 (val [a, b, c] / 262144), let64 (val [a, b, c] / 4096 % 64), let64 (val [a, b, c] / 64 % 64), let64 (val [a, b, c] % 64)] : Bs).length * 6 / 8) = [0, 1, 2] := by simp only [List.length_cons, List.length_nil, Nat.reduceAdd, Nat.reduceMul, Nat.reduceDiv, range3]
  rw [this]
  simp only [List.map_cons, List.map_nil]
  rw [ofNat_eq _ a (by omega), ofNat_eq _ b (by omega), ofNat_eq _ c (by omega)]
theorem three_back2 (a b : UInt8) : three [let64 (val [a, b] / 262144), let64 (val [a, b] / 4096 % 64), let64 (val [a, b] / 64 % 64)] = some [a, b] := by
  have ha := a.toNat_lt
  have hb := b.toNat_lt
  have hv : val [a, b] = a.toNat * 65536 + b.toNat * 256 := by simp [val]
  have ps1 := six_pos (val [a, b] / 262144) (by omega)
  have ts1 := six_nat (val [a, b] / 262144) (by omega)
  have ps2 := six_pos (val [a, b] / 4096 % 64) (by omega)
  have ts2 := six_nat (val [a, b] / 4096 % 64) (by omega)
  have ps3 := six_pos (val [a, b] / 64 % 64) (by omega)
  have ts3 := six_nat (val [a, b] / 64 % 64) (by omega)
  have h4 : val4 [let64 (val [a, b] / 262144), let64 (val [a, b] / 4096 % 64), let64 (val [a, b] / 64 % 64)] = val [a, b] := by
    simp only [val4, sixN, List.getElem?_cons_zero, List.getElem?_cons_succ, List.getElem?_nil, ts1, ts2, ts3]
    omega
  unfold three
  rw [if_pos (by simp only [List.all_cons, List.all_nil, ps1, ps2, ps3, Bool.and_true]), h4]
  have : List.range (([let64 (val [a, b] / 262144), let64 (val [a, b] / 4096 % 64), let64 (val [a, b] / 64 % 64)] : Bs).length * 6 / 8) = [0, 1] := by simp only [List.length_cons, List.length_nil, Nat.reduceAdd, Nat.reduceMul, Nat.reduceDiv, range2]
  rw [this]
  simp only [List.map_cons, List.map_nil]
  rw [ofNat_eq _ a (by omega), ofNat_eq _ b (by omega)]
theorem three_back1 (a : UInt8) : three [let64 (val [a] / 262144), let64 (val [a] / 4096 % 64)] = some [a] := by
  have ha := a.toNat_lt
  have hv : val [a] = a.toNat * 65536 := by simp [val]
  have ps1 := six_pos (val [a] / 262144) (by omega)
  have ts1 := six_nat (val [a] / 262144) (by omega)
  have ps2 := six_pos (val [a] / 4096 % 64) (by omega)
  have ts2 := six_nat (val [a] / 4096 % 64) (by omega)
  have h4 : val4 [let64 (val [a] / 262144), let64 (val [a] / 4096 % 64)] = val [a] := by
    simp only [val4, sixN, List.getElem?_cons_zero, List.getElem?_cons_succ, List.getElem?_nil, ts1, ts2]
    omega
  unfold three
  rw [if_pos (by simp only [List.all_cons, List.all_nil, ps1, ps2, Bool.and_true]), h4]
  have : List.range (([let64 (val [a] / 262144), let64 (val [a] / 4096 % 64)] : Bs).length * 6 / 8) = [0] := by simp only [List.length_cons, List.length_nil, Nat.reduceAdd, Nat.reduceMul, Nat.reduceDiv, range1]
  rw [this]
  simp only [List.map_cons, List.map_nil]
  rw [ofNat_eq _ a (by omega)]

theorem trim_app (x y : Bs) (h : ∀ c ∈ x, c ≠ 61) : Go.Lib.trimRightB (x ++ y) 61 = x ++ Go.Lib.trimRightB y 61 := by
  unfold Go.Lib.trimRightB
  rw [List.reverse_append, List.dropWhile_append]
  have hx : x.reverse.dropWhile (· == 61) = x.reverse := by
    cases hr : x.reverse with
    | nil => rfl
    | cons c r =>
      have : c ∈ x := by rw [← List.mem_reverse, hr]; simp
      rw [List.dropWhile_cons_of_neg (by simp [h c this])]
  split
  · next hs =>
    rw [hx, List.reverse_reverse]
    have : List.dropWhile (fun x => x == 61) y.reverse = [] := by simpa using hs
    simp [this]
  · simp
theorem cases3 (l : Bs) : l = [] ∨ (∃ a, l = [a]) ∨ (∃ a b, l = [a, b]) ∨ ∃ a b c t, l = a :: b :: c :: t := by
  match l with
  | [] => exact .inl rfl
  | [a] => exact .inr (.inl ⟨a, rfl⟩)
  | [a, b] => exact .inr (.inr (.inl ⟨a, b, rfl⟩))
  | a :: b :: c :: t => exact .inr (.inr (.inr ⟨a, b, c, t, rfl⟩))
theorem unP_back : ∀ (n : Nat) (b : Bs), b.length ≤ n → unP (b64 b) = some b
  | 0, b, h => by
    have : b = [] := List.eq_nil_of_length_eq_zero (by omega)
    subst this; rfl
  | n + 1, b, h => by
    rcases cases3 b with rfl | ⟨a, rfl⟩ | ⟨a, b, rfl⟩ | ⟨x, y, z, t, rfl⟩
    · rfl
    · have ha := a.toNat_lt
      have hv : val [a] = a.toNat * 65536 := by simp [val]
      have p1 := let_plain' (val [a] / 262144) (by omega)
      have p2 := let_plain' (val [a] / 4096 % 64) (by omega)
      rw [b64_step _ (by simp)]
      simp only [List.take_succ_cons, List.take_nil, List.drop_succ_cons, List.drop_nil, b64_nil, List.append_nil]
      rw [four_one]
      unfold unP
      rw [show ([let64 (val [a] / 262144), let64 (val [a] / 4096 % 64), 61, 61] : Bs) = [let64 (val [a] / 262144), let64 (val [a] / 4096 % 64)] ++ [61, 61] from rfl, trim_app _ _ (by simp [p1.1, p2.1])]
      rw [show Go.Lib.trimRightB [61, 61] 61 = [] from by decide, List.append_nil]
      rw [runO_some (by omega) (by simp) (x := [a]) (by simpa using three_back1 a)]
      rfl
    · have ha := a.toNat_lt
      have hb := b.toNat_lt
      have hv : val [a, b] = a.toNat * 65536 + b.toNat * 256 := by simp [val]
      have p1 := let_plain' (val [a, b] / 262144) (by omega)
      have p2 := let_plain' (val [a, b] / 4096 % 64) (by omega)
      have p3 := let_plain' (val [a, b] / 64 % 64) (by omega)
      rw [b64_step _ (by simp)]
      simp only [List.take_succ_cons, List.take_nil, List.drop_succ_cons, List.drop_nil, b64_nil, List.append_nil]
      rw [four_two]
      unfold unP
      rw [show ([let64 (val [a, b] / 262144), let64 (val [a, b] / 4096 % 64), let64 (val [a, b] / 64 % 64), 61] : Bs) = [let64 (val [a, b] / 262144), let64 (val [a, b] / 4096 % 64), let64 (val [a, b] / 64 % 64)] ++ [61] from rfl, trim_app _ _ (by simp [p1.1, p2.1, p3.1])]
      rw [show Go.Lib.trimRightB [61] 61 = [] from by decide, List.append_nil]
      rw [runO_some (by omega) (by simp) (x := [a, b]) (by simpa using three_back2 a b)]
      rfl
    · have hx := x.toNat_lt
      have hy := y.toNat_lt
      have hz := z.toNat_lt
      have hv : val [x, y, z] = x.toNat * 65536 + y.toNat * 256 + z.toNat := by simp [val]
      have p1 := let_plain' (val [x, y, z] / 262144) (by omega)
      have p2 := let_plain' (val [x, y, z] / 4096 % 64) (by omega)
      have p3 := let_plain' (val [x, y, z] / 64 % 64) (by omega)
      have p4 := let_plain' (val [x, y, z] % 64) (by omega)
      have ih := unP_back n t (by simp at h; omega)
      rw [b64_step _ (by simp)]
      simp only [List.take_succ_cons, List.take_zero, List.drop_succ_cons, List.drop_zero]
      unfold unP at ih ⊢
      rw [trim_app _ _ (by rw [four_three]; simp [p1.1, p2.1, p3.1, p4.1])]
      have h4 := four_length [x, y, z]
      rw [runO_some (by omega) (by rw [four_three]; simp) (x := [x, y, z]) (by rw [List.take_append_of_le_length (by omega), List.take_of_length_le (by omega)]; exact three_back3 x y z)]
      rw [List.drop_append_of_le_length (by omega), List.drop_of_length_le (by omega), List.nil_append, ih]
      rfl
theorem un_iff (s b : Bs) : un s = some b ↔ b64 b = s := by
  unfold un
  constructor
  · intro h
    split at h
    · split at h
      · cases h; assumption
      · cases h
    · cases h
  · rintro rfl
    rw [unP_back _ b (Nat.le_refl _)]
    simp
theorem un_back (b : Bs) : un (b64 b) = some b := (un_iff _ _).2 rfl

/-- The document's way: groups of four letters, as many as are letters count. -/
def digR (c : UInt8) : Nat := if 0 ≤ six c then (six c).toNat else 0
def valR (l : Bs) : Nat := ((digR (l.getD 0 0) * 64 + digR (l.getD 1 0)) * 64 + digR (l.getD 2 0)) * 64 + digR (l.getD 3 0)
def cntR (l : Bs) : Nat := (l.take 4).countP fun c => decide (0 ≤ six c)
def threeR (l : Bs) : Option Bs := if cntR l < 2 then none else some ([UInt8.ofNat (valR l / 65536), UInt8.ofNat (valR l / 256), UInt8.ofNat (valR l)].take (cntR l - 1))
def unR (s : Bs) : Option Bs := if s.length % 4 = 0 then match runO threeR 4 s with
  | some b => if b64 b = s then some b else none
  | none => none
  else none
theorem six61 : decide (0 ≤ six 61) = false := by decide +kernel
theorem digR61 : digR 61 = 0 := by decide +kernel
theorem digR_let (n : Nat) (h : n < 64) : digR (let64 n) = n := by
  unfold digR
  rw [if_pos (of_decide_eq_true (six_pos n h)), six_nat n h]
theorem unR_go : ∀ (n : Nat) (b : Bs), b.length ≤ n → runO threeR 4 (b64 b) = some b
  | 0, b, h => by
    have : b = [] := List.eq_nil_of_length_eq_zero (by omega)
    subst this; rfl
  | n + 1, b, h => by
    rcases cases3 b with rfl | ⟨a, rfl⟩ | ⟨a, b, rfl⟩ | ⟨x, y, z, t, rfl⟩
    · rfl
    · have ha := a.toNat_lt
      have hv : val [a] = a.toNat * 65536 := by simp [val]
      have ps1 := six_pos (val [a] / 262144) (by omega)
      have ts1 := six_nat (val [a] / 262144) (by omega)
      have ds1 := digR_let (val [a] / 262144) (by omega)
      have ps2 := six_pos (val [a] / 4096 % 64) (by omega)
      have ts2 := six_nat (val [a] / 4096 % 64) (by omega)
      have ds2 := digR_let (val [a] / 4096 % 64) (by omega)
      rw [b64_step _ (by simp)]
      simp only [List.take_succ_cons, List.take_nil, List.drop_succ_cons, List.drop_nil, b64_nil, List.append_nil]
      rw [four_one]
      have hc : cntR [let64 (val [a] / 262144), let64 (val [a] / 4096 % 64), 61, 61] = 2 := by simp only [cntR, List.take_succ_cons, List.take_zero, List.countP_cons, List.countP_nil, ps1, ps2, if_true, six61, Bool.false_eq_true, if_false]
      have hr : valR [let64 (val [a] / 262144), let64 (val [a] / 4096 % 64), 61, 61] = val [a] := by
        simp only [valR, List.getD_cons_zero, List.getD_cons_succ, ds1, ds2, digR61]
        omega
      rw [runO_some (by omega) (by simp) (x := [a]) (by
        unfold threeR
        rw [hc, hr, if_neg (by omega)]
        simp only [List.take_succ_cons, List.take_zero, Nat.reduceSub]
        rw [ofNat_eq _ a (by omega)])]
      rfl
    · have ha := a.toNat_lt
      have hb := b.toNat_lt
      have hv : val [a, b] = a.toNat * 65536 + b.toNat * 256 := by simp [val]
      have ps1 := six_pos (val [a, b] / 262144) (by omega)
      have ts1 := six_nat (val [a, b] / 262144) (by omega)
      have ds1 := digR_let (val [a, b] / 262144) (by omega)
      have ps2 := six_pos (val [a, b] / 4096 % 64) (by omega)
      have ts2 := six_nat (val [a, b] / 4096 % 64) (by omega)
      have ds2 := digR_let (val [a, b] / 4096 % 64) (by omega)
      have ps3 := six_pos (val [a, b] / 64 % 64) (by omega)
      have ts3 := six_nat (val [a, b] / 64 % 64) (by omega)
      have ds3 := digR_let (val [a, b] / 64 % 64) (by omega)
      rw [b64_step _ (by simp)]
      simp only [List.take_succ_cons, List.take_nil, List.drop_succ_cons, List.drop_nil, b64_nil, List.append_nil]
      rw [four_two]
      have hc : cntR [let64 (val [a, b] / 262144), let64 (val [a, b] / 4096 % 64), let64 (val [a, b] / 64 % 64), 61] = 3 := by simp only [cntR, List.take_succ_cons, List.take_zero, List.countP_cons, List.countP_nil, ps1, ps2, ps3, if_true, six61, Bool.false_eq_true, if_false]
      have hr : valR [let64 (val [a, b] / 262144), let64 (val [a, b] / 4096 % 64), let64 (val [a, b] / 64 % 64), 61] = val [a, b] := by
        simp only [valR, List.getD_cons_zero, List.getD_cons_succ, ds1, ds2, ds3, digR61]
        omega
      rw [runO_some (by omega) (by simp) (x := [a, b]) (by
        unfold threeR
        rw [hc, hr, if_neg (by omega)]
        simp only [List.take_succ_cons, List.take_zero, Nat.reduceSub]
        rw [ofNat_eq _ a (by omega), ofNat_eq _ b (by omega)])]
      rfl
    · have hx := x.toNat_lt
      have hy := y.toNat_lt
      have hz := z.toNat_lt
      have hv : val [x, y, z] = x.toNat * 65536 + y.toNat * 256 + z.toNat := by simp [val]
      have ps1 := six_pos (val [x, y, z] / 262144) (by omega)
      have ts1 := six_nat (val [x, y, z] / 262144) (by omega)
      have ds1 := digR_let (val [x, y, z] / 262144) (by omega)
      have ps2 := six_pos (val [x, y, z] / 4096 % 64) (by omega)
      have ts2 := six_nat (val [x, y, z] / 4096 % 64) (by omega)
      have ds2 := digR_let (val [x, y, z] / 4096 % 64) (by omega)
      have ps3 := six_pos (val [x, y, z] / 64 % 64) (by omega)
      have ts3 := six_nat (val [x, y, z] / 64 % 64) (by omega)
      have ds3 := digR_let (val [x, y, z] / 64 % 64) (by omega)
      have ps4 := six_pos (val [x, y, z] % 64) (by omega)
      have ts4 := six_nat (val [x, y, z] % 64) (by omega)
      have ds4 := digR_let (val [x, y, z] % 64) (by omega)
      have ih := unR_go n t (by simp at h; omega)
      rw [b64_step _ (by simp)]
      simp only [List.take_succ_cons, List.take_zero, List.drop_succ_cons, List.drop_zero]
      rw [four_three]
      simp only [List.cons_append, List.nil_append]
      have hc : ∀ T, cntR (let64 (val [x, y, z] / 262144) :: let64 (val [x, y, z] / 4096 % 64) :: let64 (val [x, y, z] / 64 % 64) :: let64 (val [x, y, z] % 64) :: T) = 4 := by intro T; simp only [cntR, List.take_succ_cons, List.take_zero, List.countP_cons, List.countP_nil, ps1, ps2, ps3, ps4, if_true, six61, Bool.false_eq_true, if_false]
      have hr : ∀ T, valR (let64 (val [x, y, z] / 262144) :: let64 (val [x, y, z] / 4096 % 64) :: let64 (val [x, y, z] / 64 % 64) :: let64 (val [x, y, z] % 64) :: T) = val [x, y, z] := by
        intro T
        simp only [valR, List.getD_cons_zero, List.getD_cons_succ, ds1, ds2, ds3, ds4, digR61]
        omega
      rw [runO_some (by omega) (by simp) (x := [x, y, z]) (by
        unfold threeR
        rw [hc, hr, if_neg (by omega)]
        simp only [List.take_succ_cons, List.take_zero, Nat.reduceSub]
        rw [ofNat_eq _ x (by omega), ofNat_eq _ y (by omega), ofNat_eq _ z (by omega)])]
      simp only [List.drop_succ_cons, List.drop_zero]
      rw [ih]
      rfl
theorem unR_iff (s b : Bs) : unR s = some b ↔ b64 b = s := by
  unfold unR
  constructor
  · intro h
    split at h
    · split at h
      · split at h
        · cases h; assumption
        · cases h
      · cases h
    · cases h
  · rintro rfl
    rw [if_pos (by rw [b64_len]; omega), unR_go _ b (Nat.le_refl _)]
    simp
theorem un_unR (s : Bs) : un s = unR s := by
  rcases h : unR s with _ | b
  · rcases h2 : un s with _ | b
    · rfl
    · rw [(unR_iff s b).2 ((un_iff s b).1 h2)] at h
      cases h
  · exact (un_iff s b).2 ((unR_iff s b).1 h)
end Go.Proofs.YtaniljfjmbifnaaGreatDoor.W
