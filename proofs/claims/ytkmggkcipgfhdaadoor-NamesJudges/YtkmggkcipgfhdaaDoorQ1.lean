/- What this text holds: plain facts: bits in groups of six and of sixteen, letters of base 64, runs, and what a text is in seven bits. No program is named here. -/
import Derived.Lib.MapLaws
import Derived.Lib.ValidLaws
namespace Go.Proofs.YtkmggkcipgfhdaaDoor
open Go.Lib
set_option linter.unusedVariables false

/-- Bits of a number, the highest first. -/
def bitsN : Nat → Nat → List Nat
  | 0, _ => []
  | k + 1, v => v / 2 ^ k % 2 :: bitsN k v
/-- The number of bits. -/
def valB : List Nat → Nat
  | [] => 0
  | b :: t => b * 2 ^ t.length + valB t
def Bits (l : List Nat) : Prop := ∀ b ∈ l, b < 2

theorem bitsN_length (k v : Nat) : (bitsN k v).length = k := by
  induction k with
  | zero => rfl
  | succ k ih => simp [bitsN, ih]
theorem bitsN_bits (k v : Nat) : Bits (bitsN k v) := by
  induction k with
  | zero => intro b hb; simp [bitsN] at hb
  | succ k ih =>
    intro b hb
    simp only [bitsN, List.mem_cons] at hb
    rcases hb with rfl | hb
    · omega
    · exact ih b hb
theorem valB_lt (l : List Nat) (h : Bits l) : valB l < 2 ^ l.length := by
  induction l with
  | nil => simp [valB]
  | cons b t ih =>
    have hb := h b (by simp)
    have ht := ih (fun x hx => h x (by simp [hx]))
    simp only [valB, List.length_cons, Nat.pow_succ]
    have : b * 2 ^ t.length ≤ 1 * 2 ^ t.length := Nat.mul_le_mul_right _ (by omega)
    omega
theorem valB_append (l m : List Nat) : valB (l ++ m) = valB l * 2 ^ m.length + valB m := by
  induction l with
  | nil => simp [valB]
  | cons b t ih =>
    simp only [List.cons_append, valB, ih, List.length_append, Nat.pow_add, Nat.add_mul, Nat.mul_assoc]
    omega
theorem valB_bitsN (k v : Nat) : valB (bitsN k v) = v % 2 ^ k := by
  induction k with
  | zero => simp [bitsN, valB, Nat.mod_one]
  | succ k ih =>
    simp only [bitsN, valB, bitsN_length, ih]
    have h2 : v % 2 ^ (k + 1) = v % (2 ^ k * 2) := by rw [Nat.pow_succ]
    rw [h2, Nat.mod_mul]
    rw [Nat.mul_comm (v / 2 ^ k % 2)]
    omega
theorem bits_append {l m : List Nat} (h : Bits l) (k : Bits m) : Bits (l ++ m) := fun b hb => by
  rcases List.mem_append.1 hb with hb | hb
  · exact h b hb
  · exact k b hb
theorem bits_take {l : List Nat} (h : Bits l) (k : Nat) : Bits (l.take k) := fun b hb => h b (List.mem_of_mem_take hb)
theorem bits_drop {l : List Nat} (h : Bits l) (k : Nat) : Bits (l.drop k) := fun b hb => h b (List.mem_of_mem_drop hb)
theorem bitsN_valB (l : List Nat) (h : Bits l) : bitsN l.length (valB l) = l := by
  induction l with
  | nil => rfl
  | cons b t ih =>
    have hb := h b (by simp)
    have ht : Bits t := fun x hx => h x (by simp [hx])
    have hv := valB_lt t ht
    have hp : 0 < 2 ^ t.length := Nat.pow_pos (by omega)
    simp only [List.length_cons, bitsN, valB]
    have e1 : (b * 2 ^ t.length + valB t) / 2 ^ t.length = b := by
      rw [Nat.mul_comm, Nat.mul_add_div hp, Nat.div_eq_of_lt hv]; rfl
    rw [e1, Nat.mod_eq_of_lt hb]
    congr 1
    have hx : ∀ k u q, k ≤ t.length → bitsN k (q * 2 ^ t.length + u) = bitsN k u := by
      intro k
      induction k with
      | zero => intro u q _; rfl
      | succ k ihk =>
        intro u q hk
        simp only [bitsN]
        rw [ihk u q (by omega)]
        congr 1
        obtain ⟨m, hm⟩ : ∃ m, t.length = k + 1 + m := ⟨t.length - (k + 1), by omega⟩
        rw [hm, Nat.pow_add, Nat.pow_succ]
        have : q * (2 ^ k * 2 * 2 ^ m) + u = 2 ^ k * (2 * (q * 2 ^ m)) + u := by
          have : q * (2 ^ k * 2 * 2 ^ m) = 2 ^ k * (2 * (q * 2 ^ m)) := by
            simp only [Nat.mul_comm, Nat.mul_assoc, Nat.mul_left_comm]
          omega
        rw [this, Nat.mul_add_div (Nat.pow_pos (by omega))]
        omega
    rw [hx t.length (valB t) b (Nat.le_refl _)]
    exact ih ht

/-- The letter of six bits. -/
def abc : List UInt8 := [65,66,67,68,69,70,71,72,73,74,75,76,77,78,79,80,81,82,83,84,85,86,87,88,89,90,97,98,99,100,101,102,103,104,105,106,107,108,109,110,111,112,113,114,115,116,117,118,119,120,121,122,48,49,50,51,52,53,54,55,56,57,43,44]
def let64 (n : Nat) : UInt8 := abc.getD n 0
/-- Which letter it is. -/
def dig64 (c : UInt8) : Option Nat := (List.range 64).find? fun n => let64 n == c
theorem dig_let : ∀ n : Fin 64, dig64 (let64 n.val) = some n.val := by decide +kernel
theorem let_plain : ∀ n : Fin 64, let64 n.val ≠ 45 ∧ let64 n.val ≠ 38 ∧ 32 ≤ (let64 n.val).toNat ∧ (let64 n.val).toNat ≤ 126 := by decide +kernel

/-- Letters of all whole groups of six. -/
def grp : List Nat → List UInt8
  | a :: b :: c :: d :: e :: f :: t => let64 (valB [a, b, c, d, e, f]) :: grp t
  | _ => []
/-- What is left of them. -/
def rst : List Nat → List Nat
  | _ :: _ :: _ :: _ :: _ :: _ :: t => rst t
  | l => l
theorem rst_short (l : List Nat) (h : l.length < 6) : rst l = l ∧ grp l = [] := by
  match l, h with
  | [], _ => exact ⟨rfl, rfl⟩
  | [_], _ => exact ⟨rfl, rfl⟩
  | [_, _], _ => exact ⟨rfl, rfl⟩
  | [_, _, _], _ => exact ⟨rfl, rfl⟩
  | [_, _, _, _], _ => exact ⟨rfl, rfl⟩
  | [_, _, _, _, _], _ => exact ⟨rfl, rfl⟩
theorem six_of (l : List Nat) (h : 6 ≤ l.length) : ∃ a b c d e f t, l = a :: b :: c :: d :: e :: f :: t := by
  match l, h with
  | a :: b :: c :: d :: e :: f :: t, _ => exact ⟨a, b, c, d, e, f, t, rfl⟩
theorem grp_six (l : List Nat) (h : 6 ≤ l.length) : grp l = let64 (valB (l.take 6)) :: grp (l.drop 6) ∧ rst l = rst (l.drop 6) := by
  obtain ⟨a, b, c, d, e, f, t, rfl⟩ := six_of l h
  exact ⟨rfl, rfl⟩
theorem rst_len : ∀ (n : Nat) (l : List Nat), l.length ≤ n → (rst l).length < 6 ∧ (rst l).length % 6 = l.length % 6
  | 0, l, h => by
    have : l = [] := List.eq_nil_of_length_eq_zero (by omega)
    subst this
    exact ⟨by simp [rst], rfl⟩
  | n + 1, l, h => by
    by_cases h6 : l.length < 6
    · rw [(rst_short l h6).1]; exact ⟨h6, rfl⟩
    · rw [(grp_six l (by omega)).2]
      have := rst_len n (l.drop 6) (by rw [List.length_drop]; omega)
      rw [List.length_drop] at this
      omega
theorem rst_lt (l : List Nat) : (rst l).length < 6 := (rst_len l.length l (Nat.le_refl _)).1
theorem grp_app : ∀ (n : Nat) (l m : List Nat), l.length ≤ n → grp (l ++ m) = grp l ++ grp (rst l ++ m) ∧ rst (l ++ m) = rst (rst l ++ m)
  | 0, l, m, h => by
    have : l = [] := List.eq_nil_of_length_eq_zero (by omega)
    subst this
    exact ⟨rfl, rfl⟩
  | n + 1, l, m, h => by
    by_cases h6 : l.length < 6
    · rw [(rst_short l h6).1, (rst_short l h6).2]; exact ⟨rfl, rfl⟩
    · obtain ⟨a, b, c, d, e, f, t, rfl⟩ := six_of l (by omega)
      have := grp_app n t m (by simp at h; omega)
      simp only [List.cons_append, grp, rst]
      rw [this.1, this.2]
      exact ⟨rfl, rfl⟩
theorem grp_append (l m : List Nat) : grp (l ++ m) = grp l ++ grp (rst l ++ m) ∧ rst (l ++ m) = rst (rst l ++ m) := grp_app _ l m (Nat.le_refl _)
theorem rst_bits : ∀ (n : Nat) (l : List Nat), l.length ≤ n → Bits l → Bits (rst l)
  | 0, l, h, hb => by
    have : l = [] := List.eq_nil_of_length_eq_zero (by omega)
    subst this
    exact hb
  | n + 1, l, h, hb => by
    by_cases h6 : l.length < 6
    · rw [(rst_short l h6).1]; exact hb
    · rw [(grp_six l (by omega)).2]
      exact rst_bits n (l.drop 6) (by rw [List.length_drop]; omega) (bits_drop hb 6)

/-- Noughts that fill the last group. -/
def pad (l : List Nat) : List Nat := List.replicate ((6 - l.length % 6) % 6) 0
theorem pad_bits (l : List Nat) : Bits (pad l) := fun b hb => by
  have := List.eq_of_mem_replicate hb
  omega
theorem pad_len (l : List Nat) : (pad l).length = (6 - l.length % 6) % 6 := by simp [pad]

/-- A run of units. -/
def units (r : Nat) : List Nat := if r < 65536 then [r] else [55296 + (r - 65536) / 1024, 56320 + (r - 65536) % 1024]
def ubits (l : List Nat) : List Nat := l.flatMap (bitsN 16)
def run64 (l : List Nat) : List UInt8 := 38 :: grp (ubits l ++ pad (ubits l)) ++ [45]
theorem ubits_append (l m : List Nat) : ubits (l ++ m) = ubits l ++ ubits m := by simp [ubits]
theorem ubits_bits (l : List Nat) : Bits (ubits l) := fun b hb => by
  simp only [ubits, List.mem_flatMap] at hb
  obtain ⟨u, _, hb⟩ := hb
  exact bitsN_bits 16 u b hb
theorem ubits_len (l : List Nat) : (ubits l).length = 16 * l.length := by
  induction l with
  | nil => rfl
  | cons x l ih => simp only [ubits, List.flatMap_cons, List.length_append, bitsN_length, List.length_cons] at ih ⊢; omega

def plainR (r : Nat) : Bool := decide (32 ≤ r) && decide (r ≤ 126)
def plainB (r : Nat) : List UInt8 := if r = 38 then [38, 45] else [UInt8.ofNat r]

/-- A text in seven bits, with a run of units that is open (none: []). -/
def enc : List Nat → List Nat → List UInt8
  | u, [] => if u = [] then [] else run64 u
  | u, r :: t => if plainR r then (if u = [] then [] else run64 u) ++ plainB r ++ enc [] t else enc (u ++ units r) t

/-- Letters of a text. -/
def runesGo : Nat → List UInt8 → List Nat
  | 0, _ => []
  | n + 1, l => if l = [] then [] else (decodeL l).1 :: runesGo n (l.drop (decodeL l).2)
def runes (l : List UInt8) : List Nat := runesGo l.length l
def encS (l : List UInt8) : List UInt8 := enc [] (runes l)

/-- What waits in the program: what is written, bits, and is a run open? -/
structure St where
  out : List UInt8
  bl : List Nat
  run : Bool
def St.shut (s : St) : St := if s.run then { out := s.out ++ grp (s.bl ++ pad s.bl) ++ [45], bl := [], run := false } else s
def St.plain (s : St) (r : Nat) : St := { s with out := s.out ++ plainB r }
def St.open (s : St) : St := { s with out := if s.run then s.out else s.out ++ [38], run := true }
def St.unit (s : St) (u : Nat) : St := { s with out := s.out ++ grp (s.bl ++ bitsN 16 u), bl := rst (s.bl ++ bitsN 16 u) }
def St.units (s : St) (r : Nat) : St := (Go.Proofs.YtkmggkcipgfhdaaDoor.units r).foldl St.unit s
def St.step (s : St) (r : Nat) : St := if plainR r then s.shut.plain r else s.open.units r
def St.zero : St := ⟨[], [], false⟩

/-- How the program's bits stand with a run of units. -/
structure Has (s : St) (o : List UInt8) (u : List Nat) : Prop where
  none : u = [] → s = ⟨o, [], false⟩
  some : u ≠ [] → s = ⟨o ++ 38 :: grp (ubits u), rst (ubits u), true⟩

theorem grp_pad (l : List Nat) : grp (l ++ pad l) = grp l ++ grp (rst l ++ pad (rst l)) := by
  rw [(grp_append l (pad l)).1]
  congr 3
  unfold pad
  rw [(rst_len l.length l (Nat.le_refl _)).2]
theorem Has.shut {s : St} {o : List UInt8} {u : List Nat} (h : Has s o u) : s.shut = ⟨o ++ (if u = [] then [] else run64 u), [], false⟩ := by
  by_cases hu : u = []
  · rw [h.none hu, if_pos hu]; simp [St.shut]
  · rw [h.some hu, if_neg hu]
    simp only [St.shut, if_true, run64]
    congr 1
    rw [grp_pad (ubits u)]
    simp
theorem unit_fold (us : List Nat) : ∀ (o : List UInt8) (u : List Nat), us.foldl St.unit ⟨o ++ 38 :: grp (ubits u), rst (ubits u), true⟩ = ⟨o ++ 38 :: grp (ubits (u ++ us)), rst (ubits (u ++ us)), true⟩ := by
  induction us with
  | nil => intro o u; simp
  | cons x us ih =>
    intro o u
    simp only [List.foldl_cons]
    have hx : St.unit ⟨o ++ 38 :: grp (ubits u), rst (ubits u), true⟩ x = ⟨o ++ 38 :: grp (ubits (u ++ [x])), rst (ubits (u ++ [x])), true⟩ := by
      have e : ubits (u ++ [x]) = ubits u ++ bitsN 16 x := by rw [ubits_append]; simp [ubits]
      have := grp_append (ubits u) (bitsN 16 x)
      simp only [St.unit, e, this.1, this.2]
      simp
    rw [hx, ih]
    simp
theorem units_ne (r : Nat) : units r ≠ [] := by unfold units; split <;> simp
theorem Has.units {s : St} {o : List UInt8} {u : List Nat} (h : Has s o u) (r : Nat) : Has (s.open.units r) o (u ++ Go.Proofs.YtkmggkcipgfhdaaDoor.units r) := by
  refine ⟨fun e => absurd (List.append_eq_nil_iff.1 e).2 (units_ne r), fun _ => ?_⟩
  have ho : s.open = ⟨o ++ 38 :: grp (ubits u), rst (ubits u), true⟩ := by
    by_cases hu : u = []
    · rw [h.none hu]; subst hu; simp [St.open, ubits, grp, rst]
    · rw [h.some hu]; simp [St.open]
  rw [St.units, ho, unit_fold]
theorem fold_enc (rs : List Nat) : ∀ (s : St) (o : List UInt8) (u : List Nat), Has s o u → (rs.foldl St.step s).shut = ⟨o ++ enc u rs, [], false⟩ := by
  induction rs with
  | nil => intro s o u h; simp only [List.foldl_nil, enc]; exact h.shut
  | cons r rs ih =>
    intro s o u h
    simp only [List.foldl_cons, enc]
    by_cases hp : plainR r = true
    · rw [if_pos hp]
      have : Has (s.step r) (o ++ (if u = [] then [] else run64 u) ++ plainB r) [] := by
        refine ⟨fun _ => ?_, fun e => absurd rfl e⟩
        rw [St.step, if_pos hp, h.shut]
        simp [St.plain]
      rw [ih _ _ _ this]
      simp
    · rw [if_neg hp, St.step, if_neg hp]
      exact ih _ _ _ (h.units r)
theorem zero_has : Has St.zero [] [] := ⟨fun _ => rfl, fun e => absurd rfl e⟩
theorem fold_zero (rs : List Nat) : ((rs.foldl St.step St.zero).shut).out = enc [] rs := by rw [fold_enc rs _ _ _ zero_has]; rfl
end Go.Proofs.YtkmggkcipgfhdaaDoor
