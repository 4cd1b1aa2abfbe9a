/- What this text holds: plain facts: both ways to read seven bits tell the same. -/
import Derived.Test.YtkmggkcipgfhdaaDoorE4
import Derived.Test.YtkmggkcipgfhdaaDoorQ3
namespace Go.Proofs.YtkmggkcipgfhdaaDoor
open Go.Lib
set_option linter.unusedVariables false
set_option linter.unusedSimpArgs false

/-- Units of a run, with bits that wait. -/
def usGo : List UInt8 → List Nat → Option (List Nat)
  | [], _ => some []
  | c :: t, bl =>
    match dig64 c with
    | none => none
    | some d => if 16 ≤ (bl ++ bitsN 6 d).length then (usGo t ((bl ++ bitsN 6 d).drop 16)).map (valB ((bl ++ bitsN 6 d).take 16) :: ·) else usGo t (bl ++ bitsN 6 d)
theorem usGo_none {c : UInt8} {t : List UInt8} {bl : List Nat} (h : dig64 c = none) : usGo (c :: t) bl = none := by simp only [usGo, h]
theorem usGo_some {c : UInt8} {t : List UInt8} {bl : List Nat} {d : Nat} (h : dig64 c = some d) : usGo (c :: t) bl = if 16 ≤ (bl ++ bitsN 6 d).length then (usGo t ((bl ++ bitsN 6 d).drop 16)).map (valB ((bl ++ bitsN 6 d).take 16) :: ·) else usGo t (bl ++ bitsN 6 d) := by simp only [usGo, h]
def readR (run : List UInt8) : Option (List UInt8) := if run = [] then some [38] else (usGo run []).map letsR
def looseR : Nat → List UInt8 → Option (List UInt8)
  | 0, _ => some []
  | _ + 1, [] => some []
  | n + 1, c :: t => if c ≠ 38 then (looseR n t).map (c :: ·) else if (cutc 45 t).2.2 = true then (match readR (cutc 45 t).1 with | none => none | some o => (looseR n (cutc 45 t).2.1).map (o ++ ·)) else none
theorem looseR_nil (n : Nat) : looseR n [] = some [] := by cases n <;> rfl
theorem looseR_byte {n : Nat} {c : UInt8} {t : List UInt8} (h : c ≠ 38) : looseR (n + 1) (c :: t) = (looseR n t).map (c :: ·) := by rw [looseR, if_pos h]
theorem looseR_open {n : Nat} {t : List UInt8} (h : (cutc 45 t).2.2 = false) : looseR (n + 1) (38 :: t) = none := by rw [looseR, if_neg (by simp), if_neg (by rw [h]; simp)]
theorem looseR_bad {n : Nat} {t : List UInt8} (h : readR (cutc 45 t).1 = none) : looseR (n + 1) (38 :: t) = none := by
  rw [looseR, if_neg (by simp)]
  split
  · rw [h]
  · rfl
theorem looseR_on {n : Nat} {t o : List UInt8} (h : (cutc 45 t).2.2 = true) (hr : readR (cutc 45 t).1 = some o) : looseR (n + 1) (38 :: t) = (looseR n (cutc 45 t).2.1).map (o ++ ·) := by
  rw [looseR, if_neg (by simp), if_pos h, hr]
theorem looseR_fuel : ∀ (n m : Nat) (l : List UInt8), l.length ≤ n → l.length ≤ m → looseR n l = looseR m l
  | 0, m, l, hn, _ => by
    have : l = [] := List.eq_nil_of_length_eq_zero (by omega)
    subst this
    rw [looseR_nil, looseR_nil]
  | n + 1, 0, l, _, hm => by
    have : l = [] := List.eq_nil_of_length_eq_zero (by omega)
    subst this
    rw [looseR_nil, looseR_nil]
  | n + 1, m + 1, [], _, _ => rfl
  | n + 1, m + 1, c :: t, hn, hm => by
    simp only [List.length_cons] at hn hm
    by_cases hc : c = 38
    · subst hc
      rcases Bool.eq_false_or_eq_true (cutc 45 t).2.2 with h1 | h1
      · rcases hr : readR (cutc 45 t).1 with _ | o
        · rw [looseR_bad hr, looseR_bad hr]
        · have l1 := (cut_len 45 t).2 h1
          rw [looseR_on h1 hr, looseR_on h1 hr, looseR_fuel n m _ (by omega) (by omega)]
      · rw [looseR_open h1, looseR_open h1]
    · rw [looseR_byte hc, looseR_byte hc, looseR_fuel n m t (by omega) (by omega)]
def looseRF (l : List UInt8) : Option (List UInt8) := looseR l.length l
theorem looseRF_byte (c : UInt8) (hc : c ≠ 38) (l : List UInt8) : looseRF (c :: l) = (looseRF l).map (c :: ·) := looseR_byte hc
theorem looseRF_run (g x o : List UInt8) (h : (45 : UInt8) ∉ g) (hr : readR g = some o) : looseRF (38 :: (g ++ 45 :: x)) = (looseRF x).map (o ++ ·) := by
  have e := cut_at 45 g x h
  unfold looseRF
  rw [List.length_cons, looseR_on (o := o) (by rw [e]) (by rw [e]; exact hr), e]
  show Option.map _ (looseR _ x) = _
  rw [looseR_fuel _ x.length x (by simp only [List.length_append, List.length_cons]; omega) (Nat.le_refl _)]

/-- Units of bits. -/
def uo : Nat → List Nat → List Nat
  | 0, _ => []
  | n + 1, l => if 16 ≤ l.length then valB (l.take 16) :: uo n (l.drop 16) else []
theorem uo_fuel : ∀ (n m : Nat) (l : List Nat), l.length ≤ n → l.length ≤ m → uo n l = uo m l
  | 0, m, l, hn, _ => by
    have : l = [] := List.eq_nil_of_length_eq_zero (by omega)
    subst this
    cases m <;> simp [uo]
  | n + 1, 0, l, _, hm => by
    have : l = [] := List.eq_nil_of_length_eq_zero (by omega)
    subst this
    simp [uo]
  | n + 1, m + 1, l, hn, hm => by
    unfold uo
    split
    · rw [uo_fuel n m _ (by rw [List.length_drop]; omega) (by rw [List.length_drop]; omega)]
    · rfl
def uoF (l : List Nat) : List Nat := uo l.length l
theorem uoF_short {l : List Nat} (h : l.length < 16) : uoF l = [] := by
  unfold uoF
  cases hl : l.length with
  | zero => rfl
  | succ n => rw [uo, if_neg (by omega)]
theorem uoF_long {l : List Nat} (h : 16 ≤ l.length) : uoF l = valB (l.take 16) :: uoF (l.drop 16) := by
  unfold uoF
  obtain ⟨n, hn⟩ : ∃ n, l.length = n + 1 := ⟨l.length - 1, by omega⟩
  conv => lhs; rw [hn, uo, if_pos h]
  rw [uo_fuel n (l.drop 16).length _ (by rw [List.length_drop]; omega) (Nat.le_refl _)]
theorem us_bits : ∀ (n : Nat) (W : List Nat) (bl : List Nat), W.length ≤ n → W.length % 6 = 0 → Bits W → bl.length < 16 → usGo (grp W) bl = some (uoF (bl ++ W))
  | 0, W, bl, hn, _, _, hb => by
    have : W = [] := List.eq_nil_of_length_eq_zero (by omega)
    subst this
    rw [List.append_nil, uoF_short hb]
    rfl
  | n + 1, W, bl, hn, h6, hB, hb => by
    by_cases h0 : W.length = 0
    · have : W = [] := List.eq_nil_of_length_eq_zero h0
      subst this
      rw [List.append_nil, uoF_short hb]
      rfl
    · have hl : 6 ≤ W.length := by omega
      rw [(grp_six W hl).1]
      have hv : valB (W.take 6) < 64 := by
        have := valB_lt (W.take 6) (bits_take hB 6)
        rw [List.length_take, Nat.min_eq_left hl] at this
        exact this
      have hd : dig64 (let64 (valB (W.take 6))) = some (valB (W.take 6)) := dig_let ⟨_, hv⟩
      have hbv : bitsN 6 (valB (W.take 6)) = W.take 6 := by
        have := bitsN_valB (W.take 6) (bits_take hB 6)
        rw [List.length_take, Nat.min_eq_left hl] at this
        exact this
      have ha : bl ++ W = (bl ++ W.take 6) ++ W.drop 6 := by rw [List.append_assoc, List.take_append_drop]
      rw [usGo_some hd, hbv]
      have hlen : (bl ++ W.take 6).length = bl.length + 6 := by rw [List.length_append, List.length_take, Nat.min_eq_left hl]
      have hd6 : (W.drop 6).length = W.length - 6 := List.length_drop
      by_cases h16 : 16 ≤ (bl ++ W.take 6).length
      · rw [if_pos h16, us_bits n (W.drop 6) _ (by omega) (by omega) (bits_drop hB 6) (by rw [List.length_drop]; omega)]
        have h16' : 16 ≤ (bl ++ W).length := by rw [ha, List.length_append]; omega
        rw [uoF_long h16', Option.map_some]
        have t1 : (bl ++ W).take 16 = (bl ++ W.take 6).take 16 := by rw [ha, List.take_append_of_le_length h16]
        have t2 : (bl ++ W).drop 16 = (bl ++ W.take 6).drop 16 ++ W.drop 6 := by rw [ha, List.drop_append_of_le_length h16]
        rw [t1, t2]
      · rw [if_neg h16, us_bits n (W.drop 6) _ (by omega) (by omega) (bits_drop hB 6) (by omega), ← ha]
theorem uo_units (U : List Nat) : ∀ (p : List Nat), (∀ u ∈ U, u < 65536) → p.length < 16 → uoF (ubits U ++ p) = U := by
  induction U with
  | nil => intro p _ hp; rw [show ubits [] ++ p = p from rfl, uoF_short hp]
  | cons u U ih =>
    intro p hU hp
    have e : ubits (u :: U) ++ p = bitsN 16 u ++ (ubits U ++ p) := by simp [ubits]
    have hl : (bitsN 16 u).length = 16 := bitsN_length 16 u
    rw [e, uoF_long (by rw [List.length_append, hl]; omega), List.take_left' hl, List.drop_left' hl, valB_bitsN, Nat.mod_eq_of_lt (hU u (by simp)), ih p (fun x hx => hU x (by simp [hx])) hp]
theorem letsR_units (r : Nat) (h : scalar r) (t : List Nat) : letsR (units r ++ t) = encodeRune r ++ letsR t := by
  unfold units
  by_cases h16 : r < 65536
  · rw [if_pos h16]
    exact letsR_one (fun b t' _ hh => by rcases h with h | h <;> omega)
  · rw [if_neg h16]
    have hr : r ≤ 1114111 := by rcases h with h | h <;> omega
    have := letsR_pair (a := 55296 + (r - 65536) / 1024) (b := 56320 + (r - 65536) % 1024) (t := t) ⟨⟨by omega, by omega⟩, ⟨by omega, by omega⟩⟩
    show letsR ((55296 + (r - 65536) / 1024) :: (56320 + (r - 65536) % 1024) :: t) = _
    rw [this]
    have e : (65536 : Int) + (((55296 + (r - 65536) / 1024 : Nat) : Int) - 55296) * 1024 + ((56320 + (r - 65536) % 1024 : Nat) : Int) - 56320 = (r : Int) := by omega
    rw [e]
theorem letsR_text (rs : List Nat) (h : ∀ r ∈ rs, scalar r) : letsR (rs.flatMap units) = text rs := by
  induction rs with
  | nil => rfl
  | cons r rs ih =>
    rw [List.flatMap_cons, letsR_units r (h r (by simp)), ih (fun x hx => h x (by simp [hx]))]
    rfl
theorem run_readR (us : List Nat) (hne : us ≠ []) (h : ∀ r ∈ us, scalar r) : readR (grp (ubits (us.flatMap units) ++ pad (ubits (us.flatMap units)))) = some (text us) := by
  have hU : ∀ u ∈ us.flatMap units, u < 65536 := by
    intro u hu
    obtain ⟨r, hr, hu⟩ := List.mem_flatMap.1 hu
    exact units_small (h r hr) u hu
  have hB : Bits (ubits (us.flatMap units) ++ pad (ubits (us.flatMap units))) := bits_append (ubits_bits _) (pad_bits _)
  have hlen : 16 ≤ (ubits (us.flatMap units)).length := by
    rw [ubits_len]
    cases us with
    | nil => exact absurd rfl hne
    | cons r us =>
      rw [List.flatMap_cons, List.length_append]
      have := List.length_pos_iff.2 (units_ne r)
      omega
  unfold readR
  rw [if_neg (grp_ne (by rw [List.length_append]; omega)), us_bits _ _ [] (Nat.le_refl _) (padded_len _) hB (by simp), List.nil_append]
  rw [uo_units _ _ hU (by rw [pad_len]; omega), Option.map_some, letsR_text us h]
theorem enc_backR (rs : List Nat) : ∀ us : List Nat, (∀ r ∈ us, scalar r) → (∀ r ∈ rs, scalar r) → looseRF (enc (us.flatMap units) rs) = some (text us ++ text rs) := by
  have shutR : ∀ (us : List Nat) (X : List UInt8), (∀ r ∈ us, scalar r) → looseRF ((if us.flatMap units = [] then [] else run64 (us.flatMap units)) ++ X) = (looseRF X).map (text us ++ ·) := by
    intro us X h
    by_cases hu : us = []
    · subst hu
      rw [if_pos (show ([] : List Nat).flatMap units = [] from rfl)]
      show looseRF X = Option.map (fun x => [] ++ x) (looseRF X)
      simp
    · rw [if_neg (fun e => hu (flat_nil.1 e))]
      have h1 := (run_read us hu h).1
      have h2 := run_readR us hu h
      have e : run64 (us.flatMap units) ++ X = 38 :: (grp (ubits (us.flatMap units) ++ pad (ubits (us.flatMap units))) ++ 45 :: X) := by simp [run64]
      rw [e, looseRF_run _ X _ h1 h2]
  induction rs with
  | nil =>
    intro us h _
    have := shutR us [] h
    rw [List.append_nil, show looseRF [] = some [] from rfl] at this
    rw [enc, this]
    rfl
  | cons r rs ih =>
    intro us h hr
    rw [enc]
    by_cases hp : plainR r = true
    · rw [if_pos hp, List.append_assoc, shutR us _ h]
      have ih0 := ih [] (fun _ h => by simp at h) (fun x hx => hr x (by simp [hx]))
      rw [show ([] : List Nat).flatMap units = [] from rfl, show text [] = [] from rfl, List.nil_append] at ih0
      have e : text (r :: rs) = UInt8.ofNat r :: text rs := by
        unfold text
        rw [List.flatMap_cons, plain_byte hp]
        rfl
      rw [e]
      unfold plainB
      by_cases h38 : r = 38
      · subst h38
        rw [if_pos rfl]
        have := looseRF_run [] (enc [] rs) [38] (by simp) rfl
        rw [show [38, 45] ++ enc [] rs = 38 :: ([] ++ 45 :: enc [] rs) from rfl, this, ih0]
        rfl
      · rw [if_neg h38, show [UInt8.ofNat r] ++ enc [] rs = UInt8.ofNat r :: enc [] rs from rfl, looseRF_byte, ih0]
        · rfl
        · intro e2
          have := congrArg UInt8.toNat e2
          simp only [plainR, Bool.and_eq_true, decide_eq_true_eq] at hp
          simp [UInt8.toNat_ofNat] at this
          omega
    · rw [if_neg hp]
      have := ih (us ++ [r]) (fun x hx => by
        rcases List.mem_append.1 hx with hx | hx
        · exact h x hx
        · simp at hx; subst hx; exact hr x (by simp)) (fun x hx => hr x (by simp [hx]))
      rw [List.flatMap_append, show [r].flatMap units = units r by simp, text_app] at this
      rw [this]
      simp [text]
theorem back_allR (l : List UInt8) (h : validD l = true) : looseRF (encS l) = some l := by
  obtain ⟨h1, h2⟩ := text_runes l.length l (Nat.le_refl _) h
  have := enc_backR (runes l) [] (fun _ h => by simp at h) h2
  rw [show ([] : List Nat).flatMap units = [] from rfl, show text [] = [] from rfl, List.nil_append, h1] at this
  exact this
/-- What the document's Decode answers. -/
def rdecV (s : ByteArray) : Value :=
  match looseR s.size s.data.toList with
  | none => .tuple #[.string ⟨#[]⟩, .int .i64 11]
  | some t => if validD t = true ∧ encS t = s.data.toList then .tuple #[.string (str t), .int .i64 0] else .tuple #[.string ⟨#[]⟩, .int .i64 11]
/-- Both answer the same. -/
theorem dec_same (s : ByteArray) : decV s = rdecV s := by
  by_cases hx : ∃ x, validD x = true ∧ encS x = s.data.toList
  · obtain ⟨x, hv, he⟩ := hx
    have h1 : loose s.size s.data.toList = some x := by
      rw [Go.Lib.size_eq, ← he]; exact back_all x hv
    have h2 : looseR s.size s.data.toList = some x := by
      rw [Go.Lib.size_eq, ← he]; exact back_allR x hv
    unfold decV rdecV
    rw [h1, h2]
  · have no : ∀ t, ¬ (validD t = true ∧ encS t = s.data.toList) := fun t h => hx ⟨t, h⟩
    unfold decV rdecV
    have a : (match loose s.size s.data.toList with | none => (.tuple #[.string ⟨#[]⟩, .int .i64 11] : Value) | some t => if validD t = true ∧ encS t = s.data.toList then .tuple #[.string (str t), .int .i64 0] else .tuple #[.string ⟨#[]⟩, .int .i64 11]) = .tuple #[.string ⟨#[]⟩, .int .i64 11] := by
      split
      · rfl
      · rw [if_neg (no _)]
    have b : (match looseR s.size s.data.toList with | none => (.tuple #[.string ⟨#[]⟩, .int .i64 11] : Value) | some t => if validD t = true ∧ encS t = s.data.toList then .tuple #[.string (str t), .int .i64 0] else .tuple #[.string ⟨#[]⟩, .int .i64 11]) = .tuple #[.string ⟨#[]⟩, .int .i64 11] := by
      split
      · rfl
      · rw [if_neg (no _)]
    exact a.trans b.symm
end Go.Proofs.YtkmggkcipgfhdaaDoor
