/- What this text holds: plain facts: what was written in seven bits is read as it was. No call of the program is named here. -/
import Derived.Test.YtkmggkcipgfhdaaDoorQ2
namespace Go.Proofs.YtkmggkcipgfhdaaDoor
open Go.Lib
set_option linter.unusedVariables false
set_option linter.unusedSimpArgs false

theorem loose_fuel : ∀ (n m : Nat) (l : List UInt8), l.length ≤ n → l.length ≤ m → loose n l = loose m l
  | 0, m, l, hn, _ => by
    have : l = [] := List.eq_nil_of_length_eq_zero (by omega)
    subst this
    rw [loose_nil, loose_nil]
  | n + 1, 0, l, _, hm => by
    have : l = [] := List.eq_nil_of_length_eq_zero (by omega)
    subst this
    rw [loose_nil, loose_nil]
  | n + 1, m + 1, l, hn, hm => by
    by_cases h0 : l = []
    · subst h0; rw [loose_nil, loose_nil]
    · rcases Bool.eq_false_or_eq_true (cutc 38 l).2.2 with h1 | h1
      · rcases Bool.eq_false_or_eq_true (cutc 45 (cutc 38 l).2.1).2.2 with h2 | h2
        · rcases hr : readP (cutc 45 (cutc 38 l).2.1).1 with _ | o
          · rw [loose_bad h0 h1 h2 hr, loose_bad h0 h1 h2 hr]
          · have l1 := (cut_len 38 l).2 h1
            have l2 := (cut_len 45 (cutc 38 l).2.1).2 h2
            rw [loose_on h0 h1 h2 hr, loose_on h0 h1 h2 hr, loose_fuel n m _ (by omega) (by omega)]
        · rw [loose_open h0 h1 h2, loose_open h0 h1 h2]
      · rw [loose_end h0 h1, loose_end h0 h1]
def looseF (l : List UInt8) : Option (List UInt8) := loose l.length l
theorem looseF_of {n : Nat} {l : List UInt8} (h : l.length ≤ n) : loose n l = looseF l := loose_fuel n _ l h (Nat.le_refl _)
theorem looseF_nil : looseF [] = some [] := rfl
theorem looseF_byte (c : UInt8) (hc : c ≠ 38) (l : List UInt8) : looseF (c :: l) = (looseF l).map (c :: ·) := by
  have e : cutc 38 (c :: l) = (c :: (cutc 38 l).1, (cutc 38 l).2.1, (cutc 38 l).2.2) := by
    rw [cutc, if_neg hc]
  have hne : c :: l ≠ [] := by simp
  unfold looseF
  rw [List.length_cons]
  by_cases h0 : l = []
  · subst h0
    rw [loose_end hne (by rw [e]; rfl), e]
    rfl
  · obtain ⟨m, hm⟩ : ∃ m, l.length = m + 1 := ⟨l.length - 1, by have := List.length_pos_iff.2 h0; omega⟩
    rcases Bool.eq_false_or_eq_true (cutc 38 l).2.2 with h1 | h1
    · have l1 := (cut_len 38 l).2 h1
      have f1 : (cutc 38 (c :: l)).2.2 = true := by rw [e]; exact h1
      have f0 : (cutc 38 (c :: l)).2.1 = (cutc 38 l).2.1 := by rw [e]
      have f9 : (cutc 38 (c :: l)).1 = c :: (cutc 38 l).1 := by rw [e]
      rcases Bool.eq_false_or_eq_true (cutc 45 (cutc 38 l).2.1).2.2 with h2 | h2
      · rcases hr : readP (cutc 45 (cutc 38 l).2.1).1 with _ | o
        · rw [loose_bad hne f1 (by rw [f0]; exact h2) (by rw [f0]; exact hr), hm, loose_bad h0 h1 h2 hr]
          rfl
        · have l2 := (cut_len 45 (cutc 38 l).2.1).2 h2
          rw [loose_on hne f1 (by rw [f0]; exact h2) (by rw [f0]; exact hr), f0, f9]
          conv => rhs; rw [hm, loose_on h0 h1 h2 hr]
          rw [loose_fuel l.length m _ (by omega) (by omega), Option.map_map]
          congr 1
      · rw [loose_open hne f1 (by rw [f0]; exact h2), hm, loose_open h0 h1 h2]
        rfl
    · have f1 : (cutc 38 (c :: l)).2.2 = false := by rw [e]; exact h1
      have f9 : (cutc 38 (c :: l)).1 = c :: (cutc 38 l).1 := by rw [e]
      rw [loose_end hne f1, f9, hm, loose_end h0 h1]
      rfl
theorem cut_at (c : UInt8) (g x : List UInt8) (h : c ∉ g) : cutc c (g ++ c :: x) = (g, x, true) := by
  induction g with
  | nil => simp [cutc]
  | cons b g ih =>
    simp only [List.mem_cons, not_or] at h
    rw [List.cons_append, cutc, if_neg (fun e => h.1 e.symm), ih h.2]
theorem looseF_run (g x o : List UInt8) (h : (45 : UInt8) ∉ g) (hr : readP g = some o) : looseF (38 :: (g ++ 45 :: x)) = (looseF x).map (o ++ ·) := by
  have e : cutc 38 (38 :: (g ++ 45 :: x)) = ([], g ++ 45 :: x, true) := by simp [cutc]
  have e2 : cutc 45 (g ++ 45 :: x) = (g, x, true) := cut_at 45 g x h
  unfold looseF
  rw [List.length_cons, loose_on (o := o) (by simp) (by rw [e]) (by rw [e, e2]) (by rw [e, e2]; exact hr), e, e2]
  show Option.map _ (loose _ x) = _
  rw [loose_fuel _ x.length x (by simp only [List.length_append, List.length_cons]; omega) (Nat.le_refl _)]
  rfl

/-- Units of bits are read. -/
def rd : Nat → Nat → List Nat → List UInt8
  | 0, _, _ => []
  | n + 1, half, l => if 16 ≤ l.length then (letP half (valB (l.take 16))).1 ++ rd n (letP half (valB (l.take 16))).2 (l.drop 16) else []
theorem rd_fuel : ∀ (n m half : Nat) (l : List Nat), l.length ≤ n → l.length ≤ m → rd n half l = rd m half l
  | 0, m, half, l, hn, _ => by
    have : l = [] := List.eq_nil_of_length_eq_zero (by omega)
    subst this
    cases m <;> simp [rd]
  | n + 1, 0, half, l, _, hm => by
    have : l = [] := List.eq_nil_of_length_eq_zero (by omega)
    subst this
    simp [rd]
  | n + 1, m + 1, half, l, hn, hm => by
    unfold rd
    split
    · rw [rd_fuel n m _ _ (by rw [List.length_drop]; omega) (by rw [List.length_drop]; omega)]
    · rfl
def rdF (half : Nat) (l : List Nat) : List UInt8 := rd l.length half l
theorem rdF_short {half : Nat} {l : List Nat} (h : l.length < 16) : rdF half l = [] := by
  unfold rdF
  cases hl : l.length with
  | zero => rfl
  | succ n => rw [rd, if_neg (by omega)]
theorem rdF_long {half : Nat} {l : List Nat} (h : 16 ≤ l.length) : rdF half l = (letP half (valB (l.take 16))).1 ++ rdF (letP half (valB (l.take 16))).2 (l.drop 16) := by
  unfold rdF
  obtain ⟨n, hn⟩ : ∃ n, l.length = n + 1 := ⟨l.length - 1, by omega⟩
  conv => lhs; rw [hn, rd, if_pos h]
  rw [rd_fuel n (l.drop 16).length _ _ (by rw [List.length_drop]; omega) (Nat.le_refl _)]
theorem read_bits : ∀ (n : Nat) (W : List Nat) (half : Nat) (bl : List Nat), W.length ≤ n → W.length % 6 = 0 → Bits W → bl.length < 16 → readGo (grp W) half bl = some (rdF half (bl ++ W))
  | 0, W, half, bl, hn, _, _, hb => by
    have : W = [] := List.eq_nil_of_length_eq_zero (by omega)
    subst this
    rw [List.append_nil, rdF_short hb]
    rfl
  | n + 1, W, half, bl, hn, h6, hB, hb => by
    by_cases h0 : W.length = 0
    · have : W = [] := List.eq_nil_of_length_eq_zero h0
      subst this
      rw [List.append_nil, rdF_short hb]
      rfl
    · have hl : 6 ≤ W.length := by omega
      rw [(grp_six W hl).1]
      have hv : valB (W.take 6) < 64 := by
        have := valB_lt (W.take 6) (bits_take hB 6)
        rw [List.length_take, Nat.min_eq_left hl] at this
        exact this
      have hd : dig64 (let64 (valB (W.take 6))) = some (valB (W.take 6)) := dig_let ⟨_, hv⟩
      have hbv : bitsN 6 (valB (W.take 6)) = W.take 6 := by
        have := bitsN_valB (W.take 6) (bits_take hB 6)
        rw [List.length_take, Nat.min_eq_left hl] at this
        exact this
      have ha : bl ++ W = (bl ++ W.take 6) ++ W.drop 6 := by rw [List.append_assoc, List.take_append_drop]
      rw [readGo_some hd, hbv]
      have hlen : (bl ++ W.take 6).length = bl.length + 6 := by rw [List.length_append, List.length_take, Nat.min_eq_left hl]
      have hd6 : (W.drop 6).length = W.length - 6 := List.length_drop
      by_cases h16 : 16 ≤ (bl ++ W.take 6).length
      · rw [if_pos h16, read_bits n (W.drop 6) _ _ (by omega) (by omega) (bits_drop hB 6) (by rw [List.length_drop]; omega)]
        have h16' : 16 ≤ (bl ++ W).length := by rw [ha, List.length_append]; omega
        rw [rdF_long h16', Option.map_some]
        have t1 : (bl ++ W).take 16 = (bl ++ W.take 6).take 16 := by rw [ha, List.take_append_of_le_length h16]
        have t2 : (bl ++ W).drop 16 = (bl ++ W.take 6).drop 16 ++ W.drop 6 := by rw [ha, List.drop_append_of_le_length h16]
        rw [t1, t2]
      · rw [if_neg h16, read_bits n (W.drop 6) _ _ (by omega) (by omega) (bits_drop hB 6) (by omega), ← ha]

/-- Letters of units. -/
def lets : Nat → List Nat → List UInt8
  | _, [] => []
  | half, u :: t => (letP half u).1 ++ lets (letP half u).2 t
theorem rd_units (U : List Nat) : ∀ (half : Nat) (p : List Nat), (∀ u ∈ U, u < 65536) → p.length < 16 → rdF half (ubits U ++ p) = lets half U := by
  induction U with
  | nil => intro half p _ hp; rw [show ubits [] ++ p = p from rfl, rdF_short hp]; rfl
  | cons u U ih =>
    intro half p hU hp
    have e : ubits (u :: U) ++ p = bitsN 16 u ++ (ubits U ++ p) := by simp [ubits]
    have hl : (bitsN 16 u).length = 16 := bitsN_length 16 u
    rw [e, rdF_long (by rw [List.length_append, hl]; omega), List.take_left' hl, List.drop_left' hl, valB_bitsN, Nat.mod_eq_of_lt (hU u (by simp)), ih _ p (fun x hx => hU x (by simp [hx])) hp]
    rfl
def scalar (r : Nat) : Prop := r < 55296 ∨ (57344 ≤ r ∧ r ≤ 1114111)
theorem units_small {r : Nat} (h : scalar r) : ∀ u ∈ units r, u < 65536 := by
  intro u hu
  unfold units at hu
  split at hu
  · simp at hu; omega
  · simp at hu
    rcases h with h | h
    · omega
    · rcases hu with hu | hu <;> omega
theorem lets_units (r : Nat) (h : scalar r) (t : List Nat) : lets 0 (units r ++ t) = encodeRune r ++ lets 0 t := by
  unfold units
  by_cases h16 : r < 65536
  · rw [if_pos h16]
    have e : letP 0 r = (encodeRune r, 0) := by
      unfold letP
      rw [if_neg (by rcases h with h | h <;> omega), if_neg (by simp)]
    show (letP 0 r).1 ++ lets (letP 0 r).2 t = _
    rw [e]
  · rw [if_neg h16]
    have hr : r ≤ 1114111 := by rcases h with h | h <;> omega
    have e1 : letP 0 (55296 + (r - 65536) / 1024) = ([], 55296 + (r - 65536) / 1024) := by
      unfold letP
      rw [if_pos ⟨rfl, by omega, by omega⟩]
    have e2 : letP (55296 + (r - 65536) / 1024) (56320 + (r - 65536) % 1024) = (encodeRune r, 0) := by
      unfold letP
      rw [if_neg (by omega), if_pos (by omega)]
      have : (65536 : Int) + (((55296 + (r - 65536) / 1024 : Nat) : Int) - 55296) * 1024 + (((56320 + (r - 65536) % 1024 : Nat) : Int) - 56320) = (r : Int) := by omega
      rw [this]
    show (letP 0 (55296 + (r - 65536) / 1024)).1 ++ ((letP (letP 0 (55296 + (r - 65536) / 1024)).2 (56320 + (r - 65536) % 1024)).1 ++ lets (letP (letP 0 (55296 + (r - 65536) / 1024)).2 (56320 + (r - 65536) % 1024)).2 t) = _
    rw [e1, e2]
    rfl
def text (rs : List Nat) : List UInt8 := rs.flatMap fun r : Nat => encodeRune (r : Int)
theorem text_app (a b : List Nat) : text (a ++ b) = text a ++ text b := by simp [text]
theorem lets_text (rs : List Nat) (h : ∀ r ∈ rs, scalar r) : lets 0 (rs.flatMap units) = text rs := by
  induction rs with
  | nil => rfl
  | cons r rs ih =>
    rw [List.flatMap_cons, lets_units r (h r (by simp)), ih (fun x hx => h x (by simp [hx]))]
    rfl

theorem grp_ne {l : List Nat} (h : 6 ≤ l.length) : grp l ≠ [] := by rw [(grp_six l h).1]; simp
theorem grp_plain : ∀ (n : Nat) (l : List Nat), l.length ≤ n → Bits l → ∀ c ∈ grp l, c ≠ 45 ∧ c ≠ 38 ∧ 32 ≤ c.toNat ∧ c.toNat ≤ 126
  | 0, l, h, _ => by
    have : l = [] := List.eq_nil_of_length_eq_zero (by omega)
    subst this
    intro c hc
    simp [grp] at hc
  | n + 1, l, h, hb => by
    by_cases h6 : l.length < 6
    · rw [(rst_short l h6).2]; intro c hc; simp at hc
    · rw [(grp_six l (by omega)).1]
      intro c hc
      simp only [List.mem_cons] at hc
      rcases hc with rfl | hc
      · have hv : valB (l.take 6) < 64 := by
          have := valB_lt (l.take 6) (bits_take hb 6)
          rw [List.length_take, Nat.min_eq_left (by omega)] at this
          exact this
        exact let_plain ⟨_, hv⟩
      · exact grp_plain n (l.drop 6) (by rw [List.length_drop]; omega) (bits_drop hb 6) c hc
theorem padded_len (l : List Nat) : (l ++ pad l).length % 6 = 0 := by
  rw [List.length_append, pad_len]
  omega
theorem run_read (us : List Nat) (hne : us ≠ []) (h : ∀ r ∈ us, scalar r) :
    (45 : UInt8) ∉ grp (ubits (us.flatMap units) ++ pad (ubits (us.flatMap units))) ∧ readP (grp (ubits (us.flatMap units) ++ pad (ubits (us.flatMap units)))) = some (text us) := by
  have hU : ∀ u ∈ us.flatMap units, u < 65536 := by
    intro u hu
    obtain ⟨r, hr, hu⟩ := List.mem_flatMap.1 hu
    exact units_small (h r hr) u hu
  have hB : Bits (ubits (us.flatMap units) ++ pad (ubits (us.flatMap units))) := bits_append (ubits_bits _) (pad_bits _)
  have hlen : 16 ≤ (ubits (us.flatMap units)).length := by
    rw [ubits_len]
    cases us with
    | nil => exact absurd rfl hne
    | cons r us =>
      rw [List.flatMap_cons, List.length_append]
      have := List.length_pos_iff.2 (units_ne r)
      omega
  refine ⟨fun hm => (grp_plain _ _ (Nat.le_refl _) hB 45 hm).1 rfl, ?_⟩
  unfold readP
  rw [if_neg (grp_ne (by rw [List.length_append]; omega)), read_bits _ _ 0 [] (Nat.le_refl _) (padded_len _) hB (by simp), List.nil_append]
  rw [rd_units _ 0 _ hU (by rw [pad_len]; omega), lets_text us h]

theorem plain_byte {r : Nat} (h : plainR r = true) : encodeRune r = [UInt8.ofNat r] := by
  simp only [plainR, Bool.and_eq_true, decide_eq_true_eq] at h
  unfold encodeRune
  rw [encodeRuneZ_one (by omega) (by omega)]
  simp
theorem plain_scalar {r : Nat} (h : plainR r = true) : scalar r := by
  simp only [plainR, Bool.and_eq_true, decide_eq_true_eq] at h
  left
  omega
theorem flat_nil {us : List Nat} : us.flatMap units = [] ↔ us = [] := by
  constructor
  · intro h
    cases us with
    | nil => rfl
    | cons r us =>
      rw [List.flatMap_cons] at h
      exact absurd (List.append_eq_nil_iff.1 h).1 (units_ne r)
  · intro h; subst h; rfl
theorem enc_back (rs : List Nat) : ∀ us : List Nat, (∀ r ∈ us, scalar r) → (∀ r ∈ rs, scalar r) → looseF (enc (us.flatMap units) rs) = some (text us ++ text rs) := by
  have shutR : ∀ (us : List Nat) (X : List UInt8), (∀ r ∈ us, scalar r) → looseF ((if us.flatMap units = [] then [] else run64 (us.flatMap units)) ++ X) = (looseF X).map (text us ++ ·) := by
    intro us X h
    by_cases hu : us = []
    · subst hu
      rw [if_pos (show ([] : List Nat).flatMap units = [] from rfl)]
      show looseF X = Option.map (fun x => [] ++ x) (looseF X)
      simp
    · rw [if_neg (fun e => hu (flat_nil.1 e))]
      obtain ⟨h1, h2⟩ := run_read us hu h
      have e : run64 (us.flatMap units) ++ X = 38 :: (grp (ubits (us.flatMap units) ++ pad (ubits (us.flatMap units))) ++ 45 :: X) := by simp [run64]
      rw [e, looseF_run _ X _ h1 h2]
  induction rs with
  | nil =>
    intro us h _
    have := shutR us [] h
    rw [List.append_nil, looseF_nil] at this
    rw [enc, this]
    rfl
  | cons r rs ih =>
    intro us h hr
    rw [enc]
    by_cases hp : plainR r = true
    · rw [if_pos hp, List.append_assoc, shutR us _ h]
      have ih0 := ih [] (fun _ h => by simp at h) (fun x hx => hr x (by simp [hx]))
      rw [show ([] : List Nat).flatMap units = [] from rfl, show text [] = [] from rfl, List.nil_append] at ih0
      have e : text (r :: rs) = UInt8.ofNat r :: text rs := by
        unfold text
        rw [List.flatMap_cons, plain_byte hp]
        rfl
      rw [e]
      unfold plainB
      by_cases h38 : r = 38
      · subst h38
        rw [if_pos rfl]
        have := looseF_run [] (enc [] rs) [38] (by simp) rfl
        rw [show [38, 45] ++ enc [] rs = 38 :: ([] ++ 45 :: enc [] rs) from rfl, this, ih0]
        rfl
      · rw [if_neg h38, show [UInt8.ofNat r] ++ enc [] rs = UInt8.ofNat r :: enc [] rs from rfl, looseF_byte, ih0]
        · rfl
        · intro e2
          have := congrArg UInt8.toNat e2
          simp only [plainR, Bool.and_eq_true, decide_eq_true_eq] at hp
          simp [UInt8.toNat_ofNat] at this
          omega
    · rw [if_neg hp]
      have := ih (us ++ [r]) (fun x hx => by
        rcases List.mem_append.1 hx with hx | hx
        · exact h x hx
        · simp at hx; subst hx; exact hr x (by simp)) (fun x hx => hr x (by simp [hx]))
      rw [List.flatMap_append, show [r].flatMap units = units r by simp, text_app] at this
      rw [this]
      simp [text]

/-- A valid text's letters. -/
theorem text_runes : ∀ (n : Nat) (l : List UInt8), l.length ≤ n → validD l = true → text (runes l) = l ∧ ∀ r ∈ runes l, scalar r
  | 0, l, h, _ => by
    have : l = [] := List.eq_nil_of_length_eq_zero (by omega)
    subst this
    exact ⟨rfl, fun r hr => by simp [runes, runesGo] at hr⟩
  | n + 1, l, h, hv => by
    by_cases hne : l = []
    · subst hne
      exact ⟨rfl, fun r hr => by simp [runes, runesGo] at hr⟩
    · rw [validD_step l hne] at hv
      split at hv
      · cases hv
      · rename_i hc
        have hw := decodeL_width l
        have ih := text_runes n (l.drop (decodeL l).2) (by rw [List.length_drop]; omega) hv
        have he := encode_decode l hne hc
        rw [runes_step l hne]
        refine ⟨?_, fun r hr => ?_⟩
        · show encodeRune ((decodeL l).1 : Int) ++ text (runes _) = l
          rw [he, ih.1, List.take_append_drop]
        · simp only [List.mem_cons] at hr
          rcases hr with rfl | hr
          · rw [decodeL_N] at hc ⊢
            rcases decodeN_shape l.length (l.getD 0 0).toNat (l.getD 1 0).toNat (l.getD 2 0).toNat (l.getD 3 0).toNat with ⟨c, e⟩ | ⟨c1, c2, c3, cv, e⟩ | ⟨c1, c2, c3, c4, cv, cs, e⟩ | ⟨c1, c2, c3, c4, c5, cv, cw, e⟩ | e
            · rw [e]; left; show _ < 55296; omega
            · rw [e]; left; show _ < 55296; omega
            · rw [e]
              rcases cs with cs | cs
              · left; exact cs
              · right; exact ⟨cs, by show _ ≤ 1114111; omega⟩
            · rw [e]; right; exact ⟨by show 57344 ≤ _; omega, cw⟩
            · rw [e] at hc; exact absurd ⟨rfl, rfl⟩ hc
          · exact ih.2 r hr
/-- What was written is read as it was. -/
theorem back_all (l : List UInt8) (h : validD l = true) : looseF (encS l) = some l := by
  obtain ⟨h1, h2⟩ := text_runes l.length l (Nat.le_refl _) h
  have := enc_back (runes l) [] (fun _ h => by simp at h) h2
  rw [show ([] : List Nat).flatMap units = [] from rfl, show text [] = [] from rfl, List.nil_append, h1] at this
  exact this
theorem enc_inj {l m : List UInt8} (hl : validD l = true) (hm : validD m = true) (h : encS l = encS m) : l = m := by
  have a := back_all l hl
  rw [h, back_all m hm] at a
  exact (Option.some.inj a).symm
/-- It has plain bytes alone. -/
theorem enc_plain (rs : List Nat) : ∀ (u : List Nat), ∀ c ∈ enc u rs, 32 ≤ c.toNat ∧ c.toNat ≤ 126 := by
  have shutP : ∀ (u : List Nat), ∀ c ∈ (if u = [] then [] else run64 u), 32 ≤ c.toNat ∧ c.toNat ≤ 126 := by
    intro u c hc
    split at hc
    · simp at hc
    · simp only [run64, List.cons_append, List.mem_cons, List.mem_append, List.not_mem_nil, or_false] at hc
      rcases hc with rfl | hc | rfl
      · decide
      · exact (grp_plain _ _ (Nat.le_refl _) (bits_append (ubits_bits _) (pad_bits _)) c hc).2.2
      · decide
  induction rs with
  | nil => intro u c hc; exact shutP u c hc
  | cons r rs ih =>
    intro u c hc
    rw [enc] at hc
    split at hc
    · rename_i hp
      simp only [List.mem_append] at hc
      rcases hc with (hc | hc) | hc
      · exact shutP u c hc
      · unfold plainB at hc
        split at hc
        · simp at hc
          rcases hc with rfl | rfl <;> decide
        · simp at hc
          subst hc
          simp only [plainR, Bool.and_eq_true, decide_eq_true_eq] at hp
          simp [UInt8.toNat_ofNat]
          omega
      · exact ih [] c hc
    · exact ih _ c hc
end Go.Proofs.YtkmggkcipgfhdaaDoor
