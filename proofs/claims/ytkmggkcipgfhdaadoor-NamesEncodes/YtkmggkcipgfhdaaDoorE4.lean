/- What this text holds: digits of base 64, and letters of units: the document's way. -/
import Derived.Test.YtkmggkcipgfhdaaDoorE3
namespace Go.Proofs.YtkmggkcipgfhdaaDoor
open Go.RowKit
set_option linter.unusedVariables false
set_option linter.unusedSimpArgs false

def digI (c : UInt8) : Int := match dig64 c with | none => -1 | some d => (d : Int)
theorem digI_hit {c : UInt8} {k : Nat} (hk : k < 64) (h : let64 k = c) : digI c = k := by
  unfold digI
  have := dig_let ⟨k, hk⟩
  simp only [h] at this
  rw [this]
theorem digI_miss {c : UInt8} (h : ∀ j < 64, let64 j ≠ c) : digI c = -1 := by
  unfold digI
  have : dig64 c = none := by
    unfold dig64
    rw [List.find?_eq_none]
    intro j hj
    have := h j (List.mem_range.1 hj)
    simpa using this
  rw [this]
theorem str_zero (x : UInt8) : ∀ h, ((str [x])[0]'h).toNat = x.toNat := fun _ => rfl

set_option maxRecDepth 100000 in
set_option maxHeartbeats 1000000 in
theorem digit_any (c : UInt8) (w : World) : Calls Tryd.prog 46 #[.int .u8 c.toNat] w fun e w' => e = .returned (.int .i64 (digI c)) ∧ w' = w := by
  go_enter Tryd.func46, Tryd.ntmps46
  go_wp2_with fail
  go_loop [3] (fun i => ∃ k : Nat, k ≤ 64 ∧ i = .int .i64 k ∧ ∀ j < k, let64 j ≠ c) (fun i => 64 - (intOf i).toNat)
  case atStart => exact ⟨0, by omega, rfl, fun j h => by omega⟩
  case round =>
    obtain ⟨k, hk, rfl, ha⟩ := hrel
    have HA := hid ha
    clear ha
    by_cases hlt : k < 64
    · have hlt' : (k : Int) < 64 := by omega
      have h1 : (0 : Int) < (str [let64 k]).size := by rw [str_size]; simp
      have h2 : 0 < (str [let64 k]).size := by rw [str_size]; simp
      have h3 := str_zero (let64 k) h2
      have C := letter62 (k : Int) (by omega) (by omega) w
      rw [Int.toNat_natCast] at C
      have HC := hid C
      clear C
      by_cases he : let64 k = c
      · have hq : (((let64 k).toNat : Int) == (c.toNat : Int)) = true := by rw [he]; simp
        have HD := hid (digI_hit hlt he)
        clear he
        go_wp2_with fail
        refine HC.out.mono ?_
        rintro e w1 ⟨rfl, rfl⟩
        go_wp2_with fail
        go_ret
        rw [HD.out]
        exact ⟨rfl, rfl⟩
      · have hq : (((let64 k).toNat : Int) == (c.toNat : Int)) = false := by
          rw [beq_eq_false_iff_ne]
          exact fun e => he (UInt8.toNat_inj.1 (by omega))
        have HNe := hid he
        clear he
        go_wp2_with fail
        refine HC.out.mono ?_
        rintro e w1 ⟨rfl, rfl⟩
        go_wp2_with fail
        go_round
        case rel => exact ⟨k + 1, by omega, by go_num, fun j hj => by
          by_cases e : j = k
          · subst e; exact HNe.out
          · exact HA.out j (by omega)⟩
        case measure => simp [intOf]; omega
    · have HD := hid (digI_miss (c := c) (fun j hj => HA.out j (by omega)))
      go_wp2_with fail
      go_ret
      rw [HD.out]
      exact ⟨rfl, rfl⟩

/-- Letters of units, as the document has them. -/
def letsR : List Nat → List UInt8
  | [] => []
  | [a] => Go.Lib.encodeRune (a : Int)
  | a :: b :: t => if (55296 ≤ a ∧ a < 56320) ∧ (56320 ≤ b ∧ b < 57344) then Go.Lib.encodeRune (65536 + ((a : Int) - 55296) * 1024 + (b : Int) - 56320) ++ letsR t else Go.Lib.encodeRune (a : Int) ++ letsR (b :: t)
theorem enc_len4 (r : Int) : (Go.Lib.encodeRune r).length ≤ 4 := by
  have := (Go.Lib.encodeRuneZ_length r).2
  simpa [Go.Lib.encodeRune] using this
theorem letsR_len : ∀ l : List Nat, (letsR l).length ≤ 4 * l.length
  | [] => by simp [letsR]
  | [a] => by simp only [letsR, List.length_cons, List.length_nil]; have := enc_len4 (a : Int); omega
  | a :: b :: t => by
    unfold letsR
    split
    · have h1 := letsR_len t
      have h2 := enc_len4 (65536 + ((a : Int) - 55296) * 1024 + (b : Int) - 56320)
      simp only [List.length_append, List.length_cons]
      omega
    · have h1 := letsR_len (b :: t)
      have h2 := enc_len4 (a : Int)
      simp only [List.length_append, List.length_cons] at h1 ⊢
      omega
theorem letsR_pair {a b : Nat} {t : List Nat} (h : (55296 ≤ a ∧ a < 56320) ∧ (56320 ≤ b ∧ b < 57344)) : letsR (a :: b :: t) = Go.Lib.encodeRune (65536 + ((a : Int) - 55296) * 1024 + (b : Int) - 56320) ++ letsR t := by rw [letsR, if_pos h]
theorem letsR_one {a : Nat} {t : List Nat} (h : ∀ b t', t = b :: t' → ¬ ((55296 ≤ a ∧ a < 56320) ∧ (56320 ≤ b ∧ b < 57344))) : letsR (a :: t) = Go.Lib.encodeRune (a : Int) ++ letsR t := by
  cases t with
  | nil => simp [letsR]
  | cons b t' => rw [letsR, if_neg (h b t' rfl)]
theorem encode_str (r : Int) : Utf8.encode r = str (Go.Lib.encodeRune r) := by rw [← enc_rune, str_of]

set_option maxRecDepth 100000 in
set_option maxHeartbeats 4000000 in
theorem letters_any {w : World} {v : Value} {l : List Nat} (h : IL w v l) (hl : l.length ≤ 10000) (hu : ∀ u ∈ l, u < 65536) :
    Calls Tryd.prog 47 #[v] w fun e w' => e = .returned (.string (str (letsR l))) ∧ Below w.heap.size w w' := by
  obtain ⟨a, c, rfl, _⟩ := id h
  have H := hid h
  have HU := hid hu
  have hll := letsR_len l
  clear h hu
  generalize hn : l.length = n at *
  have HN := hid hn
  clear hn
  go_enter Tryd.func47, Tryd.ntmps47
  go_wp2_with fail
  go_loopw [3, 4] (fun s i wr => ∃ (k : Nat) (o : List UInt8), k ≤ n ∧ i = .int .i64 k ∧ s = .string (str o) ∧ o ++ letsR (l.drop k) = letsR l ∧ Below w.heap.size w wr) (fun _ i _ => n - (intOf i).toNat)
  case atStart => exact ⟨0, [], by omega, rfl, rfl, rfl, Below.refl _ _⟩
  case round =>
    obtain ⟨k, o, hk, rfl, rfl, ho, hb⟩ := hrel
    have HO := hid ho
    have HB := hid hb
    have hol : o.length ≤ 40000 := by
      have := congrArg List.length ho
      rw [List.length_append] at this
      omega
    have hosz : (str o).size ≤ 40000 := by rw [str_size]; exact hol
    clear ho hb
    by_cases hlt : k < n
    · have hlt' : (k : Int) < n := by omega
      have hkl : k < l.length := by rw [HN.out]; exact hlt
      obtain ⟨g, oo, rfl, hc0⟩ := (H.out.later HB.out).at k hkl
      have hx := HU.out _ (List.getElem_mem hkl)
      have HD : Hid (l.drop k = l[k] :: l.drop (k + 1)) := List.drop_eq_getElem_cons hkl
      generalize l[k]'hkl = x at hc0 hx HD
      by_cases hpair : (55296 ≤ x ∧ x < 56320) ∧ k + 1 < n
      · obtain ⟨⟨hx1, hx2⟩, hk1⟩ := hpair
        have hk1' : (k : Int) + 1 < n := by omega
        have hkl1 : k + 1 < l.length := by rw [HN.out]; exact hk1
        have hc1 : wr.cell? ⟨g, oo + (k + 1), none⟩ = some (.int .i64 (l[k + 1]'hkl1 : Nat)) := by
          obtain ⟨g', o', e, hc⟩ := (H.out.later HB.out).at (k + 1) hkl1
          simp only [Option.some.injEq, Addr.mk.injEq, and_true] at e
          obtain ⟨rfl, rfl⟩ := e
          exact hc
        have hy := HU.out _ (List.getElem_mem hkl1)
        have HD1 : Hid (l.drop (k + 1) = l[k + 1] :: l.drop (k + 1 + 1)) := List.drop_eq_getElem_cons hkl1
        generalize l[k + 1]'hkl1 = y at hc1 hy HD1
        have hx1' : (55296 : Int) ≤ x := by omega
        have hx2' : (x : Int) < 56320 := by omega
        by_cases hy2 : 56320 ≤ y ∧ y < 57344
        · have HStr : Hid (str o ++ Utf8.encode (65536 + ((x : Int) - 55296) * 1024 + (y : Int) - 56320) = str (o ++ Go.Lib.encodeRune (65536 + ((x : Int) - 55296) * 1024 + (y : Int) - 56320))) := by
            rw [Hid, encode_str, app_str, str_data, str_data]
          have HOn : Hid ((o ++ Go.Lib.encodeRune (65536 + ((x : Int) - 55296) * 1024 + (y : Int) - 56320)) ++ letsR (l.drop (k + 1 + 1)) = letsR l) := by
            have := HO.out
            rw [HD.out, HD1.out, letsR_pair ⟨⟨hx1, hx2⟩, hy2⟩] at this
            rw [Hid, List.append_assoc]
            exact this
          have hy3 : (56320 : Int) ≤ y := by omega
          have hy4 : (y : Int) < 57344 := by omega
          have hes := enc_size (65536 + ((x : Int) - 55296) * 1024 + (y : Int) - 56320)
          have w1 : IntKind.i64.wrap ((x : Int) - 55296) = (x : Int) - 55296 := by rw [IntKind.wrap_i64]; omega
          have w2 : IntKind.i64.wrap (((x : Int) - 55296) * 1024) = ((x : Int) - 55296) * 1024 := by rw [IntKind.wrap_i64]; omega
          have w3 : IntKind.i64.wrap (65536 + ((x : Int) - 55296) * 1024) = 65536 + ((x : Int) - 55296) * 1024 := by rw [IntKind.wrap_i64]; omega
          have w4 : IntKind.i64.wrap (65536 + ((x : Int) - 55296) * 1024 + (y : Int)) = 65536 + ((x : Int) - 55296) * 1024 + (y : Int) := by rw [IntKind.wrap_i64]; omega
          have w5 : IntKind.i64.wrap (65536 + ((x : Int) - 55296) * 1024 + (y : Int) - 56320) = 65536 + ((x : Int) - 55296) * 1024 + (y : Int) - 56320 := by rw [IntKind.wrap_i64]; omega
          have w6 : IntKind.i32.wrap (65536 + ((x : Int) - 55296) * 1024 + (y : Int) - 56320) = 65536 + ((x : Int) - 55296) * 1024 + (y : Int) - 56320 := by rw [IntKind.wrap_i32]; omega
          have w7 : IntKind.i64.wrap ((k : Int) + 1) = (k : Int) + 1 := by rw [IntKind.wrap_i64]; omega
          have w8 : (0 : Int) ≤ (k : Int) + 1 := by omega
          have w9 : ((k : Int) + 1).toNat = k + 1 := by omega
          have hsum : (str o).size + (Utf8.encode (65536 + ((x : Int) - 55296) * 1024 + (y : Int) - 56320)).size ≤ 9223372036854775807 := by omega
          have wstr : ∀ W : World, (Op.stringOp .add (str o) (Utf8.encode (65536 + ((x : Int) - 55296) * 1024 + (y : Int) - 56320))).run Tryd.prog W = .ok (.string (str o ++ Utf8.encode (65536 + ((x : Int) - 55296) * 1024 + (y : Int) - 56320))) W := fun W => run_string_add_sum W _ _ hsum
          go_wp2_with fail
          go_quiet (fail)
          clear w1 w2 w3 w4 w5 w6 w7 w8 w9 wstr
          go_wp2_with fail
          go_roundw
          case rel => exact ⟨k + 1 + 1, _, by omega, by go_num, by rw [← HStr.out], HOn.out, below_drewN HB.out _⟩
          case measure => simp [intOf]; omega
        · by_cases hy3 : (56320 : Int) ≤ y
          · have hy4 : ¬ (y : Int) < 57344 := by omega
            have HStr : Hid (str o ++ Utf8.encode (x : Int) = str (o ++ Go.Lib.encodeRune (x : Int))) := by
              rw [Hid, encode_str, app_str, str_data, str_data]
            have HOn : Hid ((o ++ Go.Lib.encodeRune (x : Int)) ++ letsR (l.drop (k + 1)) = letsR l) := by
              have := HO.out
              rw [HD.out, letsR_one (fun b t' e => by rw [HD1.out] at e; cases e; omega)] at this
              rw [Hid, List.append_assoc]
              exact this
            have hes := enc_size (x : Int)
            go_wp2_with fail
            go_roundw
            case rel => exact ⟨k + 1, _, by omega, by go_num, by rw [← HStr.out], HOn.out, HB.out⟩
            case measure => simp [intOf]; omega
          · have HStr : Hid (str o ++ Utf8.encode (x : Int) = str (o ++ Go.Lib.encodeRune (x : Int))) := by
              rw [Hid, encode_str, app_str, str_data, str_data]
            have HOn : Hid ((o ++ Go.Lib.encodeRune (x : Int)) ++ letsR (l.drop (k + 1)) = letsR l) := by
              have := HO.out
              rw [HD.out, letsR_one (fun b t' e => by rw [HD1.out] at e; cases e; omega)] at this
              rw [Hid, List.append_assoc]
              exact this
            have hes := enc_size (x : Int)
            go_wp2_with fail
            go_roundw
            case rel => exact ⟨k + 1, _, by omega, by go_num, by rw [← HStr.out], HOn.out, HB.out⟩
            case measure => simp [intOf]; omega
      · by_cases hx1 : (55296 : Int) ≤ x
        · by_cases hx2 : (x : Int) < 56320
          · have hk1 : ¬ (k : Int) + 1 < n := by omega
            have HStr : Hid (str o ++ Utf8.encode (x : Int) = str (o ++ Go.Lib.encodeRune (x : Int))) := by
              rw [Hid, encode_str, app_str, str_data, str_data]
            have HOn : Hid ((o ++ Go.Lib.encodeRune (x : Int)) ++ letsR (l.drop (k + 1)) = letsR l) := by
              have := HO.out
              rw [HD.out, letsR_one (fun b t' e => by intro hh; have hlen := congrArg List.length e; rw [List.length_drop, HN.out, List.length_cons] at hlen; omega)] at this
              rw [Hid, List.append_assoc]
              exact this
            have hes := enc_size (x : Int)
            go_wp2_with fail
            go_roundw
            case rel => exact ⟨k + 1, _, by omega, by go_num, by rw [← HStr.out], HOn.out, HB.out⟩
            case measure => simp [intOf]; omega
          · have HStr : Hid (str o ++ Utf8.encode (x : Int) = str (o ++ Go.Lib.encodeRune (x : Int))) := by
              rw [Hid, encode_str, app_str, str_data, str_data]
            have HOn : Hid ((o ++ Go.Lib.encodeRune (x : Int)) ++ letsR (l.drop (k + 1)) = letsR l) := by
              have := HO.out
              rw [HD.out, letsR_one (fun b t' e => by intro hh; have hlen := congrArg List.length e; rw [List.length_drop, HN.out, List.length_cons] at hlen; omega)] at this
              rw [Hid, List.append_assoc]
              exact this
            have hes := enc_size (x : Int)
            go_wp2_with fail
            go_roundw
            case rel => exact ⟨k + 1, _, by omega, by go_num, by rw [← HStr.out], HOn.out, HB.out⟩
            case measure => simp [intOf]; omega
        · have HStr : Hid (str o ++ Utf8.encode (x : Int) = str (o ++ Go.Lib.encodeRune (x : Int))) := by
            rw [Hid, encode_str, app_str, str_data, str_data]
          have HOn : Hid ((o ++ Go.Lib.encodeRune (x : Int)) ++ letsR (l.drop (k + 1)) = letsR l) := by
            have := HO.out
            rw [HD.out, letsR_one (fun b t' e => by intro hh; have hlen := congrArg List.length e; rw [List.length_drop, HN.out, List.length_cons] at hlen; omega)] at this
            rw [Hid, List.append_assoc]
            exact this
          have hes := enc_size (x : Int)
          go_wp2_with fail
          go_roundw
          case rel => exact ⟨k + 1, _, by omega, by go_num, by rw [← HStr.out], HOn.out, HB.out⟩
          case measure => simp [intOf]; omega
    · have HF : Hid (str o = str (letsR l)) := by
        have := HO.out
        rw [List.drop_eq_nil_of_le (by rw [HN.out]; omega), letsR, List.append_nil] at this
        rw [Hid, this]
      go_wp2_with fail
      go_ret
      rw [← HF.out]
      exact ⟨rfl, HB.out⟩
end Go.Proofs.YtkmggkcipgfhdaaDoor
