/- What this text holds: the document's digits, = with two digits, small letters, bytes as letters. -/
import Derived.Test.YtaniljfjmbifnaaGreatDoorWX
namespace Go.Proofs.YtaniljfjmbifnaaGreatDoor.W
open Go.RowKit
set_option linter.unusedVariables false
set_option linter.unusedSimpArgs false

def hexN (n : Nat) : Int := if 48 ≤ n ∧ n ≤ 57 then (n : Int) - 48 else if 65 ≤ n ∧ n ≤ 70 then (n : Int) - 55 else if 97 ≤ n ∧ n ≤ 102 then (n : Int) - 87 else -1
theorem hex_all : ∀ n : Fin 256, hex (UInt8.ofNat n.val) = hexN n.val := by decide +kernel
theorem hex_is (c : UInt8) : hex c = hexN c.toNat := by
  have := hex_all ⟨c.toNat, c.toNat_lt⟩
  simpa only [u8_of] using this
set_option maxRecDepth 100000 in
set_option maxHeartbeats 1000000 in
theorem rhex_any (c : UInt8) (w : World) : Calls Tryz.prog 172 #[.int .u8 c.toNat] w fun e w' => e = .returned (.int .i64 (hex c)) ∧ w' = w := by
  have h8 := c.toNat_lt
  rw [hex_is]
  generalize c.toNat = x at *
  by_cases h1 : 48 ≤ x ∧ x ≤ 57
  · have e : hexN x = (x : Int) - 48 := by unfold hexN; rw [if_pos h1]
    have a1 : (48 : Int) ≤ x := by omega
    have a2 : (x : Int) ≤ 57 := by omega
    rw [e]
    clear h1 e
    go_enter Tryz.func172, Tryz.ntmps172
    go_wp2_with fail
    go_ret
    exact ⟨rfl, rfl⟩
  · by_cases h2 : 65 ≤ x ∧ x ≤ 70
    · have e : hexN x = (x : Int) - 55 := by unfold hexN; rw [if_neg h1, if_pos h2]
      have a1 : (48 : Int) ≤ x := by omega
      have a2 : ¬ (x : Int) ≤ 57 := by omega
      have a3 : (65 : Int) ≤ x := by omega
      have a4 : (x : Int) ≤ 70 := by omega
      rw [e]
      clear h1 h2 e
      go_enter Tryz.func172, Tryz.ntmps172
      go_wp2_with fail
      go_ret
      exact ⟨rfl, rfl⟩
    · by_cases h3 : 97 ≤ x ∧ x ≤ 102
      · have e : hexN x = (x : Int) - 87 := by unfold hexN; rw [if_neg h1, if_neg h2, if_pos h3]
        have a1 : (48 : Int) ≤ x := by omega
        have a2 : ¬ (x : Int) ≤ 57 := by omega
        have a3 : (65 : Int) ≤ x := by omega
        have a4 : ¬ (x : Int) ≤ 70 := by omega
        have a5 : (97 : Int) ≤ x := by omega
        have a6 : (x : Int) ≤ 102 := by omega
        rw [e]
        clear h1 h2 h3 e
        go_enter Tryz.func172, Tryz.ntmps172
        go_wp2_with fail
        go_ret
        exact ⟨rfl, rfl⟩
      · have e : hexN x = -1 := by unfold hexN; rw [if_neg h1, if_neg h2, if_neg h3]
        rw [e]
        clear e
        have b1 : (x < 48) ∨ (57 < x ∧ x < 65) ∨ (70 < x ∧ x < 97) ∨ 102 < x := by omega
        clear h1 h2 h3
        rcases b1 with h | ⟨h, h'⟩ | ⟨h, h'⟩ | h
        · have a1 : ¬ (48 : Int) ≤ x := by omega
          have a3 : ¬ (65 : Int) ≤ x := by omega
          have a5 : ¬ (97 : Int) ≤ x := by omega
          go_enter Tryz.func172, Tryz.ntmps172
          go_wp2_with fail
          go_ret
          exact ⟨rfl, rfl⟩
        · have a1 : (48 : Int) ≤ x := by omega
          have a2 : ¬ (x : Int) ≤ 57 := by omega
          have a3 : ¬ (65 : Int) ≤ x := by omega
          have a5 : ¬ (97 : Int) ≤ x := by omega
          go_enter Tryz.func172, Tryz.ntmps172
          go_wp2_with fail
          go_ret
          exact ⟨rfl, rfl⟩
        · have a1 : (48 : Int) ≤ x := by omega
          have a2 : ¬ (x : Int) ≤ 57 := by omega
          have a3 : (65 : Int) ≤ x := by omega
          have a4 : ¬ (x : Int) ≤ 70 := by omega
          have a5 : ¬ (97 : Int) ≤ x := by omega
          go_enter Tryz.func172, Tryz.ntmps172
          go_wp2_with fail
          go_ret
          exact ⟨rfl, rfl⟩
        · have a1 : (48 : Int) ≤ x := by omega
          have a2 : ¬ (x : Int) ≤ 57 := by omega
          have a3 : (65 : Int) ≤ x := by omega
          have a4 : ¬ (x : Int) ≤ 70 := by omega
          have a5 : (97 : Int) ≤ x := by omega
          have a6 : ¬ (x : Int) ≤ 102 := by omega
          go_enter Tryz.func172, Tryz.ntmps172
          go_wp2_with fail
          go_ret
          exact ⟨rfl, rfl⟩

theorem take3 (s : Bs) (k : Nat) (h : k + 2 < s.length) : (s.drop k).take 3 = [s[k], s[k + 1], s[k + 2]] := by
  rw [List.drop_eq_getElem_cons (by omega), List.drop_eq_getElem_cons (by omega), List.drop_eq_getElem_cons (by omega)]
  rfl
theorem coded_eq {a b c : UInt8} (h : a = 61) : coded [a, b, c] = if 0 ≤ hex b ∧ 0 ≤ hex c then some (UInt8.ofNat (16 * (hex b).toNat + (hex c).toNat)) else none := by
  subst h
  simp [coded]
theorem coded_short {l : Bs} (h : l.length ≠ 3) : coded l = none := by
  rcases hc : coded l with _ | x
  · rfl
  · exact absurd (coded_len hc) h
theorem coded_one {l : Bs} {c : UInt8} {r : Bs} (h : l = c :: r) (hc : c ≠ 61) : coded (l.take 3) = none := by
  subst h
  match r with
  | [] => rfl
  | [a] => rfl
  | a :: b :: r => simp [coded, hc]

set_option maxRecDepth 100000 in
set_option maxHeartbeats 1000000 in
theorem escape_any (s : Bs) (k : Nat) (w : World) (hs : s.length ≤ 1000000) (hk : k < s.length) : Calls Tryz.prog 171 #[.string (str s), .int .i64 k] w fun e w' => e = .returned (.bool (coded ((s.drop k).take 3)).isSome) ∧ w' = w := by
  have hsz := str_size s
  have hks : k < (str s).size := by omega
  have g0 : ((str s)[k]'hks) = s[k] := rfl
  have hk' : (k : Int) < s.length := by omega
  by_cases h1 : s[k] = 61
  · have n1 : ((s[k].toNat : Int) == 61) = true := by rw [h1]; rfl
    by_cases h2 : k + 2 < s.length
    · have h2' : (k : Int) + 2 < s.length := by omega
      have g1 : ((str s)[k + 1]'(by omega)) = s[k + 1] := rfl
      have g2 : ((str s)[k + 2]'(by omega)) = s[k + 2] := rfl
      have HC : Hid (coded ((s.drop k).take 3) = if 0 ≤ hex s[k + 1] ∧ 0 ≤ hex s[k + 2] then some (UInt8.ofNat (16 * (hex s[k + 1]).toNat + (hex s[k + 2]).toNat)) else none) := by
        rw [Hid, take3 s k h2]
        exact coded_eq h1
      have C1 := rhex_any s[k + 1] w
      have C2 := rhex_any s[k + 2] w
      generalize hex s[k + 1] = x at *
      generalize hex s[k + 2] = y at *
      by_cases h3 : 0 ≤ x
      · by_cases h4 : 0 ≤ y
        · have HE : Hid ((coded ((s.drop k).take 3)).isSome = true) := by rw [Hid, HC.out, if_pos ⟨h3, h4⟩]; rfl
          go_enter Tryz.func171, Tryz.ntmps171
          go_wp2_with fail
          refine C1.mono ?_
          rintro e w2 ⟨rfl, rfl⟩
          go_wp2_with fail
          refine C2.mono ?_
          rintro e w2 ⟨rfl, rfl⟩
          go_wp2_with fail
          go_ret
          rw [HE.out]
          exact ⟨rfl, rfl⟩
        · have HE : Hid ((coded ((s.drop k).take 3)).isSome = false) := by rw [Hid, HC.out, if_neg (by omega)]; rfl
          go_enter Tryz.func171, Tryz.ntmps171
          go_wp2_with fail
          refine C1.mono ?_
          rintro e w2 ⟨rfl, rfl⟩
          go_wp2_with fail
          refine C2.mono ?_
          rintro e w2 ⟨rfl, rfl⟩
          go_wp2_with fail
          go_ret
          rw [HE.out]
          refine ⟨?_, rfl⟩
          show Ending.returned (.bool (decide (0 ≤ y))) = _
          rw [decide_eq_false (by omega)]
      · have HE : Hid ((coded ((s.drop k).take 3)).isSome = false) := by rw [Hid, HC.out, if_neg (by omega)]; rfl
        go_enter Tryz.func171, Tryz.ntmps171
        go_wp2_with fail
        refine C1.mono ?_
        rintro e w2 ⟨rfl, rfl⟩
        go_wp2_with fail
        go_ret
        rw [HE.out]
        exact ⟨rfl, rfl⟩
    · have h2' : ¬ (k : Int) + 2 < s.length := by omega
      have HE : Hid ((coded ((s.drop k).take 3)).isSome = false) := by
        rw [Hid, coded_short (by rw [List.length_take, List.length_drop]; omega)]
        rfl
      go_enter Tryz.func171, Tryz.ntmps171
      go_wp2_with fail
      go_ret
      rw [HE.out]
      exact ⟨rfl, rfl⟩
  · have n1 : ((s[k].toNat : Int) == 61) = false := by
      have : s[k].toNat ≠ 61 := fun h => h1 (UInt8.toNat_inj.1 h)
      simp; omega
    have HE : Hid ((coded ((s.drop k).take 3)).isSome = false) := by
      rw [Hid, coded_one (List.drop_eq_getElem_cons hk) h1]
      rfl
    go_enter Tryz.func171, Tryz.ntmps171
    go_wp2_with fail
    go_ret
    rw [HE.out]
    exact ⟨rfl, rfl⟩

theorem small_wrap (c : UInt8) (h : 65 ≤ c.toNat ∧ c.toNat ≤ 90) : ((c.toNat : Int) + 32) = ((small c).toNat : Int) := by
  rw [small_nat, if_pos h]; omega

set_option maxRecDepth 100000 in
set_option maxHeartbeats 1000000 in
theorem rlower_any (l : Bs) (w : World) (hs : l.length ≤ 10000000) : Calls Tryz.prog 21 #[.string (str l)] w fun e w' => e = .returned (.string (str (low l))) ∧ Below w.heap.size w w' := by
  obtain ⟨W, c, hcv, hu, hb⟩ := to_bytes (str l) w
  rw [str_data] at hu
  rw [str_size] at hcv
  have HU := hid hu
  have HB := hid hb
  clear hu hb
  go_enter Tryz.func21, Tryz.ntmps21
  go_wp2_with fail
  go_loopw [4] (fun i wr => ∃ k : Nat, k ≤ l.length ∧ i = .int .i64 k ∧ UpAt wr w.heap.size (half l k) ∧ Below w.heap.size w wr) (fun i _ => l.length - (intOf i).toNat)
  case atStart => exact ⟨0, by omega, rfl, HU.out, HB.out⟩
  case round =>
    obtain ⟨k, hk, rfl, hr, hb⟩ := hrel
    have HR := hid hr
    have HBr := hid hb
    clear hr hb hcv
    by_cases hlt : k < l.length
    · have hlt' : (k : Int) < l.length := by omega
      have hkh : k < (half l k).length := by rw [half_len]; exact hlt
      obtain ⟨hc, hf⟩ := HR.out.cell k hkh
      rw [half_at _ _ hlt hkh] at hc
      have HX := hid (half_next l k hlt)
      have hx8 := (l[k]).toNat_lt
      by_cases hlow : 65 ≤ (l[k]).toNat ∧ (l[k]).toNat ≤ 90
      · have hl1 : ((65 : Int) ≤ (l[k]).toNat) := by omega
        have hl2 : (((l[k]).toNat : Int) ≤ 90) := by omega
        have hnum := small_wrap l[k] hlow
        have HST : Hid (UpAt (wr.setCell ⟨w.heap.size, k, none⟩ (.int .u8 (small l[k]).toNat)) w.heap.size (half l (k + 1))) := by
          rw [Hid, HX.out]
          exact HR.out.set k hkh _
        clear hlow
        generalize (small l[k]).toNat = y at hnum HST
        generalize (l[k]).toNat = x at *
        go_wp2_with fail
        go_roundw
        case rel => exact ⟨k + 1, by omega, by go_num, HST.out, HBr.out.setCell (Nat.le_refl _) _⟩
        case measure => simp [intOf]; omega
      · have HK : Hid (half l (k + 1) = half l k) := by
          rw [Hid, HX.out]
          unfold small
          rw [if_neg hlow]
          have := set_same (half l k) k hkh
          rw [half_at _ _ hlt hkh] at this
          exact this
        generalize (l[k]).toNat = x at *
        rcases Nat.lt_or_ge x 65 with h1 | h1
        · have h1' : ¬ (65 : Int) ≤ x := by omega
          clear hlow
          go_wp2_with fail
          go_roundw
          case rel => exact ⟨k + 1, by omega, by go_num, by rw [HK.out]; exact HR.out, HBr.out⟩
          case measure => simp [intOf]; omega
        · have h1' : (65 : Int) ≤ x := by omega
          have h2' : ¬ (x : Int) ≤ 90 := by omega
          clear hlow
          go_wp2_with fail
          go_roundw
          case rel => exact ⟨k + 1, by omega, by go_num, by rw [HK.out]; exact HR.out, HBr.out⟩
          case measure => simp [intOf]; omega
    · have HA := hid (half_all l k (by omega))
      have hcv : (convert 57 9 (.slice (some ⟨w.heap.size, 0, none⟩) l.length c)).run Tryz.prog wr = .ok (.string (str (half l k))) wr := by
        have := HR.out.conv (c := c)
        rw [half_len] at this
        exact this
      go_wp2_with fail
      go_ret
      rw [HA.out]
      exact ⟨rfl, HBr.out⟩

theorem enc_all : ∀ n : Fin 256, Utf8.encode (n.val : Int) = str (Go.Lib.encodeRune (n.val : Int)) := by decide +kernel
theorem enc_is (c : UInt8) : Utf8.encode (c.toNat : Int) = str (Go.Lib.encodeRune (c.toNat : Int)) := enc_all ⟨c.toNat, c.toNat_lt⟩

set_option maxRecDepth 100000 in
set_option maxHeartbeats 1000000 in
theorem rlatin_any (l : Bs) (w : World) (hs : l.length ≤ 1000000) : Calls Tryz.prog 124 #[.string (str l)] w fun e w' => e = .returned (.string (str (latin l))) ∧ w' = w := by
  have hsz := str_size l
  go_enter Tryz.func124, Tryz.ntmps124
  go_wp2_with fail
  go_loop [3, 4] (fun v i => ∃ k : Nat, k ≤ l.length ∧ i = .int .i64 k ∧ v = .string (str (latin (l.take k)))) (fun _ i => l.length - (intOf i).toNat)
  case atStart => exact ⟨0, by omega, rfl, rfl⟩
  case round =>
    obtain ⟨k, hk, rfl, rfl⟩ := hrel
    have hln := latin_len (l.take k)
    rw [List.length_take] at hln
    have hss := str_size (latin (l.take k))
    by_cases hlt : k < l.length
    · have hlt' : (k : Int) < l.length := by omega
      have hlts : k < (str l).size := by omega
      have g : ((str l)[k]'hlts) = l[k] := rfl
      have h8 := l[k].toNat_lt
      have hw32 : wrap32 (l[k].toNat : Int) = (l[k].toNat : Int) := by unfold wrap32; omega
      have henc := enc_is l[k]
      have hel := rune_len (l[k].toNat : Int)
      have hes := str_size (Go.Lib.encodeRune (l[k].toNat : Int))
      have hlen2 : ((latin (l.take k)).length : Int) ≤ 4000000 := by omega
      have HN : Hid (str (latin (l.take k)) ++ str (Go.Lib.encodeRune (l[k].toNat : Int)) = str (latin (l.take (k + 1)))) := by rw [Hid, app_str, latin_next l k hlt]; rfl
      clear hln
      go_wp2_with fail
      go_round
      case rel => exact ⟨k + 1, by omega, by go_num, congrArg Value.string HN.out⟩
      case measure => simp [intOf]; omega
    · have hlt' : ¬ (k : Int) < l.length := by omega
      have HA : Hid (l.take k = l) := List.take_of_length_le (by omega)
      go_wp2_with fail
      go_ret
      rw [HA.out]
      exact ⟨rfl, rfl⟩
end Go.Proofs.YtaniljfjmbifnaaGreatDoor.W
