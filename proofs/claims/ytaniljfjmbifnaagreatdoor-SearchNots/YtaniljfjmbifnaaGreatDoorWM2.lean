/- What this text holds: three bytes are said as four letters; Base64. -/
import Derived.Test.YtaniljfjmbifnaaGreatDoorWM1
namespace Go.Proofs.YtaniljfjmbifnaaGreatDoor.W
open Go.RowKit
set_option linter.unusedVariables false
set_option linter.unusedSimpArgs false

theorem bits_or_u32 (a b : Nat) (ha : a < 4294967296) (hb : b < 4294967296) : Go.bits .or .u32 (a : Int) (b : Int) = ((a ||| b : Nat) : Int) := by
  have hx : a ||| b < 2 ^ 32 := Nat.or_lt_two_pow (by omega) (by omega)
  have h1 : (BitVec.ofInt 32 (a : Int)).toNat = a := by
    rw [BitVec.ofInt_natCast, BitVec.toNat_ofNat]; exact Nat.mod_eq_of_lt (by omega)
  have h2 : (BitVec.ofInt 32 (b : Int)).toNat = b := by
    rw [BitVec.ofInt_natCast, BitVec.toNat_ofNat]; exact Nat.mod_eq_of_lt (by omega)
  show IntKind.u32.wrap ((BitVec.ofInt 32 (a : Int) ||| BitVec.ofInt 32 (b : Int)).toNat : Int) = _
  rw [BitVec.toNat_or, h1, h2, IntKind.wrap_u32]
  omega
theorem bits_and_u32 (a b : Nat) (ha : a < 4294967296) (hb : b < 4294967296) : Go.bits .and .u32 (a : Int) (b : Int) = ((a &&& b : Nat) : Int) := by
  have hx : a &&& b < 2 ^ 32 := Nat.and_lt_two_pow _ (by omega)
  have h1 : (BitVec.ofInt 32 (a : Int)).toNat = a := by
    rw [BitVec.ofInt_natCast, BitVec.toNat_ofNat]; exact Nat.mod_eq_of_lt (by omega)
  have h2 : (BitVec.ofInt 32 (b : Int)).toNat = b := by
    rw [BitVec.ofInt_natCast, BitVec.toNat_ofNat]; exact Nat.mod_eq_of_lt (by omega)
  show IntKind.u32.wrap ((BitVec.ofInt 32 (a : Int) &&& BitVec.ofInt 32 (b : Int)).toNat : Int) = _
  rw [BitVec.toNat_and, h1, h2, IntKind.wrap_u32]
  omega
/-- The bits of the first bytes. -/
def valK (l : Bs) (k : Nat) : Nat := val (l.take k)

theorem valK_zero (x : Bs) : valK x 0 = 0 := by simp [valK, val]
theorem valK_all (x : Bs) : valK x x.length = val x := by simp [valK]
theorem valK_facts (x : Bs) (k : Nat) (hk : k < x.length) : (k = 0 → valK x 1 = x[k].toNat * 65536) ∧ (k = 1 → valK x 2 = valK x 1 + x[k].toNat * 256 ∧ ∃ q, q < 256 ∧ valK x 1 = 2 ^ 16 * q) ∧ (k = 2 → valK x 3 = valK x 2 + x[k].toNat ∧ ∃ q, q < 65536 ∧ valK x 2 = 2 ^ 8 * q) := by
  rcases cases3 x with rfl | ⟨a, rfl⟩ | ⟨a, b, rfl⟩ | ⟨a, b, c, t, rfl⟩
  · simp at hk
  · have ha := a.toNat_lt
    refine ⟨?_, ?_, ?_⟩
    · rintro rfl; simp [valK, val]
    · rintro rfl; simp at hk
    · rintro rfl; simp at hk
  · have ha := a.toNat_lt
    have hb := b.toNat_lt
    refine ⟨?_, ?_, ?_⟩
    · rintro rfl; simp [valK, val]
    · rintro rfl; exact ⟨by simp [valK, val], a.toNat, by omega, by simp [valK, val]; omega⟩
    · rintro rfl; simp at hk
  · have ha := a.toNat_lt
    have hb := b.toNat_lt
    have hc := c.toNat_lt
    refine ⟨?_, ?_, ?_⟩
    · rintro rfl; simp [valK, val]
    · rintro rfl; exact ⟨by simp [valK, val], a.toNat, by omega, by simp [valK, val]; omega⟩
    · rintro rfl; exact ⟨by simp [valK, val], a.toNat * 256 + b.toNat, by omega, by simp [valK, val]; omega⟩
theorem or_step (X q v n : Nat) (hX : X = 2 ^ n * q) (hv : v < 2 ^ n) (h1 : X < 4294967296) (h2 : v < 4294967296) : Go.bits .or .u32 (X : Int) (v : Int) = ((X + v : Nat) : Int) := by
  rw [bits_or_u32 _ _ h1 h2, hX, Nat.two_pow_add_eq_or_of_lt hv]
theorem str_get (x : Bs) (k : Nat) (h : k < (str x).size) (h' : k < x.length) : (str x)[k] = x[k] := rfl
theorem step0 (x : Bs) (hk : 0 < x.length) (c : UInt8) (hc : c = x[0]) : Go.bits .or .u32 (valK x 0 : Int) ((c.toNat : Int) % 4294967296 * 65536 % 4294967296) = (valK x 1 : Int) := by
  have h8 := x[0].toNat_lt
  have e := (valK_facts x 0 hk).1 rfl
  subst hc
  rw [valK_zero]
  have : ((x[0].toNat : Int) % (4294967296 : Int) * (65536 : Int) % (4294967296 : Int)) = ((x[0].toNat * 65536 : Nat) : Int) := by omega
  rw [this, or_step 0 0 _ 24 rfl (by omega) (by omega) (by omega), e]
  simp
theorem step1 (x : Bs) (hk : 1 < x.length) (c : UInt8) (hc : c = x[1]) : Go.bits .or .u32 (valK x 1 : Int) ((c.toNat : Int) % 4294967296 * 256 % 4294967296) = (valK x 2 : Int) := by
  have h8 := x[1].toNat_lt
  obtain ⟨e, q, hq, e2⟩ := (valK_facts x 1 hk).2.1 rfl
  subst hc
  have : ((x[1].toNat : Int) % (4294967296 : Int) * (256 : Int) % (4294967296 : Int)) = ((x[1].toNat * 256 : Nat) : Int) := by omega
  rw [this, or_step _ q _ 16 e2 (by omega) (by omega) (by omega), e]
theorem step2 (x : Bs) (hk : 2 < x.length) (c : UInt8) (hc : c = x[2]) : Go.bits .or .u32 (valK x 2 : Int) ((c.toNat : Int) % 4294967296) = (valK x 3 : Int) := by
  have h8 := x[2].toNat_lt
  obtain ⟨e, q, hq, e2⟩ := (valK_facts x 2 hk).2.2 rfl
  subst hc
  have : ((x[2].toNat : Int) % (4294967296 : Int)) = ((x[2].toNat : Nat) : Int) := by omega
  rw [this, or_step _ q _ 8 e2 (by omega) (by omega) (by omega), e]
def abcS : ByteArray := ⟨#[65, 66, 67, 68, 69, 70, 71, 72, 73, 74, 75, 76, 77, 78, 79, 80, 81, 82, 83, 84, 85, 86, 87, 88, 89, 90, 97, 98, 99, 100, 101, 102, 103, 104, 105, 106, 107, 108, 109, 110, 111, 112, 113, 114, 115, 116, 117, 118, 119, 120, 121, 122, 48, 49, 50, 51, 52, 53, 54, 55, 56, 57, 43, 47]⟩
theorem abc_data : abcS.data.toList = sixL := rfl
theorem abc_get (n : Nat) (h : n < abcS.size) : abcS[n] = let64 n := by
  unfold let64
  have h' : n < sixL.length := h
  rw [List.getD_eq_getElem?_getD, List.getElem?_eq_getElem h']
  rfl
theorem val_lt (x : Bs) : val x < 16777216 := by
  have h0 := (x.getD 0 0).toNat_lt
  have h1 := (x.getD 1 0).toNat_lt
  have h2 := (x.getD 2 0).toNat_lt
  unfold val
  omega
theorem and63 (X : Nat) (h : X < 16777216) : Go.bits .and .u32 (X : Int) 63 = ((X % 64 : Nat) : Int) := by
  have := bits_and_u32 X 63 (by omega) (by omega)
  rw [show (63 : Nat) = 2 ^ 6 - 1 by decide, Nat.and_two_pow_sub_one_eq_mod] at this
  exact this
theorem four_at (x : Bs) (k : Nat) (hk : k < 4) : (four x).take (k + 1) = (four x).take k ++ [if x.length < k then 61 else let64 (val x / 2 ^ (18 - 6 * k) % 64)] := by
  rw [List.take_succ_eq_append_getElem (by rw [four_length]; exact hk)]
  simp [four]

set_option maxRecDepth 100000 in
set_option maxHeartbeats 1000000 in
theorem sayFour_any {w : World} {B b : Nat} {l d : Bs} (h : RAt w B b l d) (x : Bs) (hx : x.length ≤ 3) (h1 : d.length ≤ 10000000) :
    Calls Tryz.prog 232 #[.pointer (some ⟨b, 0, none⟩), .string (str x)] w fun e w' => e = .returned (.tuple #[]) ∧ RAt w' B b l (d ++ four x) ∧ Below B w w' := by
  have H := hid h
  have hsz := str_size x
  clear h
  go_enter Tryz.func232, Tryz.ntmps232
  go_wp2_with fail
  go_loop [4, 9] (fun v i => ∃ k : Nat, k ≤ x.length ∧ i = .int .i64 k ∧ v = .int .u32 (valK x k)) (fun _ i => x.length - (intOf i).toNat)
  case atStart => exact ⟨0, by omega, rfl, by rw [valK_zero]; rfl⟩
  case round =>
    obtain ⟨k, hk, rfl, rfl⟩ := hrel
    by_cases hlt : k < x.length
    · have hlt' : (k : Int) < x.length := by omega
      have hk3 : k = 0 ∨ k = 1 ∨ k = 2 := by omega
      rcases hk3 with rfl | rfl | rfl
      · go_wp2_with fail
        go_round
        case rel => exact ⟨1, hlt, rfl, congrArg _ (step0 x hlt _ rfl)⟩
        case measure => simp [intOf]; omega
      · go_wp2_with fail
        go_round
        case rel => exact ⟨2, hlt, rfl, congrArg _ (step1 x hlt _ rfl)⟩
        case measure => simp [intOf]; omega
      · go_wp2_with fail
        go_round
        case rel => exact ⟨3, hlt, rfl, congrArg _ (step2 x hlt _ rfl)⟩
        case measure => simp [intOf]; omega
    · have hke : k = x.length := by omega
      subst hke
      rw [valK_all]
      have hv := val_lt x
      go_wp2_with fail
      go_loopw [23] (fun i wr => ∃ k : Nat, k ≤ 4 ∧ i = .int .i64 k ∧ RAt wr B b l (d ++ (four x).take k) ∧ Below B w wr) (fun i _ => 4 - (intOf i).toNat)
      case atStart => exact ⟨0, by omega, rfl, by simpa using H.out, Below.refl _ _⟩
      case round =>
        obtain ⟨k, hk, rfl, hr, hb⟩ := hrel
        have HR := hid hr
        have HB := hid hb
        clear hr hb
        by_cases hlt : k < 4
        · have HF := hid (four_at x k hlt)
          have hlt' : (k : Int) < 4 := by omega
          by_cases hg : x.length < k
          · have hg' : (x.length : Int) < k := by omega
            rw [if_pos hg] at HF
            go_wp2_with fail
            refine (sayByte_any HR.out 61 _ rfl (by simp; omega)).mono ?_
            rintro e w2 ⟨rfl, h2, hb2⟩
            have H2 := hid h2
            have HB2 := hid hb2
            clear h2 hb2
            go_wp2_with fail
            go_roundw
            case rel => exact ⟨k + 1, by omega, by go_num, by rw [HF.out, ← List.append_assoc]; exact H2.out, HB.out.trans HB2.out⟩
            case measure => simp [intOf]; omega
          · have hg' : ¬ (x.length : Int) < k := by omega
            rw [if_neg hg] at HF
            have hk4 : k = 0 ∨ k = 1 ∨ k = 2 ∨ k = 3 := by omega
            have hd : ∃ n : Nat, n < 64 ∧ let64 n = let64 (val x / 2 ^ (18 - 6 * k) % 64) ∧ (k = 0 → Go.bits .and .u32 ((val x : Int) / 262144) 63 = n) ∧ (k = 1 → Go.bits .and .u32 ((val x : Int) / 4096) 63 = n) ∧ (k = 2 → Go.bits .and .u32 ((val x : Int) / 64) 63 = n) ∧ (k = 3 → Go.bits .and .u32 (val x : Int) 63 = n) := by
              refine ⟨val x / 2 ^ (18 - 6 * k) % 64, Nat.mod_lt _ (by omega), rfl, ?_, ?_, ?_, ?_⟩
              · rintro rfl; exact and63 (val x / 262144) (by omega)
              · rintro rfl; exact and63 (val x / 4096) (by omega)
              · rintro rfl; exact and63 (val x / 64) (by omega)
              · rintro rfl
                have := and63 (val x) (by omega)
                rw [this]; simp
            obtain ⟨n, hn, hln, n0, n1, n2, n3⟩ := hd
            rw [← hln] at HF
            clear hln
            have HA : Hid (∀ h : n < abcS.size, ((abcS[n]'h).toNat : Int) = (let64 n).toNat) := fun h => by rw [abc_get]
            have hlast : ∀ (w2 : World), RAt w2 B b l (d ++ (four x).take k ++ [let64 n]) → RAt w2 B b l (d ++ (four x).take (k + 1)) := fun w2 h2 => by rw [HF.out, ← List.append_assoc]; exact h2
            have HL := hid hlast
            clear hlast HF
            rcases hk4 with rfl | rfl | rfl | rfl
            · have hb63 := n0 rfl
              clear n0 n1 n2 n3
              go_wp2_with fail
              refine (sayByte_any HR.out (let64 n) _ (HA.out hn) (by simp; omega)).mono ?_
              rintro e w2 ⟨rfl, h2, hb2⟩
              have H2 := hid h2
              have HB2 := hid hb2
              clear h2 hb2
              go_wp2_with fail
              go_roundw
              case rel => exact ⟨1, by omega, rfl, HL.out _ H2.out, HB.out.trans HB2.out⟩
              case measure => simp [intOf]
            · have hb63 := n1 rfl
              clear n0 n1 n2 n3
              go_wp2_with fail
              refine (sayByte_any HR.out (let64 n) _ (HA.out hn) (by simp; omega)).mono ?_
              rintro e w2 ⟨rfl, h2, hb2⟩
              have H2 := hid h2
              have HB2 := hid hb2
              clear h2 hb2
              go_wp2_with fail
              go_roundw
              case rel => exact ⟨2, by omega, rfl, HL.out _ H2.out, HB.out.trans HB2.out⟩
              case measure => simp [intOf]
            · have hb63 := n2 rfl
              clear n0 n1 n2 n3
              go_wp2_with fail
              refine (sayByte_any HR.out (let64 n) _ (HA.out hn) (by simp; omega)).mono ?_
              rintro e w2 ⟨rfl, h2, hb2⟩
              have H2 := hid h2
              have HB2 := hid hb2
              clear h2 hb2
              go_wp2_with fail
              go_roundw
              case rel => exact ⟨3, by omega, rfl, HL.out _ H2.out, HB.out.trans HB2.out⟩
              case measure => simp [intOf]
            · have hb63 := n3 rfl
              clear n0 n1 n2 n3
              go_wp2_with fail
              refine (sayByte_any HR.out (let64 n) _ (HA.out hn) (by simp; omega)).mono ?_
              rintro e w2 ⟨rfl, h2, hb2⟩
              have H2 := hid h2
              have HB2 := hid hb2
              clear h2 hb2
              go_wp2_with fail
              go_roundw
              case rel => exact ⟨4, by omega, rfl, HL.out _ H2.out, HB.out.trans HB2.out⟩
              case measure => simp [intOf]
        · have hk4 : k = 4 := by omega
          subst hk4
          go_wp2_with fail
          go_end0
          have := HR.out
          rw [List.take_of_length_le (by rw [four_length]; omega)] at this
          exact ⟨rfl, this, HB.out⟩

theorem four_len (x : Bs) : (four x).length = 4 := four_length x
/-- How much is left. -/
def leftN (b : Nat) (w : World) : Nat := match w.cell? ⟨b, 0, none⟩ with
  | some (.string s) => s.size
  | _ => 0
theorem RAt.leftN {w : World} {B b : Nat} {l d : Bs} (h : RAt w B b l d) : leftN b w = l.length := by
  unfold Go.Proofs.YtaniljfjmbifnaaGreatDoor.W.leftN
  rw [h.left.1]
  exact str_size l
set_option maxRecDepth 100000 in
set_option maxHeartbeats 1000000 in
theorem base64_any (s : Bs) (w : World) (hs : s.length ≤ 1000000) : Calls Tryz.prog 220 #[.string (str s)] w fun e w' => e = .returned (.string (str (b64 s))) ∧ Below w.heap.size w w' := by
  go_enter Tryz.func220, Tryz.ntmps220
  go_wp2_with fail
  refine (read_any s w hs).mono ?_
  rintro e w1 ⟨b, rfl, h1, hb1⟩
  have H1 := hid h1
  have HB1 := hid hb1
  clear h1 hb1
  go_wp2_with fail
  go_loopw [] (fun wr => ∃ l d, RAt wr w.heap.size b l d ∧ Below w.heap.size w wr ∧ d ++ b64 l = b64 s ∧ l.length ≤ s.length) (fun wr => leftN b wr)
  case atStart => exact ⟨s, [], H1.out, HB1.out, rfl, Nat.le_refl _⟩
  case round =>
    obtain ⟨l, d, hr, hb, hd, hl⟩ := hrel
    have HR := hid hr
    have HB := hid hb
    have HD := hid hd
    have hdl : d.length ≤ 10000000 := by
      have := congrArg List.length hd
      rw [List.length_append, b64_len, b64_len] at this
      omega
    clear hr hb hd
    by_cases h0 : l = []
    · subst h0
      have hf : decide (([] : Bs) ≠ []) = false := by simp
      have C := more_any HR.out.left.1
      rw [hf] at C
      go_wp2_with fail
      refine C.mono ?_
      clear C
      rintro e w2 ⟨rfl, rfl⟩
      go_wp2_with fail
      refine (text_any HR.out).mono ?_
      rintro e w2 ⟨rfl, rfl⟩
      go_wp2_with fail
      go_ret
      have := HD.out
      rw [b64_nil, List.append_nil] at this
      rw [this]
      exact ⟨rfl, HB.out⟩
    · have ht : decide (l ≠ []) = true := by simp [h0]
      have C := more_any HR.out.left.1
      rw [ht] at C
      go_wp2_with fail
      refine C.mono ?_
      clear C
      rintro e w2 ⟨rfl, rfl⟩
      go_wp2_with fail
      refine (HR.out.first 3 (by omega) (by omega)).mono ?_
      rintro e w3 ⟨rfl, h3, hb3⟩
      have H3 := hid h3
      have HB3 := hid hb3
      clear h3 hb3
      go_wp2_with fail
      refine (sayFour_any H3.out (l.take 3) (by simp; omega) hdl).mono ?_
      rintro e w4 ⟨rfl, h4, hb4⟩
      have H4 := hid h4
      have HB4 := hid hb4
      clear h4 hb4
      go_wp2_with fail
      go_roundw
      case rel =>
        refine ⟨l.drop 3, d ++ four (l.take 3), H4.out, (HB.out.trans HB3.out).trans HB4.out, ?_, by rw [List.length_drop]; omega⟩
        rw [← HD.out, b64_step l h0, List.append_assoc]
      case measure =>
        have hl0 : 0 < l.length := by cases l with | nil => exact absurd rfl h0 | cons => simp
        rw [H4.out.leftN, HR.out.leftN, List.length_drop]
        omega
end Go.Proofs.YtaniljfjmbifnaaGreatDoor.W
