/- What this text holds: what the reader takes; = and two digits; Unquote, and the same in an encoded word. -/
import Derived.Test.YtaniljfjmbifnaaGreatDoorWM4
import Derived.Test.YtaniljfjmbifnaaGreatDoorWPure2
namespace Go.Proofs.YtaniljfjmbifnaaGreatDoor.W
open Go.RowKit
set_option linter.unusedVariables false
set_option linter.unusedSimpArgs false

set_option maxRecDepth 100000 in
set_option maxHeartbeats 1000000 in
theorem takes_yes {w : World} {b : Nat} {l p : Bs} (h : w.cell? ⟨b, 0, none⟩ = some (.string (str l))) (hf : w.frozen? ⟨b, 0, none⟩ = false) (hl : l.length ≤ 1000000) (hp : pre p l = true) :
    Calls Tryz.prog 107 #[.pointer (some ⟨b, 0, none⟩), .string (str p)] w fun e w' => e = .returned (.bool true) ∧ w' = w.setCell ⟨b, 0, none⟩ (.string (str (l.drop p.length))) := by
  have hsz := str_size l
  have hsp := str_size p
  have hpl := pre_len hp
  have HD : Hid (∀ m, (str l).extract m l.length = str (l.drop m)) := fun m => by rw [← str_size]; exact drop_str l m
  have HC : Hid (Calls Tryz.prog 155 #[.string (str l), .string (str p)] w fun e w' => e = .returned (.bool true) ∧ w' = w) := by
    have := Tryz.strings_HasPrefix (str l) (str p) w
    rw [str_data, str_data, pre_has, hp] at this
    exact this
  clear hp
  go_enter Tryz.func107, Tryz.ntmps107
  go_wp2_with fail
  refine HC.out.mono ?_
  rintro e w1 ⟨rfl, rfl⟩
  go_wp2_with fail
  go_ret
  rw [HD.out]
  exact ⟨rfl, rfl⟩

set_option maxRecDepth 100000 in
set_option maxHeartbeats 1000000 in
theorem takes_no {w : World} {b : Nat} {l p : Bs} (h : w.cell? ⟨b, 0, none⟩ = some (.string (str l))) (hp : pre p l = false) :
    Calls Tryz.prog 107 #[.pointer (some ⟨b, 0, none⟩), .string (str p)] w fun e w' => e = .returned (.bool false) ∧ w' = w := by
  have HC : Hid (Calls Tryz.prog 155 #[.string (str l), .string (str p)] w fun e w' => e = .returned (.bool false) ∧ w' = w) := by
    have := Tryz.strings_HasPrefix (str l) (str p) w
    rw [str_data, str_data, pre_has, hp] at this
    exact this
  clear hp
  go_enter Tryz.func107, Tryz.ntmps107
  go_wp2_with fail
  refine HC.out.mono ?_
  rintro e w1 ⟨rfl, rfl⟩
  go_wp2_with fail
  go_ret
  exact ⟨rfl, rfl⟩
theorem RAt.yes {w : World} {B b : Nat} {l d : Bs} (h : RAt w B b l d) (p : Bs) (hl : l.length ≤ 1000000) (hp : pre p l = true) :
    Calls Tryz.prog 107 #[.pointer (some ⟨b, 0, none⟩), .string (str p)] w fun e w' => e = .returned (.bool true) ∧ RAt w' B b (l.drop p.length) d ∧ Below B w w' := by
  refine (takes_yes h.left.1 h.left.2 hl hp).mono ?_
  rintro e w' ⟨rfl, rfl⟩
  exact ⟨rfl, h.set _, (Below.refl _ _).setCell h.base _⟩

theorem small_nat (c : UInt8) : (small c).toNat = if 65 ≤ c.toNat ∧ c.toNat ≤ 90 then c.toNat + 32 else c.toNat := by
  have := c.toNat_lt
  unfold small
  by_cases h : 65 ≤ c.toNat ∧ c.toNat ≤ 90
  · rw [if_pos h, if_pos h, UInt8.toNat_add]
    show (c.toNat + 32) % 256 = _
    omega
  · rw [if_neg h, if_neg h]
set_option maxRecDepth 100000 in
set_option maxHeartbeats 1000000 in
theorem small_any (c : UInt8) (w : World) : Calls Tryz.prog 32 #[.int .u8 c.toNat] w fun e w' => e = .returned (.int .u8 (small c).toNat) ∧ w' = w := by
  have h8 := c.toNat_lt
  have HN := hid (small_nat c)
  generalize (small c).toNat = y at HN ⊢
  generalize c.toNat = x at *
  by_cases h1 : 65 ≤ x
  · by_cases h2 : x ≤ 90
    · have h1' : (65 : Int) ≤ x := by omega
      have h2' : (x : Int) ≤ 90 := by omega
      have hw : IntKind.u8.wrap (IntKind.u8.wrap ((x : Int) - 65) + 97) = (y : Int) := by
        rw [HN.out, if_pos ⟨h1, h2⟩, IntKind.wrap_u8, IntKind.wrap_u8]
        omega
      have HW := hid hw
      clear hw
      go_enter Tryz.func32, Tryz.ntmps32
      go_wp2_with fail
      go_ret
      refine ⟨?_, rfl⟩
      show Ending.returned (Value.int IntKind.u8 _) = _
      congr 2
      rw [HN.out, if_pos ⟨h1, h2⟩]
      omega
    · have h1' : (65 : Int) ≤ x := by omega
      have h2' : ¬ (x : Int) ≤ 90 := by omega
      have e : y = x := by rw [HN.out, if_neg (by omega)]
      subst e
      go_enter Tryz.func32, Tryz.ntmps32
      go_wp2_with fail
      go_ret
      exact ⟨rfl, rfl⟩
  · have h1' : ¬ (65 : Int) ≤ x := by omega
    have e : y = x := by rw [HN.out, if_neg (by omega)]
    subst e
    go_enter Tryz.func32, Tryz.ntmps32
    go_wp2_with fail
    go_ret
    exact ⟨rfl, rfl⟩

def hexS : ByteArray := ⟨#[48, 49, 50, 51, 52, 53, 54, 55, 56, 57, 97, 98, 99, 100, 101, 102]⟩
set_option maxRecDepth 100000 in
set_option maxHeartbeats 1000000 in
theorem digit_any (c : UInt8) (w : World) : Calls Tryz.prog 237 #[.int .u8 c.toNat] w fun e w' => e = .returned (.int .i64 (hex c)) ∧ w' = w := by
  have HC : Hid (Calls Tryz.prog 147 #[.string hexS, .int .u8 (small c).toNat] w fun e w' => e = .returned (.int .i64 (hex c)) ∧ w' = w) := by
    have := Tryz.strings_IndexByte hexS (small c).toNat w
    rw [byte_of] at this
    exact this
  go_enter Tryz.func237, Tryz.ntmps237
  go_wp2_with fail
  refine (small_any c w).mono ?_
  rintro e w1 ⟨rfl, rfl⟩
  go_wp2_with fail
  refine HC.out.mono ?_
  rintro e w2 ⟨rfl, rfl⟩
  go_wp2_with fail
  go_ret
  exact ⟨rfl, rfl⟩

/-- What coded answers. -/
def codedV (l : Bs) : Value := match coded l with
  | some b => .tuple #[.int .u8 b.toNat, .bool true]
  | none => .tuple #[.int .u8 0, .bool false]

theorem drewN_below (w : World) (n B : Nat) : Below B w (w.drewN n) := ⟨rfl, rfl, rfl, Nat.le_refl _, fun _ _ => rfl⟩
theorem or_hex (m n : Nat) (hm : m < 16) (hn : n < 16) : Go.bits .or .i64 ((m : Int) * 16) (n : Int) = ((16 * m + n : Nat) : Int) := by
  have e : ((m : Int) * 16) = ((2 ^ 4 * m : Nat) : Int) := by omega
  have h1 : (BitVec.ofInt 64 ((2 ^ 4 * m : Nat) : Int)).toNat = 2 ^ 4 * m := by
    rw [BitVec.ofInt_natCast, BitVec.toNat_ofNat]; exact Nat.mod_eq_of_lt (by omega)
  have h2 : (BitVec.ofInt 64 (n : Int)).toNat = n := by
    rw [BitVec.ofInt_natCast, BitVec.toNat_ofNat]; exact Nat.mod_eq_of_lt (by omega)
  rw [e]
  show IntKind.i64.wrap ((BitVec.ofInt 64 ((2 ^ 4 * m : Nat) : Int) ||| BitVec.ofInt 64 (n : Int)).toNat : Int) = _
  rw [BitVec.toNat_or, h1, h2, ← Nat.two_pow_add_eq_or_of_lt (show n < 2 ^ 4 by omega), IntKind.wrap_i64]
  omega

set_option maxRecDepth 100000 in
set_option maxHeartbeats 1000000 in
theorem coded_any (l : Bs) (w : World) (hl : l.length ≤ 3) : Calls Tryz.prog 233 #[.string (str l)] w fun e w' => e = .returned (codedV l) ∧ Below w.heap.size w w' := by
  have hsz := str_size l
  by_cases h3 : l.length = 3
  · obtain ⟨a, b, c, rfl⟩ : ∃ a b c, l = [a, b, c] := by
      match l, h3 with
      | [a, b, c], _ => exact ⟨a, b, c, rfl⟩
    clear h3 hl
    by_cases ha : a = 61
    · subst ha
      have g0 : ((str [61, b, c])[0]'(by rw [hsz]; simp)).toNat = 61 := rfl
      have g1 : ((str [61, b, c])[1]'(by rw [hsz]; simp)) = b := rfl
      have g2 : ((str [61, b, c])[2]'(by rw [hsz]; simp)) = c := rfl
      have rb := hex_lt b
      have rc := hex_lt c
      have HCo : Hid (coded [61, b, c] = if 0 ≤ hex b ∧ 0 ≤ hex c then some (UInt8.ofNat (16 * (hex b).toNat + (hex c).toNat)) else none) := by
        unfold Hid coded
        simp
      simp only [List.length_cons, List.length_nil, Nat.zero_add, Nat.reduceAdd] at hsz
      go_enter Tryz.func233, Tryz.ntmps233
      go_wp2_with fail
      go_quiet ((go_at_call 237; exact Calls.quiet_of_same (digit_any _ _)))
      by_cases hb : hex b < 0
      · have HV : Hid (codedV [61, b, c] = .tuple #[.int .u8 0, .bool false]) := by
          unfold Hid codedV
          rw [HCo.out, if_neg (by omega)]
        go_wp2_with fail
        go_ret2
        rw [HV.out]
        exact ⟨rfl, drewN_below _ _ _⟩
      · by_cases hc : hex c < 0
        · have HV : Hid (codedV [61, b, c] = .tuple #[.int .u8 0, .bool false]) := by
            unfold Hid codedV
            rw [HCo.out, if_neg (by omega)]
          go_wp2_with fail
          go_ret2
          rw [HV.out]
          exact ⟨rfl, drewN_below _ _ _⟩
        · have HV : Hid (codedV [61, b, c] = .tuple #[.int .u8 (UInt8.ofNat (16 * (hex b).toNat + (hex c).toNat)).toNat, .bool true]) := by
            unfold Hid codedV
            rw [HCo.out, if_pos (by omega)]
          clear HCo
          generalize hex b = x at *
          generalize hex c = y at *
          obtain ⟨m, rfl⟩ := Int.eq_ofNat_of_zero_le (by omega : 0 ≤ x)
          obtain ⟨n, rfl⟩ := Int.eq_ofNat_of_zero_le (by omega : 0 ≤ y)
          have HO := hid (or_hex m n (by omega) (by omega))
          go_wp2_with fail
          go_ret2
          rw [HV.out]
          refine ⟨?_, drewN_below _ _ _⟩
          show Ending.returned (.tuple #[.int .u8 (Go.bits .or .i64 ((m : Int) * 16) (n : Int) % 256), .bool true]) = _
          rw [HO.out, Int.toNat_natCast, Int.toNat_natCast, UInt8.toNat_ofNat']
          have : ((16 * m + n : Nat) : Int) % 256 = (((16 * m + n) % 2 ^ 8 : Nat) : Int) := by omega
          rw [this]
    · have HV : Hid (codedV [a, b, c] = .tuple #[.int .u8 0, .bool false]) := by
        unfold Hid codedV coded
        simp [ha]
      have g0 : ((str [a, b, c])[0]'(by rw [hsz]; simp)) = a := rfl
      have hna : ((a.toNat : Int) == 61) = false := by
        have : a.toNat ≠ 61 := fun h => ha (UInt8.toNat_inj.1 h)
        simp; omega
      simp only [List.length_cons, List.length_nil, Nat.zero_add, Nat.reduceAdd] at hsz
      go_enter Tryz.func233, Tryz.ntmps233
      go_wp2_with fail
      go_ret2
      rw [HV.out]
      exact ⟨rfl, Below.refl _ _⟩
  · have HV : Hid (codedV l = .tuple #[.int .u8 0, .bool false]) := by
      unfold Hid codedV
      rcases hc : coded l with _ | x
      · rfl
      · exact absurd (coded_len hc) h3
    have hn3 : ((l.length : Int) == 3) = false := by simp; omega
    clear h3
    go_enter Tryz.func233, Tryz.ntmps233
    go_wp2_with fail
    go_ret2
    rw [HV.out]
    exact ⟨rfl, Below.refl _ _⟩
theorem pre_take (l : Bs) (n : Nat) : pre (l.take n) l = true := by
  unfold pre
  simp [List.length_take, List.take_eq_take_iff]
theorem drop_take_len (l : Bs) (h : (l.take 3).length = 3) : l.drop (l.take 3).length = l.drop 3 := by rw [h]

set_option maxRecDepth 100000 in
set_option maxHeartbeats 1000000 in
theorem sayCoded_any {w : World} {B b : Nat} {l d : Bs} (h : RAt w B b l d) (hl : l.length ≤ 1000000) (hd : d.length ≤ 10000000) :
    Calls Tryz.prog 221 #[.pointer (some ⟨b, 0, none⟩)] w fun e w' => e = .returned (.tuple #[]) ∧ RAt w' B b (l.drop (stepC l).2) (d ++ (stepC l).1) ∧ Below B w w' := by
  have H := hid h
  have hBw : B ≤ w.heap.size := by have := h.lt; have := h.base; omega
  obtain ⟨c0, f0⟩ := h.left
  have hsz := str_size l
  have HT : Hid (∀ m, (str l).extract 0 m = str (l.take m)) := take_str l
  clear h
  have HT3 : Hid ((str l).extract 0 (min 3 (l.length : Int)).toNat = str (l.take 3)) := by
    rw [Hid, HT.out]
    by_cases h3 : 3 ≤ l.length
    · rw [show (min 3 (l.length : Int)).toNat = 3 by omega]
    · rw [show (min 3 (l.length : Int)).toNat = l.length by omega, List.take_length, List.take_of_length_le (by omega)]
  go_enter Tryz.func221, Tryz.ntmps221
  go_wp2_with fail
  go_quiet (fail)
  rw [HT3.out]
  go_wp2_with fail
  have HR := hid (H.out.drewN nq)
  refine (coded_any (l.take 3) _ (by simp; omega)).mono ?_
  rintro e w2 ⟨rfl, hb2⟩
  have H2 := hid (HR.out.later hb2)
  have HB2 := hid ((drewN_below w nq B).trans (hb2.mono hBw))
  clear hb2 HR
  rcases hc : coded (l.take 3) with _ | x
  · have hcv : codedV (l.take 3) = .tuple #[.int .u8 0, .bool false] := by unfold codedV; rw [hc]
    have HS : Hid (stepC l = (l.take 1, 1)) := by unfold Hid stepC; rw [hc]
    clear hc
    rw [hcv]
    go_wp2_with fail
    refine (H2.out.first 1 hl (by omega)).mono ?_
    rintro e w3 ⟨rfl, h3, hb3⟩
    have H3 := hid h3
    have HB3 := hid hb3
    clear h3 hb3
    go_wp2_with fail
    refine (say_any H3.out (l.take 1) (by omega) (by simp; omega)).mono ?_
    rintro e w4 ⟨rfl, h4, hb4⟩
    have H4 := hid h4
    have HB4 := hid hb4
    clear h4 hb4
    go_wp2_with fail
    go_end0
    rw [HS.out]
    exact ⟨rfl, H4.out, (HB2.out.trans HB3.out).trans HB4.out⟩
  · have hcv : codedV (l.take 3) = .tuple #[.int .u8 x.toNat, .bool true] := by unfold codedV; rw [hc]
    have HS : Hid (stepC l = ([x], 3)) := by unfold Hid stepC; rw [hc]
    have HL := hid (coded_len hc)
    clear hc
    rw [hcv]
    go_wp2_with fail
    refine (H2.out.yes (l.take 3) hl (pre_take l 3)).mono ?_
    rintro e w3 ⟨rfl, h3, hb3⟩
    rw [HL.out] at h3
    have H3 := hid h3
    have HB3 := hid hb3
    clear h3 hb3
    go_wp2_with fail
    refine (sayByte_any H3.out x _ rfl (by omega)).mono ?_
    rintro e w4 ⟨rfl, h4, hb4⟩
    have H4 := hid h4
    have HB4 := hid hb4
    clear h4 hb4
    go_wp2_with fail
    go_end0
    rw [HS.out]
    exact ⟨rfl, H4.out, (HB2.out.trans HB3.out).trans HB4.out⟩

/-- How a reader's loop stands. -/
def Stands (step : Bs → Bs × Nat) (s : Bs) (w0 : World) (b : Nat) (wr : World) : Prop := ∃ l d, RAt wr w0.heap.size b l d ∧ Below w0.heap.size w0 wr ∧ d ++ run step l = run step s ∧ d.length + l.length ≤ s.length

set_option maxRecDepth 100000 in
set_option maxHeartbeats 1000000 in
theorem under_any (s : Bs) (w : World) (hs : s.length ≤ 1000000) : Calls Tryz.prog 199 #[.string (str s)] w fun e w' => e = .returned (.string (str (und s))) ∧ Below w.heap.size w w' := by
  go_enter Tryz.func199, Tryz.ntmps199
  go_wp2_with fail
  refine (read_any s w hs).mono ?_
  rintro e w1 ⟨b, rfl, h1, hb1⟩
  have H1 := hid h1
  have HB1 := hid hb1
  clear h1 hb1
  go_wp2_with fail
  go_loopw [] (fun wr => Stands stepQ s w b wr) (fun wr => leftN b wr)
  case atStart => exact ⟨s, [], H1.out, HB1.out, rfl, by simp⟩
  case round =>
    obtain ⟨l, d, hr, hb, hd, hl⟩ := hrel
    have HR := hid hr
    have HB := hid hb
    have HD := hid hd
    clear hr hb hd
    by_cases h0 : l = []
    · subst h0
      have hf : decide (([] : Bs) ≠ []) = false := by simp
      have C := more_any HR.out.left.1
      rw [hf] at C
      go_wp2_with fail
      refine C.mono ?_
      clear C
      rintro e w2 ⟨rfl, rfl⟩
      go_wp2_with fail
      refine (text_any HR.out).mono ?_
      rintro e w2 ⟨rfl, rfl⟩
      go_wp2_with fail
      go_ret
      have := HD.out
      rw [run_nil, List.append_nil] at this
      rw [this]
      exact ⟨rfl, HB.out⟩
    · have ht : decide (l ≠ []) = true := by simp [h0]
      have hl0 : 0 < l.length := by cases l with | nil => exact absurd rfl h0 | cons => simp
      have HS : Hid (run stepQ l = (stepQ l).1 ++ run stepQ (l.drop (stepQ l).2)) := und_step l h0
      have hlen := stepQ_len l
      have hpos := stepQ_pos l h0
      have HN : Hid (∀ d', d' = d ++ (stepQ l).1 → d' ++ run stepQ (l.drop (stepQ l).2) = run stepQ s ∧ d'.length + (l.drop (stepQ l).2).length ≤ s.length ∧ (l.drop (stepQ l).2).length < l.length) := by
        rintro d' rfl
        refine ⟨by rw [← HD.out, HS.out, List.append_assoc], ?_, by rw [List.length_drop]; omega⟩
        rw [List.length_append, List.length_drop]
        omega
      clear HS hlen hpos
      have C := more_any HR.out.left.1
      rw [ht] at C
      go_wp2_with fail
      refine C.mono ?_
      clear C
      rintro e w2 ⟨rfl, rfl⟩
      go_wp2_with fail
      rcases Bool.eq_false_or_eq_true (pre [95] l) with hp | hp
      · have HSt : Hid (stepQ l = ([32], 1)) := by unfold Hid stepQ; rw [if_pos hp]
        refine (HR.out.yes [95] (by omega) hp).mono ?_
        rintro e w3 ⟨rfl, h3, hb3⟩
        have H3 := hid h3
        have HB3 := hid hb3
        clear h3 hb3 hp
        go_wp2_with fail
        refine (say_any H3.out [32] (by omega) (by simp)).mono ?_
        rintro e w4 ⟨rfl, h4, hb4⟩
        have H4 := hid h4
        have HB4 := hid hb4
        clear h4 hb4
        go_wp2_with fail
        go_roundw
        case rel =>
          have := HN.out _ rfl
          rw [HSt.out] at this
          exact ⟨l.drop 1, d ++ [32], H4.out, (HB.out.trans HB3.out).trans HB4.out, this.1, this.2.1⟩
        case measure =>
          have := HN.out _ rfl
          rw [HSt.out] at this
          rw [H4.out.leftN, HR.out.leftN]
          exact this.2.2
      · have HSt : Hid (stepQ l = stepC l) := by unfold Hid stepQ; rw [if_neg (by simp [hp])]
        have C := takes_no HR.out.left.1 hp
        refine C.mono ?_
        clear C
        rintro e w3 ⟨rfl, rfl⟩
        clear hp
        go_wp2_with fail
        refine (sayCoded_any HR.out (by omega) (by omega)).mono ?_
        rintro e w4 ⟨rfl, h4, hb4⟩
        have H4 := hid h4
        have HB4 := hid hb4
        clear h4 hb4
        go_wp2_with fail
        go_roundw
        case rel =>
          have := HN.out _ rfl
          rw [HSt.out] at this
          exact ⟨l.drop (stepC l).2, d ++ (stepC l).1, H4.out, HB.out.trans HB4.out, this.1, this.2.1⟩
        case measure =>
          have := HN.out _ rfl
          rw [HSt.out] at this
          rw [H4.out.leftN, HR.out.leftN]
          exact this.2.2
end Go.Proofs.YtaniljfjmbifnaaGreatDoor.W
