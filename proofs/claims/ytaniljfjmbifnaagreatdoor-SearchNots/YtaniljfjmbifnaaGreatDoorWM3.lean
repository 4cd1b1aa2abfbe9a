/- What this text holds: four letters are said as three bytes; Unbase64. -/
import Derived.Test.YtaniljfjmbifnaaGreatDoorWM2
import Derived.Test.YtaniljfjmbifnaaGreatDoorShelf
namespace Go.Proofs.YtaniljfjmbifnaaGreatDoor.W
open Go.RowKit
set_option linter.unusedVariables false
set_option linter.unusedSimpArgs false

theorem byte_of (c : UInt8) : ((c.toNat : Int)).toNat.toUInt8 = c := by simp
theorem six_call (c : UInt8) (w : World) : Calls Tryz.prog 147 #[.string abcS, .int .u8 c.toNat] w fun e w' => e = .returned (.int .i64 (six c)) ∧ w' = w := by
  have := Tryz.strings_IndexByte abcS c.toNat w
  rw [byte_of] at this
  exact this
def val4K (x : Bs) (k : Nat) : Nat := val4 (x.take k)
theorem val4K_zero (x : Bs) : val4K x 0 = 0 := by simp [val4K, val4, sixN]
theorem val4K_all (x : Bs) : val4K x x.length = val4 x := by simp [val4K]
theorem sixN_lt (x : Bs) (k : Nat) : sixN x k < 64 := by
  unfold sixN
  split
  · next c _ => have := six_lt c; omega
  · omega
theorem sixN_take (x : Bs) (k i : Nat) : sixN (x.take k) i = if i < k then sixN x i else 0 := by
  unfold sixN
  rw [List.getElem?_take]
  by_cases h : i < k
  · rw [if_pos h, if_pos h]
  · rw [if_neg h, if_neg h]
theorem val4K_eq (x : Bs) (k : Nat) : val4K x k = (if 0 < k then sixN x 0 else 0) * 262144 + (if 1 < k then sixN x 1 else 0) * 4096 + (if 2 < k then sixN x 2 else 0) * 64 + (if 3 < k then sixN x 3 else 0) := by
  unfold val4K val4
  rw [sixN_take, sixN_take, sixN_take, sixN_take]
theorem sixN_at (x : Bs) (k n : Nat) (hk : k < x.length) (h : six x[k] = n) : sixN x k = n := by
  unfold sixN
  rw [List.getElem?_eq_getElem hk]
  simp [h]
theorem s4_0 (x : Bs) (n : Nat) (hk : 0 < x.length) (h : six x[0] = n) (hn : n < 64) : Go.bits .or .u32 (val4K x 0 : Int) ((n : Int) * 262144) = (val4K x 1 : Int) := by
  have e := sixN_at x 0 n hk h
  have : ((n : Int) * (262144 : Int)) = ((n * 262144 : Nat) : Int) := by omega
  rw [this, val4K_zero, or_step 0 0 _ 24 rfl (by omega) (by omega) (by omega), val4K_eq]
  simp [e]
theorem s4_1 (x : Bs) (n : Nat) (hk : 1 < x.length) (h : six x[1] = n) (hn : n < 64) : Go.bits .or .u32 (val4K x 1 : Int) ((n : Int) * 4096) = (val4K x 2 : Int) := by
  have e := sixN_at x 1 n hk h
  have h0 := sixN_lt x 0
  have e1 : val4K x 1 = 2 ^ 18 * sixN x 0 := by rw [val4K_eq]; simp; omega
  have : ((n : Int) * (4096 : Int)) = ((n * 4096 : Nat) : Int) := by omega
  rw [this, or_step _ (sixN x 0) _ 18 e1 (by omega) (by omega) (by omega), e1, val4K_eq]
  simp [e]; omega
theorem s4_2 (x : Bs) (n : Nat) (hk : 2 < x.length) (h : six x[2] = n) (hn : n < 64) : Go.bits .or .u32 (val4K x 2 : Int) ((n : Int) * 64) = (val4K x 3 : Int) := by
  have e := sixN_at x 2 n hk h
  have h0 := sixN_lt x 0
  have h1 := sixN_lt x 1
  have e1 : val4K x 2 = 2 ^ 12 * (sixN x 0 * 64 + sixN x 1) := by rw [val4K_eq]; simp; omega
  have : ((n : Int) * (64 : Int)) = ((n * 64 : Nat) : Int) := by omega
  rw [this, or_step _ (sixN x 0 * 64 + sixN x 1) _ 12 e1 (by omega) (by omega) (by omega), e1, val4K_eq]
  simp [e]; omega
theorem s4_3 (x : Bs) (n : Nat) (hk : 3 < x.length) (h : six x[3] = n) (hn : n < 64) : Go.bits .or .u32 (val4K x 3 : Int) (n : Int) = (val4K x 4 : Int) := by
  have e := sixN_at x 3 n hk h
  have h0 := sixN_lt x 0
  have h1 := sixN_lt x 1
  have h2 := sixN_lt x 2
  have e1 : val4K x 3 = 2 ^ 6 * (sixN x 0 * 4096 + sixN x 1 * 64 + sixN x 2) := by rw [val4K_eq]; simp; omega
  rw [or_step _ (sixN x 0 * 4096 + sixN x 1 * 64 + sixN x 2) _ 6 e1 (by omega) (by omega) (by omega), e1, val4K_eq]
  simp [e]; omega
theorem val4_lt (x : Bs) : val4 x < 16777216 := by
  have h0 := sixN_lt x 0
  have h1 := sixN_lt x 1
  have h2 := sixN_lt x 2
  have h3 := sixN_lt x 3
  unfold val4
  omega
/-- The bytes of a group. -/
def outs (x : Bs) : Bs := (List.range (x.length * 6 / 8)).map fun i => UInt8.ofNat (val4 x / 2 ^ (16 - 8 * i))
theorem outs_length (x : Bs) : (outs x).length = x.length * 6 / 8 := by simp [outs]
theorem outs_at (x : Bs) (k : Nat) (hk : k < x.length * 6 / 8) : (outs x).take (k + 1) = (outs x).take k ++ [UInt8.ofNat (val4 x / 2 ^ (16 - 8 * k))] := by
  rw [List.take_succ_eq_append_getElem (by rw [outs_length]; exact hk)]
  simp [outs]
theorem three_ok (x : Bs) (h : ∀ c ∈ x, 0 ≤ six c) : three x = some (outs x) := by
  unfold three outs
  rw [if_pos (by simpa using h)]
theorem three_no (x : Bs) (k : Nat) (hk : k < x.length) (h : ¬ 0 ≤ six x[k]) : three x = none := by
  unfold three
  rw [if_neg]
  simp only [List.all_eq_true, decide_eq_true_eq]
  intro h2
  exact h (h2 _ (List.getElem_mem hk))
/-- What sayThree tells, and has said. -/
def okThree (x : Bs) : Bool := (three x).isSome
def outThree (x : Bs) : Bs := (three x).getD []

set_option maxRecDepth 100000 in
set_option maxHeartbeats 2000000 in
theorem sayThree_any {w : World} {B b : Nat} {l d : Bs} (h : RAt w B b l d) (x : Bs) (hx : x.length ≤ 4) (h1 : d.length ≤ 10000000) :
    Calls Tryz.prog 219 #[.pointer (some ⟨b, 0, none⟩), .string (str x)] w fun e w' => e = .returned (.bool (okThree x)) ∧ RAt w' B b l (d ++ outThree x) ∧ Below B w w' := by
  have H := hid h
  have hsz := str_size x
  clear h
  go_enter Tryz.func219, Tryz.ntmps219
  go_wp2_with fail
  go_loop [5, 11] (fun v i => ∃ k : Nat, k ≤ x.length ∧ i = .int .i64 k ∧ v = .int .u32 (val4K x k) ∧ ∀ j, j < k → ∀ c, x[j]? = some c → 0 ≤ six c) (fun _ i => x.length - (intOf i).toNat)
  case atStart => exact ⟨0, by omega, rfl, by rw [val4K_zero]; rfl, fun j hj => by omega⟩
  case round =>
    obtain ⟨k, hk, rfl, rfl, hall⟩ := hrel
    have HAll := hid hall
    clear hall
    by_cases hlt : k < x.length
    · have hlt' : (k : Int) < x.length := by omega
      have hlts : k < (str x).size := by omega
      have HC : Hid (Calls Tryz.prog 147 #[.string abcS, .int .u8 ((str x)[k]'hlts).toNat] w fun e w' => e = .returned (.int .i64 (six x[k])) ∧ w' = w) := six_call x[k] w
      have hrange := six_lt x[k]
      have HNo : Hid (¬ 0 ≤ six x[k] → three x = none) := three_no x k hlt
      have HNext : Hid (0 ≤ six x[k] → ∀ j, j < k + 1 → ∀ c, x[j]? = some c → 0 ≤ six c) := by
        intro h0 j hj c hc
        by_cases hjk : j = k
        · subst hjk
          rw [List.getElem?_eq_getElem hlt] at hc
          cases hc
          exact h0
        · exact HAll.out j (by omega) c hc
      have HSt : Hid (∀ n : Nat, six x[k] = n → n < 64 → (k = 0 → Go.bits .or .u32 (val4K x 0 : Int) ((n : Int) * 262144) = (val4K x 1 : Int)) ∧ (k = 1 → Go.bits .or .u32 (val4K x 1 : Int) ((n : Int) * 4096) = (val4K x 2 : Int)) ∧ (k = 2 → Go.bits .or .u32 (val4K x 2 : Int) ((n : Int) * 64) = (val4K x 3 : Int)) ∧ (k = 3 → Go.bits .or .u32 (val4K x 3 : Int) (n : Int) = (val4K x 4 : Int))) := by
        intro n hn hn64
        refine ⟨?_, ?_, ?_, ?_⟩
        · rintro rfl; exact s4_0 x n hlt hn hn64
        · rintro rfl; exact s4_1 x n hlt hn hn64
        · rintro rfl; exact s4_2 x n hlt hn hn64
        · rintro rfl; exact s4_3 x n hlt hn hn64
      generalize six x[k] = sx at HC hrange HNo HNext HSt
      by_cases hneg : sx < 0
      · have HT := hid (HNo.out (by omega))
        clear HNo HNext HSt
        go_wp2_with fail
        refine HC.out.mono ?_
        rintro e w2 ⟨rfl, rfl⟩
        go_wp2_with fail
        go_ret
        refine ⟨?_, ?_, Below.refl _ _⟩
        · simp [okThree, HT.out]
        · simpa [outThree, HT.out] using H.out
      · have hnneg : ¬ sx < 0 := hneg
        obtain ⟨n, rfl⟩ := Int.eq_ofNat_of_zero_le (by omega : 0 ≤ sx)
        obtain ⟨q0, q1, q2, q3⟩ := HSt.out n rfl (by omega)
        have HNx := hid (HNext.out (by omega))
        clear HNo HNext HSt
        have hk4 : k = 0 ∨ k = 1 ∨ k = 2 ∨ k = 3 := by omega
        rcases hk4 with rfl | rfl | rfl | rfl
        · have HQ := hid (q0 rfl)
          clear q0 q1 q2 q3
          go_wp2_with fail
          refine HC.out.mono ?_
          rintro e w2 ⟨rfl, rfl⟩
          go_wp2_with fail
          go_round
          case rel => exact ⟨1, hlt, rfl, congrArg _ HQ.out, HNx.out⟩
          case measure => simp [intOf]; omega
        · have HQ := hid (q1 rfl)
          clear q0 q1 q2 q3
          go_wp2_with fail
          refine HC.out.mono ?_
          rintro e w2 ⟨rfl, rfl⟩
          go_wp2_with fail
          go_round
          case rel => exact ⟨2, hlt, rfl, congrArg _ HQ.out, HNx.out⟩
          case measure => simp [intOf]; omega
        · have HQ := hid (q2 rfl)
          clear q0 q1 q2 q3
          go_wp2_with fail
          refine HC.out.mono ?_
          rintro e w2 ⟨rfl, rfl⟩
          go_wp2_with fail
          go_round
          case rel => exact ⟨3, hlt, rfl, congrArg _ HQ.out, HNx.out⟩
          case measure => simp [intOf]; omega
        · have HQ := hid (q3 rfl)
          clear q0 q1 q2 q3
          go_wp2_with fail
          refine HC.out.mono ?_
          rintro e w2 ⟨rfl, rfl⟩
          go_wp2_with fail
          go_round
          case rel => exact ⟨4, hlt, rfl, congrArg _ HQ.out, HNx.out⟩
          case measure => simp [intOf]; omega
    · have hke : k = x.length := by omega
      subst hke
      rw [val4K_all]
      have hv := val4_lt x
      have HT := hid (three_ok x (fun c hc => by
        obtain ⟨j, hj, rfl⟩ := List.getElem_of_mem hc
        exact HAll.out j hj _ (List.getElem?_eq_getElem hj)))
      clear HAll
      go_wp2_with fail
      have HB8 : Hid (∀ k : Nat, k < x.length * 6 / 8 → ∃ c : UInt8, (outs x).take (k + 1) = (outs x).take k ++ [c] ∧ (k = 0 → (val4 x : Int) / 65536 = c.toNat) ∧ (k = 1 → (val4 x : Int) / 256 % 256 = c.toNat) ∧ (k = 2 → (val4 x : Int) % 256 = c.toNat)) := by
        intro k hk
        refine ⟨_, outs_at x k hk, ?_, ?_, ?_⟩
        · rintro rfl; rw [UInt8.toNat_ofNat']; omega
        · rintro rfl; rw [UInt8.toNat_ofNat']; omega
        · rintro rfl; rw [UInt8.toNat_ofNat']; omega
      go_loopw [33] (fun i wr => ∃ k : Nat, k ≤ x.length * 6 / 8 ∧ i = .int .i64 k ∧ RAt wr B b l (d ++ (outs x).take k) ∧ Below B w wr) (fun i _ => x.length * 6 / 8 - (intOf i).toNat)
      case atStart => exact ⟨0, by omega, rfl, by simpa using H.out, Below.refl _ _⟩
      case round =>
        obtain ⟨k, hk, rfl, hr, hb⟩ := hrel
        have HR := hid hr
        have HB := hid hb
        clear hr hb
        by_cases hlt : k < x.length * 6 / 8
        · obtain ⟨c, hc, c0, c1, c2⟩ := HB8.out k hlt
          have HC := hid hc
          clear hc
          have hlt' : (k : Int) < (x.length : Int) * 6 / 8 := by omega
          have hk4 : k = 0 ∨ k = 1 ∨ k = 2 := by omega
          rcases hk4 with rfl | rfl | rfl
          · have HE := hid (c0 rfl)
            clear c0 c1 c2
            go_wp2_with fail
            refine (sayByte_any HR.out c _ HE.out (by simp; omega)).mono ?_
            rintro e w2 ⟨rfl, h2, hb2⟩
            have H2 := hid h2
            have HB2 := hid hb2
            clear h2 hb2
            go_wp2_with fail
            go_roundw
            case rel => exact ⟨1, hlt, rfl, by rw [HC.out, ← List.append_assoc]; exact H2.out, HB.out.trans HB2.out⟩
            case measure => simp [intOf]; omega
          · have HE := hid (c1 rfl)
            clear c0 c1 c2
            go_wp2_with fail
            refine (sayByte_any HR.out c _ HE.out (by simp; omega)).mono ?_
            rintro e w2 ⟨rfl, h2, hb2⟩
            have H2 := hid h2
            have HB2 := hid hb2
            clear h2 hb2
            go_wp2_with fail
            go_roundw
            case rel => exact ⟨2, hlt, rfl, by rw [HC.out, ← List.append_assoc]; exact H2.out, HB.out.trans HB2.out⟩
            case measure => simp [intOf]; omega
          · have HE := hid (c2 rfl)
            clear c0 c1 c2
            go_wp2_with fail
            refine (sayByte_any HR.out c _ HE.out (by simp; omega)).mono ?_
            rintro e w2 ⟨rfl, h2, hb2⟩
            have H2 := hid h2
            have HB2 := hid hb2
            clear h2 hb2
            go_wp2_with fail
            go_roundw
            case rel => exact ⟨3, hlt, rfl, by rw [HC.out, ← List.append_assoc]; exact H2.out, HB.out.trans HB2.out⟩
            case measure => simp [intOf]; omega
        · have hke : k = x.length * 6 / 8 := by omega
          have hlt' : ¬ (k : Int) < (x.length : Int) * 6 / 8 := by omega
          have HK := hid hke
          clear hke hk
          go_wp2_with fail
          go_ret
          have := HR.out
          rw [List.take_of_length_le (by rw [outs_length, HK.out]; omega)] at this
          refine ⟨?_, ?_, HB.out⟩
          · simp [okThree, HT.out]
          · simpa [outThree, HT.out] using this
end Go.Proofs.YtaniljfjmbifnaaGreatDoor.W
