/- What this text holds: the document's small letters, blanks, letters of tokens, tokens and signs. -/
import Derived.Test.YtgolcmafbenjbaaGreatDoorN27
namespace Go.Proofs.YtgolcmafbenjbaaGreatDoor
open Go.RowKit
set_option linter.unusedVariables false
set_option linter.unusedSimpArgs false

theorem small_wrap (c : UInt8) (h : 65 ≤ c.toNat ∧ c.toNat ≤ 90) : ((c.toNat : Int) + 32) = ((small c).toNat : Int) := by
  rw [small_nat, if_pos h]; omega

set_option maxRecDepth 100000 in
set_option maxHeartbeats 4000000 in
theorem rlower_any (l : Bs) (w : World) (hs : l.length ≤ 10000000) : Calls Tryz.prog 25 #[.string (str l)] w fun e w' => e = .returned (.string (str (low l))) ∧ Below w.heap.size w w' := by
  obtain ⟨W, c, hcv, hu, hb⟩ := to_bytes (str l) w
  rw [str_data] at hu
  rw [str_size] at hcv
  have HU := hid hu
  have HB := hid hb
  clear hu hb
  go_enter Tryz.func25, Tryz.ntmps25
  go_wp2_with fail
  go_loopw [4] (fun i wr => ∃ k : Nat, k ≤ l.length ∧ i = .int .i64 k ∧ UpAt wr w.heap.size (half l k) ∧ Below w.heap.size w wr) (fun i _ => l.length - (intOf i).toNat)
  case atStart => exact ⟨0, by omega, rfl, HU.out, HB.out⟩
  case round =>
    obtain ⟨k, hk, rfl, hr, hb⟩ := hrel
    have HR := hid hr
    have HBr := hid hb
    clear hr hb hcv
    by_cases hlt : k < l.length
    · have hlt' : (k : Int) < l.length := by omega
      have hkh : k < (half l k).length := by rw [half_len]; exact hlt
      obtain ⟨hc, hf⟩ := HR.out.cell k hkh
      rw [half_at _ _ hlt hkh] at hc
      have HX := hid (half_next l k hlt)
      have hx8 := (l[k]).toNat_lt
      by_cases hlow : 65 ≤ (l[k]).toNat ∧ (l[k]).toNat ≤ 90
      · have hl1 : ((65 : Int) ≤ (l[k]).toNat) := by omega
        have hl2 : (((l[k]).toNat : Int) ≤ 90) := by omega
        have hnum := small_wrap l[k] hlow
        have HST : Hid (UpAt (wr.setCell ⟨w.heap.size, k, none⟩ (.int .u8 (small l[k]).toNat)) w.heap.size (half l (k + 1))) := by
          rw [Hid, HX.out]
          exact HR.out.set k hkh _
        clear hlow
        generalize (small l[k]).toNat = y at hnum HST
        generalize (l[k]).toNat = x at *
        go_wp2_with fail
        go_roundw
        case rel => exact ⟨k + 1, by omega, by go_num, HST.out, HBr.out.setCell (Nat.le_refl _) _⟩
        case measure => simp [intOf]; omega
      · have HK : Hid (half l (k + 1) = half l k) := by
          rw [Hid, HX.out]
          unfold small
          rw [if_neg hlow]
          have := set_same (half l k) k hkh
          rw [half_at _ _ hlt hkh] at this
          exact this
        generalize (l[k]).toNat = x at *
        rcases Nat.lt_or_ge x 65 with h1 | h1
        · have h1' : ¬ (65 : Int) ≤ x := by omega
          clear hlow
          go_wp2_with fail
          go_roundw
          case rel => exact ⟨k + 1, by omega, by go_num, by rw [HK.out]; exact HR.out, HBr.out⟩
          case measure => simp [intOf]; omega
        · have h1' : (65 : Int) ≤ x := by omega
          have h2' : ¬ (x : Int) ≤ 90 := by omega
          clear hlow
          go_wp2_with fail
          go_roundw
          case rel => exact ⟨k + 1, by omega, by go_num, by rw [HK.out]; exact HR.out, HBr.out⟩
          case measure => simp [intOf]; omega
    · have HA := hid (half_all l k (by omega))
      have hcv : (convert 69 9 (.slice (some ⟨w.heap.size, 0, none⟩) l.length c)).run Tryz.prog wr = .ok (.string (str (half l k))) wr := by
        have := HR.out.conv (c := c)
        rw [half_len] at this
        exact this
      go_wp2_with fail
      go_ret
      rw [HA.out]
      exact ⟨rfl, HBr.out⟩

theorem c_eq {c k : UInt8} (h : c = k) : (c.toNat : Int) = (k.toNat : Int) := by rw [h]
theorem c_ne {c k : UInt8} (h : c ≠ k) : ¬ (c.toNat : Int) = (k.toNat : Int) := fun e => h (UInt8.toNat_inj.1 (by omega))
/-- The place behind blanks. -/
def bpos (s : Bs) (i : Nat) : Nat := i + ((s.drop i).takeWhile bl).length
theorem bpos_le (s : Bs) (i : Nat) (hi : i ≤ s.length) : bpos s i ≤ s.length := by
  have := tw_len bl (s.drop i)
  unfold bpos
  simp at this
  omega
theorem bpos_drop (s : Bs) (i : Nat) : s.drop (bpos s i) = pb (s.drop i) := by
  unfold bpos pb
  rw [← List.drop_drop, tw_drop]
theorem bpos_at (s : Bs) (i k : Nat) (h1 : i ≤ k) (h2 : k < bpos s i) (hk : k < s.length) : bl (s[k]'hk) = true := by
  unfold bpos at h2
  have := tw_at bl (s.drop i) (k - i) (by omega) (by simp; omega)
  rw [List.getElem_drop] at this
  simpa [show i + (k - i) = k by omega] using this
theorem bpos_out (s : Bs) (i : Nat) (hk : bpos s i < s.length) : bl (s[bpos s i]'hk) = false := by
  unfold bpos at *
  have := tw_out bl (s.drop i) (by simp; omega)
  rw [List.getElem_drop] at this
  exact this
theorem bl_or {c : UInt8} (h : bl c = true) : c = 9 ∨ c = 32 := by
  unfold bl at h
  simpa using h
theorem bl_not {c : UInt8} (h : bl c = false) : c ≠ 9 ∧ c ≠ 32 := by
  unfold bl at h
  simpa using h
set_option maxRecDepth 100000 in
set_option maxHeartbeats 2000000 in
theorem rblanks_any (s : Bs) (i : Nat) (w : World) (hi : i ≤ s.length) (hs : s.length ≤ 1000000) : Calls Tryz.prog 36 #[.string (str s), .int .i64 i] w fun e w' => e = .returned (.int .i64 (bpos s i)) ∧ w' = w := by
  have hsz := str_size s
  have hle := bpos_le s i hi
  have HAt := hid (bpos_at s i)
  have HOut := hid (bpos_out s i)
  have hib : i ≤ bpos s i := by unfold bpos; omega
  generalize bpos s i = p at *
  go_enter Tryz.func36, Tryz.ntmps36
  go_wp2_with fail
  go_loop [1] (fun v => ∃ k : Nat, i ≤ k ∧ k ≤ p ∧ v = .int .i64 k) (fun v => p - (intOf v).toNat)
  case atStart => exact ⟨i, Nat.le_refl _, hib, rfl⟩
  case round =>
    obtain ⟨k, hk1, hk2, rfl⟩ := hrel
    by_cases hkp : k < p
    · have hlt : k < s.length := by omega
      have hlt' : (k : Int) < s.length := by omega
      have hlts : k < (str s).size := by omega
      have g : ((str s)[k]'hlts) = s[k]'hlt := rfl
      have hb := bl_or (HAt.out k hk1 hkp hlt)
      generalize s[k]'hlt = x at *
      rcases hb with rfl | rfl
      · have e1 : ¬ (((9 : UInt8).toNat : Int) = 32) := by decide
        go_wp2_with fail
        go_round
        case rel => exact ⟨k + 1, by omega, by omega, by go_num⟩
        case measure => simp [intOf]; omega
      · go_wp2_with fail
        go_round
        case rel => exact ⟨k + 1, by omega, by omega, by go_num⟩
        case measure => simp [intOf]; omega
    · have hkp2 : k = p := by omega
      subst hkp2
      by_cases hlt : k < s.length
      · have hlt' : (k : Int) < s.length := by omega
        have hlts : k < (str s).size := by omega
        have g : ((str s)[k]'hlts) = s[k]'hlt := rfl
        have hb := bl_not (HOut.out hlt)
        have e1 : ¬ (((s[k]'hlt).toNat : Int) = 9) := c_ne hb.1
        have e2 : ¬ (((s[k]'hlt).toNat : Int) = 32) := c_ne hb.2
        have e3 : ((((s[k]'hlt).toNat : Int)) == 9) = false := by rw [beq_eq_false_iff_ne]; exact e1
        have e4 : ((((s[k]'hlt).toNat : Int)) == 32) = false := by rw [beq_eq_false_iff_ne]; exact e2
        generalize s[k]'hlt = x at *
        clear hb
        go_wp2_with fail
        go_ret
        exact ⟨rfl, rfl⟩
      · have hlt' : ¬ (k : Int) < s.length := by omega
        go_wp2_with fail
        go_ret
        exact ⟨rfl, rfl⟩
theorem tk_no {c : UInt8} {k : Nat} (hk : k < noTok.length) (h : noTok[k] = c) : tk c = false := by
  have : noTok.contains c = true := by rw [List.contains_iff_mem]; exact h ▸ List.getElem_mem hk
  unfold tk
  rw [this]
  simp
theorem tk_yes {c : UInt8} (h : ∀ j (hj : j < noTok.length), noTok[j] ≠ c) : tk c = (decide (33 ≤ c.toNat) && decide (c.toNat ≤ 126)) := by
  have : noTok.contains c = false := by
    rw [Bool.eq_false_iff]
    intro e
    rw [List.contains_iff_mem, List.mem_iff_getElem] at e
    obtain ⟨j, hj, e⟩ := e
    exact h j hj e
  unfold tk
  rw [this]
  simp
  rfl
set_option maxRecDepth 100000 in
set_option maxHeartbeats 2000000 in
theorem rletter_any (c : UInt8) (w : World) : Calls Tryz.prog 37 #[.int .u8 c.toNat] w fun e w' => e = .returned (.bool (tk c)) ∧ w' = w := by
  have hsz := str_size noTok
  have hlen : noTok.length = 15 := rfl
  rw [hlen] at hsz
  have HNo : Hid (∀ (k : Nat) (hk : k < noTok.length), noTok[k] = c → tk c = false) := fun k hk h => tk_no hk h
  have HYes : Hid ((∀ j (hj : j < noTok.length), noTok[j] ≠ c) → tk c = (decide (33 ≤ c.toNat) && decide (c.toNat ≤ 126))) := tk_yes
  have HS : Hid (str noTok = { data := #[40, 41, 60, 62, 64, 44, 59, 58, 92, 34, 47, 91, 93, 63, 61] }) := rfl
  generalize tk c = r at *
  go_enter Tryz.func37, Tryz.ntmps37
  rw [← HS.out]
  go_wp2_with fail
  go_loop [4] (fun v => ∃ k : Nat, k ≤ 15 ∧ v = .int .i64 k ∧ ∀ j (hj : j < noTok.length), j < k → noTok[j] ≠ c) (fun v => 15 - (intOf v).toNat)
  case atStart => exact ⟨0, by omega, rfl, fun j hj h => by omega⟩
  case round =>
    obtain ⟨k, hk, rfl, hno⟩ := hrel
    have HH := hid hno
    clear hno
    by_cases hlt : k < 15
    · have hlt' : (k : Int) < 15 := by omega
      have hltn : k < noTok.length := by omega
      have hlts : k < (str noTok).size := by omega
      have g : ((str noTok)[k]'hlts) = noTok[k]'hltn := rfl
      by_cases he : noTok[k]'hltn = c
      · have HR : Hid (r = false) := HNo.out k hltn he
        have e1 : ((noTok[k]'hltn).toNat : Int) = c.toNat := c_eq he
        generalize noTok[k]'hltn = x at *
        clear he
        go_wp2_with fail
        go_ret
        rw [HR.out]
        exact ⟨rfl, rfl⟩
      · have HN : Hid (∀ j (hj : j < noTok.length), j < k + 1 → noTok[j] ≠ c) := fun j hj h => by
          by_cases hjk : j = k
          · subst hjk; exact he
          · exact HH.out j hj (by omega)
        have e1 : ¬ ((noTok[k]'hltn).toNat : Int) = c.toNat := c_ne he
        generalize noTok[k]'hltn = x at *
        clear he
        go_wp2_with fail
        go_round
        case rel => exact ⟨k + 1, by omega, by go_num, HN.out⟩
        case measure => simp [intOf]; omega
    · have hlt' : ¬ (k : Int) < 15 := by omega
      have HR : Hid (r = (decide (33 ≤ c.toNat) && decide (c.toNat ≤ 126))) := HYes.out (fun j hj => HH.out j hj (by omega))
      by_cases h1 : 33 ≤ c.toNat
      · have h1' : (33 : Int) ≤ c.toNat := by omega
        have HD : Hid (decide ((c.toNat : Int) ≤ 126) = decide (c.toNat ≤ 126)) := by rw [Hid, Bool.eq_iff_iff]; simp only [decide_eq_true_eq]; omega
        go_wp2_with fail
        go_ret
        rw [HR.out, ← HD.out]
        exact ⟨by simp [h1], rfl⟩
      · have h1' : ¬ (33 : Int) ≤ c.toNat := by omega
        go_wp2_with fail
        go_ret
        rw [HR.out]
        exact ⟨by simp [h1], rfl⟩
end Go.Proofs.YtgolcmafbenjbaaGreatDoor
