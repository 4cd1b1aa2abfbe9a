/- What this text holds: the document's tokens, signs and values. -/
import Derived.Test.YtgolcmafbenjbaaGreatDoorD1
namespace Go.Proofs.YtgolcmafbenjbaaGreatDoor
open Go.RowKit
set_option linter.unusedVariables false
set_option linter.unusedSimpArgs false

/-- The place behind a token. -/
def tpos (s : Bs) (i : Nat) : Nat := bpos s i + (tokT (s.drop i)).length
theorem tok_is (s : Bs) (i : Nat) : tokT (s.drop i) = (s.drop (bpos s i)).takeWhile tk := by rw [bpos_drop]; rfl
theorem tpos_le (s : Bs) (i : Nat) (hi : i ≤ s.length) : tpos s i ≤ s.length := by
  have := tw_len tk (s.drop (bpos s i))
  have := bpos_le s i hi
  unfold tpos
  rw [tok_is]
  simp at *
  omega
theorem tpos_drop (s : Bs) (i : Nat) : s.drop (tpos s i) = tokR (s.drop i) := by
  unfold tpos tokR
  rw [← List.drop_drop, bpos_drop, tok_is, bpos_drop, tw_drop]
theorem tpos_at (s : Bs) (i k : Nat) (h1 : bpos s i ≤ k) (h2 : k < tpos s i) (hk : k < s.length) : tk (s[k]'hk) = true := by
  unfold tpos at h2
  rw [tok_is] at h2
  have := tw_at tk (s.drop (bpos s i)) (k - bpos s i) (by omega) (by simp; omega)
  rw [List.getElem_drop] at this
  simpa [show bpos s i + (k - bpos s i) = k by omega] using this
theorem tpos_out (s : Bs) (i : Nat) (hk : tpos s i < s.length) : tk (s[tpos s i]'hk) = false := by
  have e : tpos s i = bpos s i + ((s.drop (bpos s i)).takeWhile tk).length := by unfold tpos; rw [tok_is]
  have h2 : ((s.drop (bpos s i)).takeWhile tk).length < (s.drop (bpos s i)).length := by rw [List.length_drop]; omega
  have h3 := tw_out tk _ h2
  rw [List.getElem_drop] at h3
  have h4 : ∀ (j : Nat) (hj : j < s.length), j = bpos s i + ((s.drop (bpos s i)).takeWhile tk).length → tk (s[j]'hj) = false := by
    intro j hj ej
    subst ej
    exact h3
  exact h4 _ hk e
set_option maxRecDepth 100000 in
set_option maxHeartbeats 2000000 in
theorem rtoken_any (s : Bs) (i : Nat) (w : World) (hi : i ≤ s.length) (hs : s.length ≤ 1000000) : Calls Tryz.prog 22 #[.string (str s), .int .i64 i] w fun e w' => e = .returned (.tuple #[.string (str (tokT (s.drop i))), .int .i64 (tpos s i)]) ∧ w' = w := by
  have hsz := str_size s
  have HC := hid (rblanks_any s i w hi hs)
  have hle := tpos_le s i hi
  have HAt := hid (tpos_at s i)
  have HOut := hid (tpos_out s i)
  have hbt : bpos s i ≤ tpos s i := by unfold tpos; omega
  have HX : Hid ((str s).extract (bpos s i) (tpos s i) = str (tokT (s.drop i))) := by
    rw [Hid, mid_str, bpos_drop]
    congr 1
    unfold tpos
    rw [show bpos s i + (tokT (s.drop i)).length - bpos s i = (tokT (s.drop i)).length by omega]
    exact tw_take tk _
  generalize bpos s i = b at *
  generalize tpos s i = t at *
  generalize tokT (s.drop i) = T at *
  have hbi : (b : Int) ≤ t := by omega
  have hti : (t : Int) ≤ s.length := by omega
  go_enter Tryz.func22, Tryz.ntmps22
  go_wp2_with fail
  refine HC.out.mono ?_
  rintro e w1 ⟨rfl, rfl⟩
  go_wp2_with fail
  go_loop [6] (fun v => ∃ k : Nat, b ≤ k ∧ k ≤ t ∧ v = .int .i64 k) (fun v => t - (intOf v).toNat)
  case atStart => exact ⟨b, Nat.le_refl _, hbt, rfl⟩
  case round =>
    obtain ⟨k, hk1, hk2, rfl⟩ := hrel
    by_cases hkp : k < t
    · have hlt : k < s.length := by omega
      have hlt' : (k : Int) < s.length := by omega
      have hlts : k < (str s).size := by omega
      have g : ((str s)[k]'hlts) = s[k]'hlt := rfl
      have hb : tk (s[k]'hlt) = true := HAt.out k hk1 hkp hlt
      have C := rletter_any (s[k]'hlt) w1
      rw [hb] at C
      have HL := hid C
      generalize s[k]'hlt = x at *
      clear hb C
      go_wp2_with fail
      refine HL.out.mono ?_
      rintro e w2 ⟨rfl, rfl⟩
      go_wp2_with fail
      go_round
      case rel => exact ⟨k + 1, by omega, by omega, by go_num⟩
      case measure => simp [intOf]; omega
    · have hkp2 : k = t := by omega
      subst hkp2
      by_cases hlt : k < s.length
      · have hlt' : (k : Int) < s.length := by omega
        have hlts : k < (str s).size := by omega
        have g : ((str s)[k]'hlts) = s[k]'hlt := rfl
        have hb : tk (s[k]'hlt) = false := HOut.out hlt
        have C := rletter_any (s[k]'hlt) w1
        rw [hb] at C
        have HL := hid C
        generalize s[k]'hlt = x at *
        clear hb C
        go_wp2_with fail
        refine HL.out.mono ?_
        rintro e w2 ⟨rfl, rfl⟩
        go_wp2_with fail
        go_ret2
        exact ⟨by rw [← HX.out]; rfl, rfl⟩
      · have hlt' : ¬ (k : Int) < s.length := by omega
        go_wp2_with fail
        go_ret2
        exact ⟨by rw [← HX.out]; rfl, rfl⟩

/-- Where a sign ends, or that there is none. -/
def sgV (c : UInt8) (s : Bs) (i : Nat) : Int := match sgn c (s.drop i) with
  | some _ => ((bpos s i + 1 : Nat) : Int)
  | none => -1
theorem sg_drop {c : UInt8} {s t : Bs} {i : Nat} (h : sgn c (s.drop i) = some t) : s.drop (bpos s i + 1) = t ∧ bpos s i < s.length := by
  have h1 := sgn_some h
  rw [← bpos_drop] at h1
  have h2 : bpos s i < s.length := by
    have := congrArg List.length h1
    simp at this
    omega
  refine ⟨?_, h2⟩
  rw [← List.drop_drop, h1]
  rfl
set_option maxRecDepth 100000 in
set_option maxHeartbeats 2000000 in
theorem rsign_any (s : Bs) (i : Nat) (c : UInt8) (w : World) (hi : i ≤ s.length) (hs : s.length ≤ 1000000) : Calls Tryz.prog 23 #[.string (str s), .int .i64 i, .int .u8 c.toNat] w fun e w' => e = .returned (.int .i64 (sgV c s i)) ∧ w' = w := by
  have hsz := str_size s
  have HC := hid (rblanks_any s i w hi hs)
  have hle := bpos_le s i hi
  have hbd := bpos_drop s i
  by_cases hlt : bpos s i < s.length
  · have hpb : pb (s.drop i) = s[bpos s i] :: s.drop (bpos s i + 1) := by rw [← hbd]; exact List.drop_eq_getElem_cons hlt
    by_cases he : s[bpos s i] = c
    · have HV : Hid (sgV c s i = ((bpos s i + 1 : Nat) : Int)) := by
        unfold sgV sgn
        rw [hpb]
        simp [he, Hid]
      rw [HV.out]
      have hlt' : (bpos s i : Int) < s.length := by omega
      have hlts : bpos s i < (str s).size := by omega
      have g : ((str s)[bpos s i]'hlts) = s[bpos s i]'hlt := rfl
      have e1 : ((s[bpos s i]'hlt).toNat : Int) = c.toNat := c_eq he
      have e2 : (((s[bpos s i]'hlt).toNat : Int) == (c.toNat : Int)) = true := by rw [e1]; simp
      generalize s[bpos s i]'hlt = x at *
      generalize bpos s i = b at *
      clear he hpb hbd HV
      go_enter Tryz.func23, Tryz.ntmps23
      go_wp2_with fail
      refine HC.out.mono ?_
      rintro e w1 ⟨rfl, rfl⟩
      go_wp2_with fail
      go_ret
      exact ⟨by first | rfl | simp, rfl⟩
    · have HV : Hid (sgV c s i = -1) := by
        unfold sgV sgn
        rw [hpb]
        simp [he, Hid]
      rw [HV.out]
      have hlt' : (bpos s i : Int) < s.length := by omega
      have hlts : bpos s i < (str s).size := by omega
      have g : ((str s)[bpos s i]'hlts) = s[bpos s i]'hlt := rfl
      have e1 : ¬ ((s[bpos s i]'hlt).toNat : Int) = c.toNat := c_ne he
      have e2 : (((s[bpos s i]'hlt).toNat : Int) == (c.toNat : Int)) = false := by rw [beq_eq_false_iff_ne]; exact e1
      generalize s[bpos s i]'hlt = x at *
      generalize bpos s i = b at *
      clear he hpb hbd HV
      go_enter Tryz.func23, Tryz.ntmps23
      go_wp2_with fail
      refine HC.out.mono ?_
      rintro e w1 ⟨rfl, rfl⟩
      go_wp2_with fail
      go_ret
      exact ⟨rfl, rfl⟩
  · have HV : Hid (sgV c s i = -1) := by
      unfold sgV sgn
      rw [← hbd, List.drop_of_length_le (by omega)]
      rfl
    rw [HV.out]
    have hlt' : ¬ (bpos s i : Int) < s.length := by omega
    generalize bpos s i = b at *
    clear hbd HV hlt
    go_enter Tryz.func23, Tryz.ntmps23
    go_wp2_with fail
    refine HC.out.mono ?_
    rintro e w1 ⟨rfl, rfl⟩
    go_wp2_with fail
    go_ret
    exact ⟨rfl, rfl⟩
end Go.Proofs.YtgolcmafbenjbaaGreatDoor
