/- What this text holds: the document's value of a Param. -/
import Derived.Test.YtgolcmafbenjbaaGreatDoorD2
namespace Go.Proofs.YtgolcmafbenjbaaGreatDoor
open Go.RowKit
set_option linter.unusedVariables false
set_option linter.unusedSimpArgs false

/-- A value, and where it ends. -/
def vaV (s : Bs) (o : Option (Bs × Bs)) : Value := match o with
  | some r => .tuple #[.string (str r.1), .int .i64 ((s.length - r.2.length : Nat) : Int)]
  | none => .tuple #[.string ⟨#[]⟩, .int .i64 (-1)]
theorem one_at (s : Bs) (k : Nat) (hk : k < s.length) : (str s).extract k (k + 1) = str [s[k]] := by
  rw [mid_str, show k + 1 - k = 1 by omega, List.drop_eq_getElem_cons hk]
  rfl
theorem qu_len {s t : Bs} {k : Nat} (hk : k + 1 ≤ s.length) : ((k : Int) + 1) = ((s.length - (s.drop (k + 1)).length : Nat) : Int) := by
  simp
  omega
set_option maxRecDepth 100000 in
set_option maxHeartbeats 4000000 in
theorem rvalue_any (s : Bs) (i : Nat) (w : World) (hi : i ≤ s.length) (hs : s.length ≤ 1000000) : Calls Tryz.prog 24 #[.string (str s), .int .i64 i] w fun e w' => e = .returned (vaV s (valM (s.drop i))) ∧ w' = w := by
  have hsz := str_size s
  have HS := hid (rsign_any s i 34 w hi hs)
  rw [show ((34 : UInt8).toNat : Int) = 34 from rfl] at HS
  cases hg : sgn 34 (s.drop i) with
  | none =>
    have HT := hid (rtoken_any s i w hi hs)
    have hv : sgV 34 s i = -1 := by unfold sgV; rw [hg]
    rw [hv] at HS
    have htl := tpos_le s i hi
    have htd := congrArg List.length (tpos_drop s i)
    rw [List.length_drop] at htd
    by_cases h0 : tokT (s.drop i) = []
    · have HV : Hid (valM (s.drop i) = none) := by unfold valM; rw [hg]; simp [h0, Hid]
      rw [HV.out]
      have hq : ((str (tokT (s.drop i))).toList == []) = true := by rw [eqL]; simp [h0]
      generalize tokT (s.drop i) = T at *
      clear h0 hg hv htd
      go_enter Tryz.func24, Tryz.ntmps24
      go_wp2_with fail
      refine HS.out.mono ?_
      rintro e w1 ⟨rfl, rfl⟩
      go_wp2_with fail
      refine HT.out.mono ?_
      rintro e w1 ⟨rfl, rfl⟩
      go_wp2_with fail
      go_ret2
      exact ⟨rfl, rfl⟩
    · have HV : Hid (valM (s.drop i) = some (tokT (s.drop i), tokR (s.drop i))) := by unfold valM; rw [hg]; simp [h0, Hid]
      have HEn : Hid (((s.length - (tokR (s.drop i)).length : Nat) : Int) = (tpos s i : Int)) := by rw [Hid]; omega
      rw [HV.out]
      have hq : ((str (tokT (s.drop i))).toList == []) = false := by rw [eqL]; simp [h0]
      generalize tokT (s.drop i) = T at *
      generalize tokR (s.drop i) = R at *
      generalize tpos s i = tp at *
      clear h0 hg hv htd
      go_enter Tryz.func24, Tryz.ntmps24
      go_wp2_with fail
      refine HS.out.mono ?_
      rintro e w1 ⟨rfl, rfl⟩
      go_wp2_with fail
      refine HT.out.mono ?_
      rintro e w1 ⟨rfl, rfl⟩
      go_wp2_with fail
      go_ret2
      simp only [vaV]
      rw [HEn.out]
      exact ⟨rfl, trivial⟩
  | some t =>
    obtain ⟨htd, hbl⟩ := sg_drop hg
    have hv : sgV 34 s i = ((bpos s i + 1 : Nat) : Int) := by unfold sgV; rw [hg]
    rw [hv] at HS
    have HV : Hid (valM (s.drop i) = quM t) := by unfold valM; rw [hg]; rfl
    rw [HV.out]
    have hk0 : bpos s i + 1 ≤ s.length := by omega
    generalize bpos s i + 1 = k0 at *
    have HTd := hid htd
    clear hg hv hbl htd HV
    go_enter Tryz.func24, Tryz.ntmps24
    go_wp2_with fail
    refine HS.out.mono ?_
    rintro e w1 ⟨rfl, rfl⟩
    have hk00 : ¬ (k0 : Int) < 0 := by omega
    go_wp2_with fail
    go_loop [6, 9] (fun kv vv => ∃ (k : Nat) (d : Bs), k ≤ s.length ∧ kv = .int .i64 k ∧ vv = .string (str d) ∧ quM t = (quM (s.drop k)).map (fun r => (d ++ r.1, r.2)) ∧ d.length ≤ k) (fun kv _ => s.length - (intOf kv).toNat)
    case atStart => exact ⟨k0, [], hk0, rfl, rfl, by rw [HTd.out]; simp, by simp⟩
    case round =>
      obtain ⟨k, d, hk, rfl, rfl, hqu, hdl⟩ := hrel
      have HQ := hid hqu
      have hds := str_size d
      clear hqu
      by_cases hlt : k < s.length
      · have hlt' : (k : Int) < s.length := by omega
        have hlts : k < (str s).size := by omega
        have g : ((str s)[k]'hlts) = s[k]'hlt := rfl
        have HDr : Hid (s.drop k = s[k]'hlt :: s.drop (k + 1)) := List.drop_eq_getElem_cons hlt
        have HOne := hid (one_at s k hlt)
        have hk1 : (k : Int) + 1 ≤ s.length := by omega
        by_cases h34 : s[k]'hlt = 34
        · have HR : Hid (quM t = some (d, s.drop (k + 1))) := by rw [Hid, HQ.out, HDr.out, h34, quM_end]; simp
          have HL := hid (qu_len (s := s) (t := t) (k := k) (by omega))
          have e1 : ((s[k]'hlt).toNat : Int) = 34 := c_eq h34
          have e2 : (((s[k]'hlt).toNat : Int) == 34) = true := by rw [e1]; rfl
          have e3 : (((s[k]'hlt).toNat : Int) != 34) = false := by simp [bne, e2]
          generalize s[k]'hlt = x at *
          clear h34
          go_wp2_with fail
          go_ret2
          rw [HR.out]
          simp only [vaV]
          rw [← HL.out]
          exact ⟨rfl, trivial⟩
        · have e1 : ¬ ((s[k]'hlt).toNat : Int) = 34 := c_ne h34
          have e2 : (((s[k]'hlt).toNat : Int) == 34) = false := by rw [beq_eq_false_iff_ne]; exact e1
          have e3 : (((s[k]'hlt).toNat : Int) != 34) = true := by simp [bne, e2]
          by_cases h92 : s[k]'hlt = 92
          · have f1 : ((s[k]'hlt).toNat : Int) = 92 := c_eq h92
            have f2 : (((s[k]'hlt).toNat : Int) == 92) = true := by rw [f1]; rfl
            by_cases hl2 : k + 1 < s.length
            · have hl2' : (k : Int) + 1 < s.length := by omega
              have hk2 : (k : Int) + 1 + 1 ≤ s.length := by omega
              have HOne2 := hid (one_at s (k + 1) hl2)
              have HN : Hid (quM t = (quM (s.drop (k + 2))).map (fun r => ((d ++ [s[k + 1]'hl2]) ++ r.1, r.2))) := by
                rw [Hid, HQ.out, HDr.out, h92, List.drop_eq_getElem_cons hl2, quM_esc]
                simp [Function.comp_def]
              have HAp := hid (app_str d [s[k + 1]'hl2])
              generalize s[k + 1]'hl2 = y at *
              generalize s[k]'hlt = x at *
              clear h92 h34
              go_wp2_with fail
              go_round
              case rel => exact ⟨k + 2, d ++ [y], by omega, by go_num, by rw [← HAp.out, ← HOne2.out], HN.out, by simp; omega⟩
              case measure => simp [intOf]; omega
            · have hl2' : ¬ (k : Int) + 1 < s.length := by omega
              have HN : Hid (quM t = (quM (s.drop (k + 1))).map (fun r => ((d ++ [s[k]'hlt]) ++ r.1, r.2))) := by
                rw [Hid, HQ.out, HDr.out, h92, List.drop_of_length_le (show s.length ≤ k + 1 by omega), quM_esc0]
                rfl
              have HAp := hid (app_str d [s[k]'hlt])
              generalize s[k]'hlt = x at *
              clear h92 h34
              go_wp2_with fail
              go_round
              case rel => exact ⟨k + 1, d ++ [x], by omega, by go_num, by rw [← HAp.out, ← HOne.out], HN.out, by simp; omega⟩
              case measure => simp [intOf]; omega
          · have f1 : ¬ ((s[k]'hlt).toNat : Int) = 92 := c_ne h92
            have f2 : (((s[k]'hlt).toNat : Int) == 92) = false := by rw [beq_eq_false_iff_ne]; exact f1
            have HN : Hid (quM t = (quM (s.drop (k + 1))).map (fun r => ((d ++ [s[k]'hlt]) ++ r.1, r.2))) := by
              rw [Hid, HQ.out, HDr.out, quM_other _ _ h34 h92]
              simp [Function.comp_def]
            have HAp := hid (app_str d [s[k]'hlt])
            generalize s[k]'hlt = x at *
            clear h92 h34
            go_wp2_with fail
            go_round
            case rel => exact ⟨k + 1, d ++ [x], by omega, by go_num, by rw [← HAp.out, ← HOne.out], HN.out, by simp; omega⟩
            case measure => simp [intOf]; omega
      · have hlt' : ¬ (k : Int) < s.length := by omega
        have hge : (s.length : Int) ≤ k := by omega
        have HR : Hid (quM t = none) := by rw [Hid, HQ.out, List.drop_of_length_le (by omega)]; rfl
        go_wp2_with fail
        go_ret2
        rw [HR.out]
        exact ⟨rfl, rfl⟩
end Go.Proofs.YtgolcmafbenjbaaGreatDoor
