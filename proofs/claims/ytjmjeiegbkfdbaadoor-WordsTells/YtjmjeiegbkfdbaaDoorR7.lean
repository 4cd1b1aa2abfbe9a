/- What this text holds: the document's encoded word. -/
import Derived.Test.YtjmjeiegbkfdbaaDoorR6
namespace Go.Proofs.YtjmjeiegbkfdbaaDoor
open Go.RowKit
set_option linter.unusedVariables false
set_option linter.unusedSimpArgs false

/-- What Word answers. -/
def rwordV (s : Bs) (o : Option (Bs × Bs)) : Value := match o with
  | none => .tuple #[.string ⟨#[]⟩, .int .i64 (-1)]
  | some (x, r) => .tuple #[.string (str x), .int .i64 ((s.length - r.length : Nat) : Int)]
theorem posI_none {s : Bs} {k : Nat} (h : pos (s.drop k) = none) : posI s k = -1 := by unfold posI; rw [h]
theorem posI_some {s u r : Bs} {k : Nat} (h : pos (s.drop k) = some (u, r)) : posI s k = (k + u.length : Nat) := by unfold posI; rw [h]
/-- What lies where. -/
theorem pos_at {s u r : Bs} {k a : Nat} (h : pos (s.drop k) = some (u, r)) (ha : a = k + u.length) (hk : k ≤ s.length) : k ≤ a ∧ a < s.length ∧ s.drop (a + 1) = r ∧ (str s).extract k a = str u ∧ u.length ≤ s.length := by
  obtain ⟨e, _⟩ := pos_some h
  have hl := congrArg List.length e
  rw [List.length_drop, List.length_append, List.length_cons] at hl
  refine ⟨by omega, by omega, ?_, ?_, by omega⟩
  · have : s.drop (a + 1) = (s.drop k).drop (u.length + 1) := by rw [List.drop_drop]; congr 1; omega
    rw [this, e, ← List.drop_drop, List.drop_left]
    rfl
  · rw [mid_str, e, show a - k = u.length by omega, List.take_left]
theorem rword_end (s x : Bs) (c : Nat) (h : c + 2 ≤ s.length) : rwordV s (some (x, s.drop (c + 2))) = .tuple #[.string (str x), .int .i64 ((c : Int) + 2)] := by
  show Value.tuple #[.string (str x), .int .i64 ((s.length - (s.drop (c + 2)).length : Nat) : Int)] = _
  rw [List.length_drop, show s.length - (s.length - (c + 2)) = c + 2 by omega]
  rfl
theorem says_utf {cs way tx x : Bs} (h : low cs = utf8L ∨ low cs = asciiL) (hw : written way tx = some x) : says cs way tx = some x := by
  unfold says; rw [if_pos h]; exact hw
theorem iso_ne {k : Bs} (h : k = isoL) : ¬ (k = utf8L ∨ k = asciiL) := by
  subst h; decide
theorem says_iso {cs way tx x : Bs} (h : low cs = isoL) (hw : written way tx = some x) : says cs way tx = some (latin x) := by
  unfold says; rw [if_neg (iso_ne h), if_pos h, hw]; rfl
theorem says_cs {cs way tx : Bs} (h1 : ¬ low cs = isoL) (h2 : ¬ low cs = utf8L) (h3 : ¬ low cs = asciiL) : says cs way tx = none := by
  unfold says; rw [if_neg (by simp [h2, h3]), if_neg h1]
theorem says_b1 {cs tx : Bs} (h : un tx = none) : says cs [98] tx = none := by
  have : written [98] tx = none := by unfold written; rw [if_pos rfl]; exact h
  unfold says
  rw [this]
  split
  · rfl
  · split <;> rfl
theorem pre2q {b : UInt8} {r : Bs} (h : b ≠ 63) : pre [61, 63] (61 :: b :: r) = false := by simp [pre, h]
theorem pre_short {l : Bs} (h : l.length ≤ 1) : pre [61, 63] l = false := by
  unfold pre
  rw [decide_eq_false]
  intro e
  have := congrArg List.length e
  rw [List.length_take] at this
  simp at this
  omega
theorem no1 {l1 u1 r1 : Bs} (h : pos l1 = some (u1, r1)) (h2 : pos r1 = none) : word (61 :: 63 :: l1) = none := by
  rcases Bool.eq_false_or_eq_true (u1.all graph) with hg | hg
  · exact wordR5 h hg h2
  · exact wordR3 h hg
theorem no2 {l1 u1 r1 u2 r2 : Bs} (h : pos l1 = some (u1, r1)) (h2 : pos r1 = some (u2, r2)) (h3 : pos r2 = none) : word (61 :: 63 :: l1) = none := by
  rcases Bool.eq_false_or_eq_true (u1.all graph) with hg | hg
  · exact wordR8 h hg h2 h3
  · exact wordR3 h hg
theorem no3 {l1 u1 r1 u2 r2 u3 r3 : Bs} (h : pos l1 = some (u1, r1)) (h2 : pos r1 = some (u2, r2)) (h3 : pos r2 = some (u3, r3)) (hb : pre [61] r3 = false ∨ u3.all graph = false) : word (61 :: 63 :: l1) = none := by
  rcases Bool.eq_false_or_eq_true (u1.all graph) with hg | hg
  · exact wordR9 h hg h2 h3 hb
  · exact wordR3 h hg

set_option maxRecDepth 100000 in
set_option maxHeartbeats 8000000 in
theorem rword_any (s : Bs) (i : Nat) (w : World) (hs : s.length ≤ 100000) (hi : i ≤ s.length) : Calls Tryd.prog 44 #[.string (str s), .int .i64 i] w fun e w' => e = .returned (rwordV s (word (s.drop i))) ∧ Below w.heap.size w w' := by
  have hsz := str_size s
  by_cases h1 : i + 1 < s.length
  · have h1' : (i : Int) + 1 < s.length := by omega
    have h1b : decide ((s.length : Int) ≤ (i : Int) + 1) = false := by rw [decide_eq_false]; omega
    have g0 : ((str s)[i]'(by omega)) = s[i] := rfl
    have g1 : ((str s)[i + 1]'(by omega)) = s[i + 1] := rfl
    by_cases h61 : s[i] = 61
    · have n61 : ((s[i].toNat : Int) == 61) = true := by rw [h61]; rfl
      have n61b : ((s[i].toNat : Int) != 61) = false := by rw [bne, n61]; rfl
      by_cases h63 : s[i + 1] = 63
      · have n63 : ((s[i + 1].toNat : Int) == 63) = true := by rw [h63]; rfl
        have n63b : ((s[i + 1].toNat : Int) != 63) = false := by rw [bne, n63]; rfl
        have HD := hid (drop2 s i h1 61 63 h61 h63)
        clear h61 h63
        go_enter Tryd.func44, Tryd.ntmps44
        go_wp2_with fail
        have C := until_any s (i + 2) w (by omega) (by omega)
        rw [show ((i + 2 : Nat) : Int) = (i : Int) + 2 by omega] at C
        rcases p1 : pos (s.drop (i + 2)) with _ | ⟨u1, r1⟩
        · rw [posI_none p1] at C
          have HW : Hid (word (s.drop i) = none) := by rw [Hid, HD.out]; exact wordR2 p1
          clear p1
          refine C.mono ?_
          clear C
          rintro e w2 ⟨rfl, rfl⟩
          go_wp2_with fail
          go_ret2
          rw [HW.out]
          exact ⟨rfl, Below.refl _ _⟩
        · rw [posI_some p1] at C
          obtain ⟨a, ha⟩ : ∃ a, a = i + 2 + u1.length := ⟨_, rfl⟩
          obtain ⟨ia, al, hra, he1, hu1⟩ := pos_at p1 ha (by omega)
          rw [← ha] at C
          have HP1 := hid p1
          have HRa := hid hra
          have ia' : (i : Int) + 2 ≤ a := by omega
          have al' : (a : Int) < s.length := by omega
          have an : ¬ (a : Int) < 0 := by omega
          have and : decide ((a : Int) < 0) = false := by rw [decide_eq_false]; omega
          clear p1 ha hra
          refine C.mono ?_
          clear C
          rintro e w2 ⟨rfl, rfl⟩
          go_wp2_with fail
          have C := until_any s (a + 1) w2 (by omega) (by omega)
          rw [show ((a + 1 : Nat) : Int) = (a : Int) + 1 by omega] at C
          rcases p2 : pos (s.drop (a + 1)) with _ | ⟨u2, r2⟩
          · rw [posI_none p2] at C
            have HW : Hid (word (s.drop i) = none) := by rw [Hid, HD.out]; exact no1 HP1.out (by rw [← HRa.out]; exact p2)
            clear p2
            refine C.mono ?_
            clear C
            rintro e w3 ⟨rfl, rfl⟩
            go_wp2_with fail
            go_ret2
            rw [HW.out]
            exact ⟨rfl, Below.refl _ _⟩
          · rw [posI_some p2] at C
            obtain ⟨b, hb⟩ : ∃ b, b = a + 1 + u2.length := ⟨_, rfl⟩
            obtain ⟨ab, bl, hrb, he2, hu2⟩ := pos_at p2 hb (by omega)
            rw [← hb] at C
            have HP2 : Hid (pos r1 = some (u2, r2)) := by rw [Hid, ← HRa.out]; exact p2
            have HRb := hid hrb
            have ab' : (a : Int) + 1 ≤ b := by omega
            have bl' : (b : Int) < s.length := by omega
            have bn : ¬ (b : Int) < 0 := by omega
            have bnd : decide ((b : Int) < 0) = false := by rw [decide_eq_false]; omega
            clear p2 hb hrb
            refine C.mono ?_
            clear C
            rintro e w3 ⟨rfl, rfl⟩
            go_wp2_with fail
            have C := until_any s (b + 1) w3 (by omega) (by omega)
            rw [show ((b + 1 : Nat) : Int) = (b : Int) + 1 by omega] at C
            rcases p3 : pos (s.drop (b + 1)) with _ | ⟨u3, r3⟩
            · rw [posI_none p3] at C
              have HW : Hid (word (s.drop i) = none) := by rw [Hid, HD.out]; exact no2 HP1.out HP2.out (by rw [← HRb.out]; exact p3)
              clear p3
              refine C.mono ?_
              clear C
              rintro e w4 ⟨rfl, rfl⟩
              go_wp2_with fail
              go_ret2
              rw [HW.out]
              exact ⟨rfl, Below.refl _ _⟩
            · rw [posI_some p3] at C
              obtain ⟨c, hc⟩ : ∃ c, c = b + 1 + u3.length := ⟨_, rfl⟩
              obtain ⟨bc, cl, hrc, he3, hu3⟩ := pos_at p3 hc (by omega)
              rw [← hc] at C
              have HP3 : Hid (pos r2 = some (u3, r3)) := by rw [Hid, ← HRb.out]; exact p3
              have HRc := hid hrc
              have bc' : (b : Int) + 1 ≤ c := by omega
              have cl' : (c : Int) < s.length := by omega
              have cn : ¬ (c : Int) < 0 := by omega
              have cnd : decide ((c : Int) < 0) = false := by rw [decide_eq_false]; omega
              clear p3 hc hrc
              refine C.mono ?_
              clear C
              rintro e w4 ⟨rfl, rfl⟩
              by_cases hc1 : c + 1 < s.length
              · have hc1' : (c : Int) + 1 < s.length := by omega
                have hc1b : decide ((s.length : Int) ≤ (c : Int) + 1) = false := by rw [decide_eq_false]; omega
                have g2 : ((str s)[c + 1]'(by omega)) = s[c + 1] := rfl
                by_cases e61 : s[c + 1] = 61
                · have n2 : ((s[c + 1].toNat : Int) == 61) = true := by rw [e61]; rfl
                  have n2b : ((s[c + 1].toNat : Int) != 61) = false := by rw [bne, n2]; rfl
                  have HP4 : Hid (pos r2 = some (u3, 61 :: s.drop (c + 2))) := by
                    rw [Hid, HP3.out, ← HRc.out, drop1v s (c + 1) hc1 61 e61]
                  clear e61
                  go_wp2_with fail
                  refine (rlower_any u1 w4 (by omega)).mono ?_
                  rintro e w5 ⟨rfl, hb⟩
                  have HB5 := hid hb
                  clear hb
                  go_wp2_with fail
                  refine (rlower_any u2 w5 (by omega)).mono ?_
                  rintro e w6 ⟨rfl, hb⟩
                  have HB6 := hid (HB5.out.trans (hb.mono HB5.out.size))
                  clear hb
                  go_wp2_with fail
                  have C := graphic_any (low u1) w6 (by rw [low_len]; omega)
                  rw [graph_low] at C
                  rcases Bool.eq_false_or_eq_true (u1.all graph) with hg1 | hg1
                  · rw [hg1] at C
                    have HG1 := hid hg1
                    clear hg1
                    refine C.mono ?_
                    clear C
                    rintro e w7 ⟨rfl, rfl⟩
                    go_wp2_with fail
                    have C := graphic_any u3 w7 (by omega)
                    rcases Bool.eq_false_or_eq_true (u3.all graph) with hg3 | hg3
                    · rw [hg3] at C
                      have HG3 := hid hg3
                      clear hg3
                      refine C.mono ?_
                      clear C
                      rintro e w8 ⟨rfl, rfl⟩
                      have q1 := eq_lit (low u2) [98]
                      have q2 := eq_lit (low u2) [113]
                      by_cases hwb : low u2 = [98]
                      · rw [decide_eq_true hwb] at q1
                        have HW := hid (wordR10 HP1.out HG1.out HP2.out HP4.out HG3.out (.inl hwb))
                        rw [hwb] at HW
                        rw [hwb, decide_eq_false (by decide)] at q2
                        have HWb := hid hwb
                        clear hwb
                        go_wp2_with fail
                        refine (rq_any u3 w8 (by omega)).mono ?_
                        rintro e w9 ⟨rfl, hb⟩
                        have HB9 := hid (HB6.out.trans (hb.mono HB6.out.size))
                        clear hb
                        go_wp2_with fail
                        have C := runbase64_any u3 w9 (by omega)
                        rcases hu : un u3 with _ | z
                        · rw [unV_no hu] at C
                          have HN : Hid (word (s.drop i) = none) := by
                            rw [Hid, HD.out, HW.out, says_b1 hu]
                            rfl
                          clear hu
                          refine C.mono ?_
                          clear C
                          rintro e w10 ⟨rfl, hb⟩
                          have HB10 := hid (HB9.out.trans (hb.mono HB9.out.size))
                          clear hb
                          go_wp2_with fail
                          go_ret2
                          rw [HN.out]
                          exact ⟨rfl, HB10.out⟩
                        · rw [unV_ok hu] at C
                          have HWr : Hid (written [98] u3 = some z) := by unfold Hid written; rw [if_pos rfl]; exact hu
                          have hzl := un_len hu
                          clear hu
                          refine C.mono ?_
                          clear C
                          rintro e w10 ⟨rfl, hb⟩
                          have HBx := hid (HB9.out.trans (hb.mono HB9.out.size))
                          clear hb
                          have HEnd : Hid (∀ x, rwordV s (some (x, s.drop (c + 2))) = .tuple #[.string (str x), .int .i64 ((c : Int) + 2)]) := by
                            exact fun x => rword_end s x c (by omega)
                          have k1 : ((str (low u1)).toList == [105, 115, 111, 45, 56, 56, 53, 57, 45, 49]) = decide (low u1 = isoL) := eq_lit _ _
                          have k2 : ((str (low u1)).toList == [117, 116, 102, 45, 56]) = decide (low u1 = utf8L) := eq_lit _ _
                          have k3 : ((str (low u1)).toList == [117, 115, 45, 97, 115, 99, 105, 105]) = decide (low u1 = asciiL) := eq_lit _ _
                          by_cases z1 : low u1 = isoL
                          · rw [decide_eq_true z1] at k1
                            have HF : Hid (word (s.drop i) = some (latin (z), s.drop (c + 2))) := by
                              rw [Hid, HD.out, HW.out, says_iso z1 HWr.out]
                              rfl
                            clear z1 k2 k3
                            go_wp2_with fail
                            refine (rlatin_any (z) w10 (by omega)).mono ?_
                            rintro e wl ⟨rfl, rfl⟩
                            go_wp2_with fail
                            go_ret2
                            rw [HF.out]
                            refine ⟨?_, HBx.out⟩
                            rw [HEnd.out]
                            rfl
                          · rw [decide_eq_false z1] at k1
                            by_cases z2 : low u1 = utf8L
                            · rw [decide_eq_true z2] at k2
                              have HF : Hid (word (s.drop i) = some (z, s.drop (c + 2))) := by
                                rw [Hid, HD.out, HW.out, says_utf (.inl z2) HWr.out]
                                rfl
                              clear z1 z2 k3
                              go_wp2_with fail
                              go_ret2
                              rw [HF.out]
                              refine ⟨?_, HBx.out⟩
                              rw [HEnd.out]
                              rfl
                            · rw [decide_eq_false z2] at k2
                              by_cases z3 : low u1 = asciiL
                              · rw [decide_eq_true z3] at k3
                                have HF : Hid (word (s.drop i) = some (z, s.drop (c + 2))) := by
                                  rw [Hid, HD.out, HW.out, says_utf (.inr z3) HWr.out]
                                  rfl
                                clear z1 z2 z3
                                go_wp2_with fail
                                go_ret2
                                rw [HF.out]
                                refine ⟨?_, HBx.out⟩
                                rw [HEnd.out]
                                rfl
                              · rw [decide_eq_false z3] at k3
                                have HF : Hid (word (s.drop i) = none) := by
                                  rw [Hid, HD.out, HW.out, says_cs z1 z2 z3]
                                  rfl
                                clear z1 z2 z3
                                go_wp2_with fail
                                go_ret2
                                rw [HF.out]
                                exact ⟨rfl, HBx.out⟩
                      · rw [decide_eq_false hwb] at q1
                        by_cases hwq : low u2 = [113]
                        · rw [decide_eq_true hwq] at q2
                          have HW := hid (wordR10 HP1.out HG1.out HP2.out HP4.out HG3.out (.inr hwq))
                          rw [hwq] at HW
                          clear hwb hwq
                          have HWr : Hid (written [113] u3 = some (und u3)) := by unfold Hid written; rw [if_neg (by decide), if_pos rfl]
                          have hzl := und_len u3
                          go_wp2_with fail
                          refine (rq_any u3 w8 (by omega)).mono ?_
                          rintro e w9 ⟨rfl, hb⟩
                          have HBx := hid (HB6.out.trans (hb.mono HB6.out.size))
                          clear hb
                          have HEnd : Hid (∀ x, rwordV s (some (x, s.drop (c + 2))) = .tuple #[.string (str x), .int .i64 ((c : Int) + 2)]) := by
                            exact fun x => rword_end s x c (by omega)
                          have k1 : ((str (low u1)).toList == [105, 115, 111, 45, 56, 56, 53, 57, 45, 49]) = decide (low u1 = isoL) := eq_lit _ _
                          have k2 : ((str (low u1)).toList == [117, 116, 102, 45, 56]) = decide (low u1 = utf8L) := eq_lit _ _
                          have k3 : ((str (low u1)).toList == [117, 115, 45, 97, 115, 99, 105, 105]) = decide (low u1 = asciiL) := eq_lit _ _
                          by_cases z1 : low u1 = isoL
                          · rw [decide_eq_true z1] at k1
                            have HF : Hid (word (s.drop i) = some (latin (und u3), s.drop (c + 2))) := by
                              rw [Hid, HD.out, HW.out, says_iso z1 HWr.out]
                              rfl
                            clear z1 k2 k3
                            go_wp2_with fail
                            refine (rlatin_any (und u3) w9 (by omega)).mono ?_
                            rintro e wl ⟨rfl, rfl⟩
                            go_wp2_with fail
                            go_ret2
                            rw [HF.out]
                            refine ⟨?_, HBx.out⟩
                            rw [HEnd.out]
                            rfl
                          · rw [decide_eq_false z1] at k1
                            by_cases z2 : low u1 = utf8L
                            · rw [decide_eq_true z2] at k2
                              have HF : Hid (word (s.drop i) = some (und u3, s.drop (c + 2))) := by
                                rw [Hid, HD.out, HW.out, says_utf (.inl z2) HWr.out]
                                rfl
                              clear z1 z2 k3
                              go_wp2_with fail
                              go_ret2
                              rw [HF.out]
                              refine ⟨?_, HBx.out⟩
                              rw [HEnd.out]
                              rfl
                            · rw [decide_eq_false z2] at k2
                              by_cases z3 : low u1 = asciiL
                              · rw [decide_eq_true z3] at k3
                                have HF : Hid (word (s.drop i) = some (und u3, s.drop (c + 2))) := by
                                  rw [Hid, HD.out, HW.out, says_utf (.inr z3) HWr.out]
                                  rfl
                                clear z1 z2 z3
                                go_wp2_with fail
                                go_ret2
                                rw [HF.out]
                                refine ⟨?_, HBx.out⟩
                                rw [HEnd.out]
                                rfl
                              · rw [decide_eq_false z3] at k3
                                have HF : Hid (word (s.drop i) = none) := by
                                  rw [Hid, HD.out, HW.out, says_cs z1 z2 z3]
                                  rfl
                                clear z1 z2 z3
                                go_wp2_with fail
                                go_ret2
                                rw [HF.out]
                                exact ⟨rfl, HBx.out⟩
                        · rw [decide_eq_false hwq] at q2
                          have HN : Hid (word (s.drop i) = none) := by rw [Hid, HD.out]; exact wordR6 HP1.out HG1.out HP2.out ⟨hwb, hwq⟩
                          clear hwb hwq
                          go_wp2_with fail
                          go_ret2
                          rw [HN.out]
                          exact ⟨rfl, HB6.out⟩
                    · rw [hg3] at C
                      have HN : Hid (word (s.drop i) = none) := by rw [Hid, HD.out]; exact no3 HP1.out HP2.out HP3.out (.inr hg3)
                      clear hg3
                      refine C.mono ?_
                      clear C
                      rintro e w8 ⟨rfl, rfl⟩
                      go_wp2_with fail
                      go_ret2
                      rw [HN.out]
                      exact ⟨rfl, HB6.out⟩
                  · rw [hg1] at C
                    have HN : Hid (word (s.drop i) = none) := by rw [Hid, HD.out]; exact wordR3 HP1.out hg1
                    clear hg1
                    refine C.mono ?_
                    clear C
                    rintro e w7 ⟨rfl, rfl⟩
                    go_wp2_with fail
                    go_ret2
                    rw [HN.out]
                    exact ⟨rfl, HB6.out⟩
                · have n2 : ((s[c + 1].toNat : Int) == 61) = false := u8_ne (n := 61) (by omega) e61
                  have n2b : ((s[c + 1].toNat : Int) != 61) = true := by rw [bne, n2]; rfl
                  have HN : Hid (word (s.drop i) = none) := by
                    rw [Hid, HD.out]
                    refine no3 HP1.out HP2.out HP3.out (.inl ?_)
                    rw [← HRc.out, drop1 s (c + 1) hc1]
                    exact pre_hd e61
                  clear e61
                  go_wp2_with fail
                  go_ret2
                  rw [HN.out]
                  exact ⟨rfl, Below.refl _ _⟩
              · have hc1' : ¬ (c : Int) + 1 < s.length := by omega
                have hc1b : decide ((s.length : Int) ≤ (c : Int) + 1) = true := by rw [decide_eq_true]; omega
                have HN : Hid (word (s.drop i) = none) := by
                  rw [Hid, HD.out]
                  refine no3 HP1.out HP2.out HP3.out (.inl ?_)
                  rw [← HRc.out, List.drop_eq_nil_of_le (by omega)]
                  rfl
                go_wp2_with fail
                go_ret2
                rw [HN.out]
                exact ⟨rfl, Below.refl _ _⟩
      · have n63 : ((s[i + 1].toNat : Int) == 63) = false := u8_ne (n := 63) (by omega) h63
        have n63b : ((s[i + 1].toNat : Int) != 63) = true := by rw [bne, n63]; rfl
        have HN : Hid (word (s.drop i) = none) := by
          rw [Hid, drop2 s i h1 61 _ h61 rfl]
          exact word_no _ (pre2q h63)
        clear h61 h63
        go_enter Tryd.func44, Tryd.ntmps44
        go_wp2_with fail
        go_ret2
        rw [HN.out]
        exact ⟨rfl, Below.refl _ _⟩
    · have n61 : ((s[i].toNat : Int) == 61) = false := u8_ne (n := 61) (by omega) h61
      have n61b : ((s[i].toNat : Int) != 61) = true := by rw [bne, n61]; rfl
      have HN : Hid (word (s.drop i) = none) := by
        rw [Hid, drop1 s i (by omega)]
        exact word_no _ (pre_hd h61)
      clear h61
      go_enter Tryd.func44, Tryd.ntmps44
      go_wp2_with fail
      go_ret2
      rw [HN.out]
      exact ⟨rfl, Below.refl _ _⟩
  · have h1' : ¬ (i : Int) + 1 < s.length := by omega
    have h1b : decide ((s.length : Int) ≤ (i : Int) + 1) = true := by rw [decide_eq_true]; omega
    have HN : Hid (word (s.drop i) = none) := by
      apply word_no
      have hl : (s.drop i).length ≤ 1 := by rw [List.length_drop]; omega
      exact pre_short hl
    go_enter Tryd.func44, Tryd.ntmps44
    go_wp2_with fail
    go_ret2
    rw [HN.out]
    exact ⟨rfl, Below.refl _ _⟩
end Go.Proofs.YtjmjeiegbkfdbaaDoor
