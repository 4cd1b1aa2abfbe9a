/- What this text holds: letters of atoms, words of a status; bytes taken as long as they are such ones; numbers. -/
import Derived.Test.YtpjcpdnolcehcaaGreatDoorM2
import Derived.Lib.IndexLaws
namespace Go.Proofs.YtpjcpdnolcehcaaGreatDoor
open Go.RowKit
set_option linter.unusedVariables false
set_option linter.unusedSimpArgs false

theorem index_not (c : UInt8) : (Go.Lib.indexByte notB c < 0) ↔ notB.contains c = false := by
  constructor
  · intro h
    have h1 := Go.Lib.indexByte_ge notB c
    have := Go.Lib.indexByte_none (show Go.Lib.indexByte notB c = -1 by omega)
    rw [Bool.eq_false_iff]
    intro hc
    obtain ⟨k, hk, e⟩ := List.getElem_of_mem (List.contains_iff_mem.1 hc)
    exact this k (by rw [List.getElem?_eq_getElem hk, e])
  · intro h
    have h1 := Go.Lib.indexByte_ge notB c
    rcases Int.lt_or_le (Go.Lib.indexByte notB c) 0 with h2 | h2
    · exact h2
    · exfalso
      have := (Go.Lib.indexByte_some (show Go.Lib.indexByte notB c = (Go.Lib.indexByte notB c).toNat by omega)).1
      have hm := List.mem_of_getElem? this
      rw [List.contains_iff_mem.2 hm] at h
      cases h
set_option maxRecDepth 100000 in
theorem index_any (c : UInt8) (w : World) : Calls Tryz.prog 67 #[.string (str notB), .int .u8 c.toNat] w fun e w' => e = .returned (.int .i64 (Go.Lib.indexByte notB c)) ∧ w' = w := by
  have C := Tryz.stringslite_IndexByte (str notB) c.toNat w
  have e : (Int.toNat (c.toNat : Int)).toUInt8 = c := by simp
  rw [e] at C
  have e2 : (str notB).data.toList = notB := rfl
  rw [e2] at C
  generalize Go.Lib.indexByte notB c = q at *
  go_enter Tryz.func67, Tryz.ntmps67
  go_wp2_with fail
  refine C.mono ?_
  rintro e w2 ⟨rfl, rfl⟩
  go_wp2_with fail
  go_ret
  exact ⟨rfl, rfl⟩
set_option maxRecDepth 100000 in
theorem letter_any (c : UInt8) (w : World) : Calls Tryz.prog 48 #[.int .u8 c.toNat] w fun e w' => e = .returned (.bool (letB c)) ∧ w' = w := by
  have C := plain_any c w
  have D := index_any c w
  have HI := hid (index_not c)
  have e1 := u8n c 32 (by omega)
  have HB : Hid (letB c = (plB c && (!decide ((c.toNat : Int) = 32)) && !(notB.contains c))) := by
    have e1' : (c == 32) = decide ((c.toNat : Int) = 32) := e1
    rw [Hid, ← e1']; rfl
  clear e1
  generalize Go.Lib.indexByte notB c = q at *
  generalize plB c = p at *
  generalize letB c = z at *
  by_cases h32 : (c.toNat : Int) = 32
  · have h1' : ((c.toNat : Int) != 32) = false := by simpa using h32
    have hz : z = false := by rw [HB.out]; simp [h32]
    subst hz
    clear h32
    go_enter Tryz.func48, Tryz.ntmps48
    go_wp2_with fail
    refine C.mono ?_
    rintro e w2 ⟨rfl, rfl⟩
    cases p
    · go_wp2_with fail
      go_ret
      exact ⟨rfl, rfl⟩
    · go_wp2_with fail
      go_ret
      exact ⟨rfl, rfl⟩
  · have h1' : ((c.toNat : Int) != 32) = true := by simpa using h32
    have hz : z = (p && !(notB.contains c)) := by rw [HB.out]; simp [h32]
    subst hz
    clear h32
    go_enter Tryz.func48, Tryz.ntmps48
    go_wp2_with fail
    refine C.mono ?_
    rintro e w2 ⟨rfl, rfl⟩
    cases p
    · go_wp2_with fail
      go_ret
      exact ⟨rfl, rfl⟩
    · have hD : decide (q < 0) = !(notB.contains c) := by
        rw [Bool.eq_iff_iff, decide_eq_true_eq, HI.out]
        simp
      go_wp2_with fail
      refine D.mono ?_
      rintro e w2 ⟨rfl, rfl⟩
      go_wp2_with fail
      go_ret
      refine ⟨?_, rfl⟩
      simp [← hD]
set_option maxRecDepth 100000 in
theorem status_any (s : Bs) (w : World) : Calls Tryz.prog 30 #[.string (str s)] w fun e w' => e = .returned (.bool (statB s)) ∧ w' = w := by
  have HB : Hid (statB s = ((str s).toList == [79, 75] || (str s).toList == [78, 79] || (str s).toList == [66, 65, 68] || (str s).toList == [66, 89, 69] || (str s).toList == [80, 82, 69, 65, 85, 84, 72])) := by
    rw [Hid, toL]; rfl
  generalize statB s = z at *
  generalize str s = S at *
  go_enter Tryz.func30, Tryz.ntmps30
  go_wp2_with fail
  all_goals
    go_ret
    refine ⟨congrArg (fun b => Ending.returned (Value.bool b)) ?_, rfl⟩
    rw [HB.out]
    simp_all
set_option maxRecDepth 100000 in
set_option maxHeartbeats 1000000 in
theorem run_plain {w : World} {b : Nat} {l : Bs} {o : Nat} (h : RAt w b l o) (hl : l.length ≤ 1000000000) :
    Calls Tryz.prog 78 #[.pointer (some ⟨b, 0, none⟩), .func (.func 50) #[] #[]] w fun e w' => e = .returned (.string (str (l.takeWhile plB))) ∧ RAt w' b (l.dropWhile plB) o ∧ Kept [b] w w' := by
  have hsz := str_size l
  have c0 := h.c0
  have H := hid h
  clear h
  go_enter Tryz.func78, Tryz.ntmps78
  go_wp2_with fail
  go_loop [5] (fun i => ∃ k : Nat, k ≤ l.length ∧ i = .int .i64 k ∧ ∀ j c, j < k → l[j]? = some c → plB c = true) (fun i => l.length - (intOf i).toNat)
  case atStart => exact ⟨0, by omega, rfl, fun j c hj => by omega⟩
  case round =>
    obtain ⟨k, hk, rfl, hall⟩ := hrel
    have HA := hid hall
    clear hall
    by_cases hlt : k < l.length
    · have hlt' : (k : Int) < l.length := by omega
      have hlts : k < (str l).size := by omega
      have g : ((str l)[k]'hlts) = l[k] := rfl
      have C := plain_any l[k] w
      rcases Bool.eq_false_or_eq_true (plB l[k]) with hb | hb
      · rw [hb] at C
        have HN : Hid (∀ j c, j < k + 1 → l[j]? = some c → plB c = true) := by
          intro j c hj hc
          by_cases hjk : j = k
          · subst hjk
            rw [List.getElem?_eq_getElem hlt] at hc
            cases hc
            exact hb
          · exact HA.out j c (by omega) hc
        clear hb
        go_wp2_with fail
        refine C.mono ?_
        clear C
        rintro e w2 ⟨rfl, rfl⟩
        go_wp2_with fail
        go_round
        case rel => exact ⟨k + 1, by omega, by go_num, HN.out⟩
        case measure => simp [intOf]; omega
      · rw [hb] at C
        have HW := hid (while_at plB l k hk HA.out (fun c hc => by
          rw [List.getElem?_eq_getElem hlt] at hc
          cases hc
          exact hb))
        clear hb
        have CB := bytes_yes H.out hl k hk
        go_wp2_with fail
        refine C.mono ?_
        clear C
        rintro e w2 ⟨rfl, rfl⟩
        go_wp2_with fail
        refine CB.mono ?_
        rintro e w2 ⟨rfl, k1, k2⟩
        have K1 := hid k1
        have K2 := hid k2
        clear k1 k2 CB
        go_wp2_with fail
        go_ret
        rw [HW.out.1, HW.out.2]
        exact ⟨rfl, K1.out, K2.out⟩
    · have hlt' : ¬ (k : Int) < l.length := by omega
      have HW := hid (while_at plB l k hk HA.out (fun c hc => by rw [List.getElem?_eq_none (by omega)] at hc; cases hc))
      have CB := bytes_yes H.out hl k hk
      go_wp2_with fail
      refine CB.mono ?_
      rintro e w2 ⟨rfl, k1, k2⟩
      have K1 := hid k1
      have K2 := hid k2
      clear k1 k2 CB
      go_wp2_with fail
      go_ret
      rw [HW.out.1, HW.out.2]
      exact ⟨rfl, K1.out, K2.out⟩
set_option maxRecDepth 100000 in
set_option maxHeartbeats 1000000 in
theorem run_digit {w : World} {b : Nat} {l : Bs} {o : Nat} (h : RAt w b l o) (hl : l.length ≤ 1000000000) :
    Calls Tryz.prog 78 #[.pointer (some ⟨b, 0, none⟩), .func (.func 87) #[] #[]] w fun e w' => e = .returned (.string (str (l.takeWhile dgB))) ∧ RAt w' b (l.dropWhile dgB) o ∧ Kept [b] w w' := by
  have hsz := str_size l
  have c0 := h.c0
  have H := hid h
  clear h
  go_enter Tryz.func78, Tryz.ntmps78
  go_wp2_with fail
  go_loop [5] (fun i => ∃ k : Nat, k ≤ l.length ∧ i = .int .i64 k ∧ ∀ j c, j < k → l[j]? = some c → dgB c = true) (fun i => l.length - (intOf i).toNat)
  case atStart => exact ⟨0, by omega, rfl, fun j c hj => by omega⟩
  case round =>
    obtain ⟨k, hk, rfl, hall⟩ := hrel
    have HA := hid hall
    clear hall
    by_cases hlt : k < l.length
    · have hlt' : (k : Int) < l.length := by omega
      have hlts : k < (str l).size := by omega
      have g : ((str l)[k]'hlts) = l[k] := rfl
      have C := digit_any l[k] w
      rcases Bool.eq_false_or_eq_true (dgB l[k]) with hb | hb
      · rw [hb] at C
        have HN : Hid (∀ j c, j < k + 1 → l[j]? = some c → dgB c = true) := by
          intro j c hj hc
          by_cases hjk : j = k
          · subst hjk
            rw [List.getElem?_eq_getElem hlt] at hc
            cases hc
            exact hb
          · exact HA.out j c (by omega) hc
        clear hb
        go_wp2_with fail
        refine C.mono ?_
        clear C
        rintro e w2 ⟨rfl, rfl⟩
        go_wp2_with fail
        go_round
        case rel => exact ⟨k + 1, by omega, by go_num, HN.out⟩
        case measure => simp [intOf]; omega
      · rw [hb] at C
        have HW := hid (while_at dgB l k hk HA.out (fun c hc => by
          rw [List.getElem?_eq_getElem hlt] at hc
          cases hc
          exact hb))
        clear hb
        have CB := bytes_yes H.out hl k hk
        go_wp2_with fail
        refine C.mono ?_
        clear C
        rintro e w2 ⟨rfl, rfl⟩
        go_wp2_with fail
        refine CB.mono ?_
        rintro e w2 ⟨rfl, k1, k2⟩
        have K1 := hid k1
        have K2 := hid k2
        clear k1 k2 CB
        go_wp2_with fail
        go_ret
        rw [HW.out.1, HW.out.2]
        exact ⟨rfl, K1.out, K2.out⟩
    · have hlt' : ¬ (k : Int) < l.length := by omega
      have HW := hid (while_at dgB l k hk HA.out (fun c hc => by rw [List.getElem?_eq_none (by omega)] at hc; cases hc))
      have CB := bytes_yes H.out hl k hk
      go_wp2_with fail
      refine CB.mono ?_
      rintro e w2 ⟨rfl, k1, k2⟩
      have K1 := hid k1
      have K2 := hid k2
      clear k1 k2 CB
      go_wp2_with fail
      go_ret
      rw [HW.out.1, HW.out.2]
      exact ⟨rfl, K1.out, K2.out⟩
set_option maxRecDepth 100000 in
set_option maxHeartbeats 1000000 in
theorem run_letter {w : World} {b : Nat} {l : Bs} {o : Nat} (h : RAt w b l o) (hl : l.length ≤ 1000000000) :
    Calls Tryz.prog 78 #[.pointer (some ⟨b, 0, none⟩), .func (.func 48) #[] #[]] w fun e w' => e = .returned (.string (str (l.takeWhile letB))) ∧ RAt w' b (l.dropWhile letB) o ∧ Kept [b] w w' := by
  have hsz := str_size l
  have c0 := h.c0
  have H := hid h
  clear h
  go_enter Tryz.func78, Tryz.ntmps78
  go_wp2_with fail
  go_loop [5] (fun i => ∃ k : Nat, k ≤ l.length ∧ i = .int .i64 k ∧ ∀ j c, j < k → l[j]? = some c → letB c = true) (fun i => l.length - (intOf i).toNat)
  case atStart => exact ⟨0, by omega, rfl, fun j c hj => by omega⟩
  case round =>
    obtain ⟨k, hk, rfl, hall⟩ := hrel
    have HA := hid hall
    clear hall
    by_cases hlt : k < l.length
    · have hlt' : (k : Int) < l.length := by omega
      have hlts : k < (str l).size := by omega
      have g : ((str l)[k]'hlts) = l[k] := rfl
      have C := letter_any l[k] w
      rcases Bool.eq_false_or_eq_true (letB l[k]) with hb | hb
      · rw [hb] at C
        have HN : Hid (∀ j c, j < k + 1 → l[j]? = some c → letB c = true) := by
          intro j c hj hc
          by_cases hjk : j = k
          · subst hjk
            rw [List.getElem?_eq_getElem hlt] at hc
            cases hc
            exact hb
          · exact HA.out j c (by omega) hc
        clear hb
        go_wp2_with fail
        refine C.mono ?_
        clear C
        rintro e w2 ⟨rfl, rfl⟩
        go_wp2_with fail
        go_round
        case rel => exact ⟨k + 1, by omega, by go_num, HN.out⟩
        case measure => simp [intOf]; omega
      · rw [hb] at C
        have HW := hid (while_at letB l k hk HA.out (fun c hc => by
          rw [List.getElem?_eq_getElem hlt] at hc
          cases hc
          exact hb))
        clear hb
        have CB := bytes_yes H.out hl k hk
        go_wp2_with fail
        refine C.mono ?_
        clear C
        rintro e w2 ⟨rfl, rfl⟩
        go_wp2_with fail
        refine CB.mono ?_
        rintro e w2 ⟨rfl, k1, k2⟩
        have K1 := hid k1
        have K2 := hid k2
        clear k1 k2 CB
        go_wp2_with fail
        go_ret
        rw [HW.out.1, HW.out.2]
        exact ⟨rfl, K1.out, K2.out⟩
    · have hlt' : ¬ (k : Int) < l.length := by omega
      have HW := hid (while_at letB l k hk HA.out (fun c hc => by rw [List.getElem?_eq_none (by omega)] at hc; cases hc))
      have CB := bytes_yes H.out hl k hk
      go_wp2_with fail
      refine CB.mono ?_
      rintro e w2 ⟨rfl, k1, k2⟩
      have K1 := hid k1
      have K2 := hid k2
      clear k1 k2 CB
      go_wp2_with fail
      go_ret
      rw [HW.out.1, HW.out.2]
      exact ⟨rfl, K1.out, K2.out⟩
end Go.Proofs.YtpjcpdnolcehcaaGreatDoor
