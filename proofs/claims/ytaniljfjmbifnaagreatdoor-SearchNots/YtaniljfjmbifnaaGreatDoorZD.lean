/- What this text holds: the program's reader: upTo, minutes, name, month, weekday. · What this text holds: the program's reader: day. (Written by genr.py.) · What this text holds: the program's reader: clock, zone. (Written by genr.py.) · What this text holds: the program's reader: internal. (Written by genr.py.) · What this text holds: the program's reader: mail. (Written by genr.py.) -/
import Derived.Test.YtaniljfjmbifnaaGreatDoorZC
namespace Go.Proofs.YtaniljfjmbifnaaGreatDoor.D
open Go.RowKit
set_option linter.unusedVariables false
set_option linter.unusedSimpArgs false

theorem num_len {least most : Nat} {l l' : Bs} {n : Int} (h : numP least most l = some (n, l')) : l'.length ≤ l.length := by
  unfold numP at h
  split at h
  · cases h
  · simp at h; obtain ⟨_, rfl⟩ := h; simp
theorem tw_all : ∀ (l : Bs) (c : UInt8), c ∈ l.takeWhile digB → digB c = true
  | [], c, h => by simp at h
  | a :: l, c, h => by
    by_cases ha : digB a = true
    · simp [List.takeWhile, ha] at h
      rcases h with rfl | h
      · exact ha
      · exact tw_all l c h
    · simp [List.takeWhile, ha] at h
theorem num_range {least most : Nat} {l l' : Bs} {n : Int} (hm : most ≤ 4) (h : numP least most l = some (n, l')) : 0 ≤ n ∧ n < 10000 := by
  unfold numP at h
  split at h
  · cases h
  · simp at h
    obtain ⟨rfl, _⟩ := h
    have hl : (numL most l).length ≤ most := by
      unfold numL
      refine Nat.le_trans (List.IsPrefix.length_le (List.takeWhile_prefix _)) ?_
      simp
      omega
    have h1 := val_small (numL most l) (numL most l).length (Nat.le_refl _) (fun j hj h => by
      have hm : (numL most l)[j] ∈ numL most l := List.getElem_mem h
      exact tw_all _ _ hm)
    rw [List.take_length] at h1
    have h2 : (10 : Int) ^ (numL most l).length ≤ 10 ^ 4 := by exact_mod_cast Nat.pow_le_pow_right (n := 10) (by omega) (show (numL most l).length ≤ 4 by omega)
    have e : (10 : Int) ^ 4 = 10000 := by decide
    omega
theorem upTo_len {most : Int} {l l' : Bs} {n : Int} (h : upToP most l = some (n, l')) : l'.length ≤ l.length ∧ 0 ≤ n ∧ n ≤ most := by
  unfold upToP at h
  split at h
  · rename_i m r hq
    split at h
    · cases h
    · cases h
      have := num_range (by omega) hq
      exact ⟨num_len hq, by omega, by omega⟩
  · cases h

set_option maxRecDepth 100000 in
set_option maxHeartbeats 1000000 in
theorem upTo_any {w : World} {b : Nat} {l : Bs} {t : Dt} (h : RAt w b ⟨l, t⟩) (h1 : l.length ≤ 1000000) (most : Int) :
    Calls Tryz.prog 224 #[.pointer (some ⟨b, 0, none⟩), .int .i64 most] w fun e w' => NumOut (upToP most l) b t w e w' := by
  have H := hid h
  clear h
  rcases hq : numP 2 2 l with _ | ⟨n, l'⟩
  · have HP : Hid (upToP most l = none) := by unfold Hid upToP; rw [hq]
    have C := number_any H.out h1 2 2 (by omega) (by omega)
    rw [hq] at C
    have HC := hid C
    clear C hq
    go_enter Tryz.func224, Tryz.ntmps224
    go_wp2_with fail
    refine HC.out.mono ?_
    rintro e w1 ⟨rfl, hk⟩
    refine ⟨rfl, ?_⟩
    change NumOut _ _ _ _ _ _
    rw [HP.out]
    exact ⟨rfl, hk⟩
  · have C := number_any H.out h1 2 2 (by omega) (by omega)
    rw [hq] at C
    have HC := hid C
    by_cases hm : n > most
    · have HP : Hid (upToP most l = none) := by unfold Hid upToP; rw [hq]; simp [hm]
      clear C hq
      go_enter Tryz.func224, Tryz.ntmps224
      go_wp2_with fail
      refine HC.out.mono ?_
      rintro e w1 ⟨rfl, hr, hk⟩
      have HK := hid hk
      clear hr hk
      go_wp2_with fail
      refine (stop_any _).mono ?_
      rintro e w2 ⟨rfl, rfl⟩
      refine ⟨rfl, ?_⟩
      change NumOut _ _ _ _ _ _
      rw [HP.out]
      exact ⟨rfl, HK.out⟩
    · have HP : Hid (upToP most l = some (n, l')) := by unfold Hid upToP; rw [hq]; simp [hm]
      clear C hq
      go_enter Tryz.func224, Tryz.ntmps224
      go_wp2_with fail
      refine HC.out.mono ?_
      rintro e w1 ⟨rfl, hr, hk⟩
      have HK := hid hk
      have HR := hid hr
      clear hr hk
      go_wp2_with fail
      go_ret
      rw [HP.out]
      exact ⟨rfl, HR.out, HK.out⟩

set_option maxRecDepth 100000 in
set_option maxHeartbeats 1000000 in
theorem minutes_any {w : World} {b : Nat} {l : Bs} {t : Dt} (h : RAt w b ⟨l, t⟩) (h1 : l.length ≤ 1000000) :
    Calls Tryz.prog 207 #[.pointer (some ⟨b, 0, none⟩)] w fun e w' => NumOut (minutesP l) b t w e w' := by
  have H := hid h
  clear h
  have C := upTo_any H.out h1 23
  rcases hq : upToP 23 l with _ | ⟨n, l'⟩
  · have HP : Hid (minutesP l = none) := by unfold Hid minutesP; rw [hq]
    rw [hq] at C
    have HC := hid C
    clear C hq
    go_enter Tryz.func207, Tryz.ntmps207
    go_wp2_with fail
    refine HC.out.mono ?_
    rintro e w1 ⟨rfl, hk⟩
    refine ⟨rfl, ?_⟩
    change NumOut _ _ _ _ _ _
    rw [HP.out]
    exact ⟨rfl, hk⟩
  · have hn := upTo_len hq
    have hn1 := hn.2.1
    have hn2 := hn.2.2
    rw [hq] at C
    have HC := hid C
    rcases hq2 : upToP 59 l' with _ | ⟨m, l2⟩
    · have HP : Hid (minutesP l = none) := by unfold Hid minutesP; rw [hq]; simp only; rw [hq2]
      have HQ2 := hid hq2
      clear C hq hq2
      go_enter Tryz.func207, Tryz.ntmps207
      go_wp2_with fail
      refine HC.out.mono ?_
      rintro e w1 ⟨rfl, hr, hk⟩
      have C2 := upTo_any hr (by omega) 59
      rw [HQ2.out] at C2
      have HC2 := hid C2
      have HK := hid hk
      clear hr hk C2
      go_wp2_with fail
      refine HC2.out.mono ?_
      rintro e w2 ⟨rfl, hk⟩
      refine ⟨rfl, ?_⟩
      change NumOut _ _ _ _ _ _
      rw [HP.out]
      exact ⟨rfl, HK.out.trans1 hk⟩
    · have HP : Hid (minutesP l = some (60 * n + m, l2)) := by unfold Hid minutesP; rw [hq]; simp only; rw [hq2]
      have hm := upTo_len hq2
      have hm1 := hm.2.1
      have hm2 := hm.2.2
      have HQ2 := hid hq2
      clear C hq hq2
      go_enter Tryz.func207, Tryz.ntmps207
      go_wp2_with fail
      refine HC.out.mono ?_
      rintro e w1 ⟨rfl, hr, hk⟩
      have C2 := upTo_any hr (by omega) 59
      rw [HQ2.out] at C2
      have HC2 := hid C2
      have HK := hid hk
      clear hr hk C2
      go_wp2_with fail
      refine HC2.out.mono ?_
      rintro e w2 ⟨rfl, hr, hk⟩
      have HR := hid hr
      have HK2 := hid hk
      clear hr hk
      go_wp2_with fail
      go_ret
      rw [HP.out]
      exact ⟨rfl, HR.out, HK.out.trans1 HK2.out⟩

theorem name_find {names l : Bs} {n k : Nat} (hk : k < n) (hn : ∀ j < k, hasP l ((names.drop (3 * j)).take 3) = false) (hy : hasP l ((names.drop (3 * k)).take 3) = true) : nameF names n l = some k := by
  unfold nameF
  rw [List.find?_range_eq_some]
  exact ⟨hy, List.mem_range.2 hk, fun j hj => by simp [hn j hj]⟩
theorem name_none {names l : Bs} {n : Nat} (hn : ∀ j < n, hasP l ((names.drop (3 * j)).take 3) = false) : nameF names n l = none := by
  unfold nameF
  rw [List.find?_eq_none]
  intro i hi
  simp [hn i (List.mem_range.1 hi)]
/-- Which name comes, and what is left behind it. -/
def NameOut (o : Option Nat) (b : Nat) (l : Bs) (t : Dt) (w : World) (e : Ending) (w' : World) : Prop :=
  match o with
  | some i => e = .returned (.int .i64 ((i : Int) + 1)) ∧ RAt w' b ⟨l.drop 3, t⟩ ∧ Kept [b] w w'
  | none => e = .returned (.int .i64 0) ∧ RAt w' b ⟨l, t⟩ ∧ Kept [b] w w'

set_option maxRecDepth 100000 in
set_option maxHeartbeats 1000000 in
theorem name_any {w : World} {b : Nat} {l : Bs} {t : Dt} (h : RAt w b ⟨l, t⟩) (h1 : l.length ≤ 1000000) (names : Bs) (n : Nat) (hn : names.length = 3 * n) (hn1 : n ≤ 100) :
    Calls Tryz.prog 203 #[.pointer (some ⟨b, 0, none⟩), .string (str names)] w fun e w' => NameOut (nameF names n l) b l t w e w' := by
  have hsx := str_size names
  have HM : Hid (∀ k, (str names).extract (3 * k) (3 * k + 3) = str ((names.drop (3 * k)).take 3)) := fun k => by rw [mid_str]; congr 2; omega
  have H := hid h
  clear h
  have HN := hid hn
  have hn' : (names.length : Int) = 3 * n := by omega
  have HN' := hid hn'
  clear hn hn'
  go_enter Tryz.func203, Tryz.ntmps203
  go_wp2_with fail
  go_loopw [5] (fun i wr => ∃ k : Nat, k ≤ n ∧ i = .int .i64 (3 * k : Nat) ∧ RAt wr b ⟨l, t⟩ ∧ Kept [b] w wr ∧ ∀ j < k, hasP l ((names.drop (3 * j)).take 3) = false) (fun i _ => 3 * n - (intOf i).toNat)
  case atStart => exact ⟨0, by omega, rfl, H.out, Kept.refl _ _, fun j hj => by omega⟩
  case round =>
    obtain ⟨k, hk, rfl, hr, hkp, ha⟩ := hrel
    have HR := hid hr
    have HK := hid hkp
    have HA := hid ha
    clear hr hkp ha
    by_cases hkn : k < n
    · have g1 : 3 * (k : Int) < names.length := by have := HN'.out; omega
      have g2 : 3 * (k : Int) + 3 ≤ names.length := by have := HN'.out; omega
      have e3 : (3 * (k : Int)).tdiv 3 = k := by rw [tdiv_pos _ _ (by omega)]; omega
      have hl3 : ((names.drop (3 * k)).take 3).length = 3 := by have := HN.out; simp; omega
      rcases Bool.eq_false_or_eq_true (hasP l ((names.drop (3 * k)).take 3)) with hb | hb
      · have HF := hid (name_find hkn HA.out hb)
        have C := takes_yes HR.out _ h1 hb
        rw [hl3, ← HM.out k] at C
        have HC := hid C
        clear C hb hl3
        go_wp2_with fail
        refine HC.out.mono ?_
        rintro e w1 ⟨rfl, hr, hk⟩
        have HR1 := hid hr
        have HK1 := hid hk
        clear hr hk
        go_wp2_with fail
        go_ret
        rw [HF.out]
        exact ⟨rfl, HR1.out, HK.out.trans1 HK1.out⟩
      · have HB := hid hb
        have C := takes_no HR.out _ h1 (by omega) hb
        rw [← HM.out k] at C
        have HC := hid C
        clear C hb hl3
        go_wp2_with fail
        refine HC.out.mono ?_
        rintro e w1 ⟨rfl, hr, hk⟩
        have HR1 := hid hr
        have HK1 := hid hk
        clear hr hk
        go_wp2_with fail
        go_roundw
        case rel => exact ⟨k + 1, by omega, by go_num, HR1.out, HK.out.trans1 HK1.out, fun j hj => by
          by_cases hjk : j < k
          · exact HA.out j hjk
          · obtain rfl : j = k := by omega
            exact HB.out⟩
        case measure => simp [intOf]; omega
    · obtain rfl : k = n := by omega
      have g1 : ¬ 3 * (k : Int) < names.length := by have := HN'.out; omega
      have HF := hid (name_none HA.out)
      go_wp2_with fail
      go_ret
      rw [HF.out]
      exact ⟨rfl, HR.out, HK.out⟩

set_option maxRecDepth 100000 in
set_option maxHeartbeats 1000000 in
theorem month_any {w : World} {b : Nat} {l : Bs} {t : Dt} (h : RAt w b ⟨l, t⟩) (h1 : l.length ≤ 1000000) :
    Calls Tryz.prog 168 #[.pointer (some ⟨b, 0, none⟩)] w fun e w' => NumOut (monthP l) b t w e w' := by
  have C := name_any h h1 months 12 rfl (by omega)
  clear h
  rcases hq : nameF months 12 l with _ | i
  · have HP : Hid (monthP l = none) := by unfold Hid monthP; rw [hq]
    rw [hq] at C
    have HC := hid C
    clear C hq
    go_enter Tryz.func168, Tryz.ntmps168
    go_wp2_with fail
    refine HC.out.mono ?_
    rintro e w1 ⟨rfl, hr, hk⟩
    have HK := hid hk
    clear hr hk
    go_wp2_with fail
    refine (stop_any _).mono ?_
    rintro e w2 ⟨rfl, rfl⟩
    refine ⟨rfl, ?_⟩
    change NumOut _ _ _ _ _ _
    rw [HP.out]
    exact ⟨rfl, HK.out⟩
  · have HP : Hid (monthP l = some ((i : Int) + 1, l.drop 3)) := by unfold Hid monthP; rw [hq]
    have g : ((i : Int) + 1 == 0) = false := by simp; omega
    rw [hq] at C
    have HC := hid C
    clear C hq
    go_enter Tryz.func168, Tryz.ntmps168
    go_wp2_with fail
    refine HC.out.mono ?_
    rintro e w1 ⟨rfl, hr, hk⟩
    have HR := hid hr
    have HK := hid hk
    clear hr hk
    go_wp2_with fail
    go_ret
    rw [HP.out]
    exact ⟨rfl, HR.out, HK.out⟩

/-- What is left, or a stop. -/
def SkipOut (o : Option Bs) (b : Nat) (t : Dt) (w : World) (e : Ending) (w' : World) : Prop :=
  match o with
  | some l' => e = .returned (.tuple #[]) ∧ RAt w' b ⟨l', t⟩ ∧ Kept [b] w w'
  | none => e = .panicked faultC ∧ Kept [b] w w'
theorem need_any {w : World} {b : Nat} {l : Bs} {t : Dt} (h : RAt w b ⟨l, t⟩) (x : Bs) (h1 : l.length ≤ 1000000) (h2 : x.length ≤ 1000000) :
    Calls Tryz.prog 204 #[.pointer (some ⟨b, 0, none⟩), .string (str x)] w fun e w' => SkipOut (needP x l) b t w e w' := by
  unfold needP
  rcases Bool.eq_false_or_eq_true (hasP l x) with hb | hb
  · rw [hb]; exact need_yes h x h1 hb
  · rw [hb]; exact need_no h x h1 h2 hb
theorem gap_any {w : World} {b : Nat} {l : Bs} {t : Dt} (h : RAt w b ⟨l, t⟩) (h1 : l.length ≤ 1000000) :
    Calls Tryz.prog 167 #[.pointer (some ⟨b, 0, none⟩)] w fun e w' => SkipOut (gapP l) b t w e w' := by
  rcases hb : gapP l with _ | l'
  · exact gap_no h h1 hb
  · exact gap_yes h h1 hb
theorem need_len {x l l' : Bs} (h : needP x l = some l') : l'.length ≤ l.length := by
  unfold needP at h
  split at h
  · cases h; simp
  · cases h
theorem dw_len : ∀ l : Bs, (l.dropWhile blankB).length ≤ l.length
  | [] => by simp
  | c :: l => by
    have := dw_len l
    by_cases h : blankB c = true
    · simp [List.dropWhile, h]; omega
    · simp [List.dropWhile, h]
theorem gap_len {l l' : Bs} (h : gapP l = some l') : l'.length ≤ l.length := by
  rw [gap_head] at h
  split at h
  · cases h; exact dw_len l
  · cases h

set_option maxRecDepth 100000 in
set_option maxHeartbeats 1000000 in
theorem weekday_any {w : World} {b : Nat} {l : Bs} {t : Dt} (h : RAt w b ⟨l, t⟩) (h1 : l.length ≤ 1000000) :
    Calls Tryz.prog 165 #[.pointer (some ⟨b, 0, none⟩)] w fun e w' => SkipOut (weekdayP l) b t w e w' := by
  have C := name_any h h1 weekdays 7 rfl (by omega)
  clear h
  rcases hq : nameF weekdays 7 l with _ | i
  · have HP : Hid (weekdayP l = some l) := by unfold Hid weekdayP; rw [hq]
    rw [hq] at C
    have HC := hid C
    clear C hq
    go_enter Tryz.func165, Tryz.ntmps165
    go_wp2_with fail
    refine HC.out.mono ?_
    rintro e w1 ⟨rfl, hr, hk⟩
    have HK := hid hk
    have HR := hid hr
    clear hr hk
    go_wp2_with fail
    go_end0
    rw [HP.out]
    exact ⟨rfl, HR.out, HK.out⟩
  · have HP : Hid (weekdayP l = (needP [44] (l.drop 3)).bind gapP) := by unfold Hid weekdayP; rw [hq]
    have g : (0 : Int) < (i : Int) + 1 := by omega
    rw [hq] at C
    have HC := hid C
    clear C hq
    rcases hq1 : needP [44] (l.drop 3) with _ | l1
    · rw [hq1, Option.bind_none] at HP
      have HQ := hid hq1
      clear hq1
      go_enter Tryz.func165, Tryz.ntmps165
      go_wp2_with fail
      refine HC.out.mono ?_
      rintro e w1 ⟨rfl, hr, hk⟩
      have HK := hid hk
      have C2 := need_any hr [44] (by simp; omega) (by simp)
      rw [HQ.out] at C2
      have HC2 := hid C2
      clear hr hk C2
      go_wp2_with fail
      refine HC2.out.mono ?_
      rintro e w2 ⟨rfl, hk⟩
      refine ⟨rfl, ?_⟩
      change SkipOut _ _ _ _ _ _
      rw [HP.out]
      exact ⟨rfl, HK.out.trans1 hk⟩
    · rw [hq1, Option.bind_some] at HP
      have HQ := hid hq1
      have hl1 : l1.length ≤ 1000000 := by have := need_len hq1; simp at this; omega
      clear hq1
      go_enter Tryz.func165, Tryz.ntmps165
      go_wp2_with fail
      refine HC.out.mono ?_
      rintro e w1 ⟨rfl, hr, hk⟩
      have HK := hid hk
      have C2 := need_any hr [44] (by simp; omega) (by simp)
      rw [HQ.out] at C2
      have HC2 := hid C2
      clear hr hk C2
      go_wp2_with fail
      refine HC2.out.mono ?_
      rintro e w2 ⟨rfl, hr, hk⟩
      have HK2 := hid (HK.out.trans1 hk)
      have HC3 := hid (gap_any hr hl1)
      clear hr hk
      go_wp2_with fail
      refine HC3.out.mono ?_
      rintro e w3 h3
      have H3 := hid h3
      clear h3
      rcases hq2 : gapP l1 with _ | l2
      · rw [hq2] at H3 HP
        obtain ⟨rfl, hk⟩ := H3.out
        refine ⟨rfl, ?_⟩
        change SkipOut _ _ _ _ _ _
        rw [HP.out]
        exact ⟨rfl, HK2.out.trans1 hk⟩
      · rw [hq2] at H3 HP
        obtain ⟨rfl, hr, hk⟩ := H3.out
        have HR := hid hr
        have HK3 := hid hk
        clear hr hk H3 hq2
        go_wp2_with fail
        go_end0
        rw [HP.out]
        exact ⟨rfl, HR.out, HK2.out.trans1 HK3.out⟩
end Go.Proofs.YtaniljfjmbifnaaGreatDoor.D
namespace Go.Proofs.YtaniljfjmbifnaaGreatDoor.D
open Go.RowKit
set_option linter.unusedVariables false
set_option linter.unusedSimpArgs false

theorem month_len {l l' : Bs} {n : Int} (h : monthP l = some (n, l')) : l'.length ≤ l.length := by
  unfold monthP at h
  split at h
  · cases h; simp
  · cases h
theorem weekday_len {l l' : Bs} (h : weekdayP l = some l') : l'.length ≤ l.length := by
  unfold weekdayP at h
  split at h
  · rcases hq : needP [44] (l.drop 3) with _ | l1
    · rw [hq] at h; cases h
    · rw [hq] at h
      have h1 := need_len hq
      have h2 := gap_len h
      simp at h1
      omega
  · cases h; simp
theorem minutes_both {l l' : Bs} {n : Int} (h : minutesP l = some (n, l')) : l'.length ≤ l.length ∧ 0 ≤ n ∧ n ≤ 1439 := by
  unfold minutesP at h
  split at h
  · rename_i h1 r1 e1
    split at h
    · rename_i h2 r2 e2
      cases h
      have := upTo_len e1
      have := upTo_len e2
      omega
    · cases h
  · cases h
theorem minutes_len {l l' : Bs} {n : Int} (h : minutesP l = some (n, l')) : l'.length ≤ l.length := (minutes_both h).1
theorem minutes_range {l l' : Bs} {n : Int} (h : minutesP l = some (n, l')) : 0 ≤ n ∧ n ≤ 1439 := (minutes_both h).2
/-- The reader as it stands behind a call, or a stop. -/
def RdOut (o : Option Rd) (b : Nat) (w : World) (e : Ending) (w' : World) : Prop :=
  match o with
  | some s => e = .returned (.tuple #[]) ∧ RAt w' b s ∧ Kept [b] w w'
  | none => e = .panicked faultC ∧ Kept [b] w w'

end Go.Proofs.YtaniljfjmbifnaaGreatDoor.D
namespace Go.Proofs.YtaniljfjmbifnaaGreatDoor.D
open Go.RowKit
set_option linter.unusedVariables false
set_option linter.unusedSimpArgs false

set_option maxRecDepth 100000 in
set_option maxHeartbeats 4000000 in
theorem clock_any {w : World} {b : Nat} {l : Bs} {t : Dt} (h : RAt w b ⟨l, t⟩) (h1 : l.length ≤ 1000000) :
    Calls Tryz.prog 169 #[.pointer (some ⟨b, 0, none⟩)] w fun e w' => RdOut (clockR ⟨l, t⟩) b w e w' := by
  have HR0 := hid h
  have HL0 := hid h1
  have HK0 := hid (Kept.refl [b] w)
  clear h h1
  go_enter Tryz.func169, Tryz.ntmps169
  go_wp2_with fail
  have C := number_any HR0.out HL0.out 2 2 (by omega) (by omega)
  rcases hq : numP 2 2 l with _ | ⟨n1, l1⟩
  · rw [hq] at C
    have HQ1 := hid hq
    refine C.mono ?_
    rintro e w1 ⟨rfl, hk⟩
    refine ⟨rfl, ?_⟩
    change RdOut _ _ _ _ _
    have HP : clockR ⟨l, t⟩ = none := by
      unfold clockR clockP
      simp only [HQ1.out, Option.bind_some, Option.bind_none, if_true, Bool.false_eq_true, if_false, Option.getD_some, Option.getD_none, Option.map_some, Option.map_none]
    rw [HP]
    exact ⟨rfl, HK0.out.trans1 hk⟩
  · rw [hq] at C
    have HQ1 := hid hq
    have HL1 : Hid (l1.length ≤ 1000000) := by have h1 := num_len hq; have h2 := HL0.out; unfold Hid; omega
    clear hq
    refine C.mono ?_
    clear C
    rintro e w1 ⟨rfl, hr, hk⟩
    have HR1 := hid hr
    have HK1 := hid (HK0.out.trans1 hk)
    have hcs := hr.cs
    have cc := hcs.2.2.2.1
    have cf := hr.fz 4
    simp only at cc
    clear hcs hr hk
    skip
    go_wp2_with fail
    have HR1' := hid (HR1.out.set 4 (.int .i64 n1) ⟨l1, ⟨t.y, t.mo, t.d, n1, t.mi, t.s, t.z⟩⟩ rfl)
    have HK1' := hid (HK1.out.trans1 (Kept.setCell [b] w1 ⟨b, 4, none⟩ (.int .i64 n1) (by simp)))
    clear HR1 HK1 cc cf
    have HR1 := HR1'
    have HK1 := HK1'
    clear HR1' HK1'
    generalize w1.setCell ⟨b, 4, none⟩ (.int .i64 n1) = v1 at HR1 HK1 ⊢
    go_wp2_with fail
    have C := need_any HR1.out [58] HL1.out (by simp)
    rcases hq : needP [58] l1 with _ | l2
    · rw [hq] at C
      have HQ2 := hid hq
      refine C.mono ?_
      rintro e w2 ⟨rfl, hk⟩
      refine ⟨rfl, ?_⟩
      change RdOut _ _ _ _ _
      have HP : clockR ⟨l, t⟩ = none := by
        unfold clockR clockP
        simp only [HQ1.out, HQ2.out, Option.bind_some, Option.bind_none, if_true, Bool.false_eq_true, if_false, Option.getD_some, Option.getD_none, Option.map_some, Option.map_none]
      rw [HP]
      exact ⟨rfl, HK1.out.trans1 hk⟩
    · rw [hq] at C
      have HQ2 := hid hq
      have HL2 : Hid (l2.length ≤ 1000000) := by have h1 := need_len hq; have h2 := HL1.out; unfold Hid; omega
      clear hq
      refine C.mono ?_
      clear C
      rintro e w2 ⟨rfl, hr, hk⟩
      have HR2 := hid hr
      have HK2 := hid (HK1.out.trans1 hk)
      clear hr hk
      go_wp2_with fail
      have C := number_any HR2.out HL2.out 2 2 (by omega) (by omega)
      rcases hq : numP 2 2 l2 with _ | ⟨n3, l3⟩
      · rw [hq] at C
        have HQ3 := hid hq
        refine C.mono ?_
        rintro e w3 ⟨rfl, hk⟩
        refine ⟨rfl, ?_⟩
        change RdOut _ _ _ _ _
        have HP : clockR ⟨l, t⟩ = none := by
          unfold clockR clockP
          simp only [HQ1.out, HQ2.out, HQ3.out, Option.bind_some, Option.bind_none, if_true, Bool.false_eq_true, if_false, Option.getD_some, Option.getD_none, Option.map_some, Option.map_none]
        rw [HP]
        exact ⟨rfl, HK2.out.trans1 hk⟩
      · rw [hq] at C
        have HQ3 := hid hq
        have HL3 : Hid (l3.length ≤ 1000000) := by have h1 := num_len hq; have h2 := HL2.out; unfold Hid; omega
        clear hq
        refine C.mono ?_
        clear C
        rintro e w3 ⟨rfl, hr, hk⟩
        have HR3 := hid hr
        have HK3 := hid (HK2.out.trans1 hk)
        have hcs := hr.cs
        have cc := hcs.2.2.2.2.1
        have cf := hr.fz 5
        simp only at cc
        clear hcs hr hk
        skip
        go_wp2_with fail
        have HR3' := hid (HR3.out.set 5 (.int .i64 n3) ⟨l3, ⟨t.y, t.mo, t.d, n1, n3, t.s, t.z⟩⟩ rfl)
        have HK3' := hid (HK3.out.trans1 (Kept.setCell [b] w3 ⟨b, 5, none⟩ (.int .i64 n3) (by simp)))
        clear HR3 HK3 cc cf
        have HR3 := HR3'
        have HK3 := HK3'
        clear HR3' HK3'
        generalize w3.setCell ⟨b, 5, none⟩ (.int .i64 n3) = v3 at HR3 HK3 ⊢
        go_wp2_with fail
        rcases Bool.eq_false_or_eq_true (hasP l3 [58]) with hb | hb
        · have HQ4 := hid hb
          refine (takes_yes HR3.out [58] HL3.out hb).mono ?_
          rintro e w4 ⟨rfl, hr, hk⟩
          have HR4 : Hid (RAt w4 b ⟨(l3.drop 1), ⟨t.y, t.mo, t.d, n1, n3, t.s, t.z⟩⟩) := hr
          have HK4 := hid (HK3.out.trans1 hk)
          have HL4 : Hid ((l3.drop 1).length ≤ 1000000) := by have h2 := HL3.out; unfold Hid; simp; omega
          clear hr hk hb
          go_wp2_with fail
          have C := number_any HR4.out HL4.out 2 2 (by omega) (by omega)
          rcases hq : numP 2 2 (l3.drop 1) with _ | ⟨n5, l5⟩
          · rw [hq] at C
            have HQ5 := hid hq
            refine C.mono ?_
            rintro e w5 ⟨rfl, hk⟩
            refine ⟨rfl, ?_⟩
            change RdOut _ _ _ _ _
            have HP : clockR ⟨l, t⟩ = none := by
              unfold clockR clockP
              simp only [HQ1.out, HQ2.out, HQ3.out, HQ4.out, HQ5.out, Option.bind_some, Option.bind_none, if_true, Bool.false_eq_true, if_false, Option.getD_some, Option.getD_none, Option.map_some, Option.map_none]
            rw [HP]
            exact ⟨rfl, HK4.out.trans1 hk⟩
          · rw [hq] at C
            have HQ5 := hid hq
            have HL5 : Hid (l5.length ≤ 1000000) := by have h1 := num_len hq; have h2 := HL4.out; unfold Hid; omega
            clear hq
            refine C.mono ?_
            clear C
            rintro e w5 ⟨rfl, hr, hk⟩
            have HR5 := hid hr
            have HK5 := hid (HK4.out.trans1 hk)
            have hcs := hr.cs
            have cc := hcs.2.2.2.2.2.1
            have cf := hr.fz 6
            simp only at cc
            clear hcs hr hk
            skip
            go_wp2_with fail
            have HR5' := hid (HR5.out.set 6 (.int .i64 n5) ⟨l5, ⟨t.y, t.mo, t.d, n1, n3, n5, t.z⟩⟩ rfl)
            have HK5' := hid (HK5.out.trans1 (Kept.setCell [b] w5 ⟨b, 6, none⟩ (.int .i64 n5) (by simp)))
            clear HR5 HK5 cc cf
            have HR5 := HR5'
            have HK5 := HK5'
            clear HR5' HK5'
            generalize w5.setCell ⟨b, 6, none⟩ (.int .i64 n5) = v5 at HR5 HK5 ⊢
            go_wp2_with fail
            go_end0
            have HP : clockR ⟨l, t⟩ = some ⟨l5, ⟨t.y, t.mo, t.d, n1, n3, n5, t.z⟩⟩ := by
              unfold clockR clockP
              simp only [HQ1.out, HQ2.out, HQ3.out, HQ4.out, HQ5.out, Option.bind_some, Option.bind_none, if_true, Bool.false_eq_true, if_false, Option.getD_some, Option.getD_none, Option.map_some, Option.map_none]
            rw [HP]
            exact ⟨rfl, HR5.out, HK5.out⟩
        · have HQ4 := hid hb
          refine (takes_no HR3.out [58] HL3.out (by simp) hb).mono ?_
          rintro e w4 ⟨rfl, hr, hk⟩
          have HR4 : Hid (RAt w4 b ⟨l3, ⟨t.y, t.mo, t.d, n1, n3, t.s, t.z⟩⟩) := hr
          have HK4 := hid (HK3.out.trans1 hk)
          have HL4 := HL3
          clear hr hk hb
          go_wp2_with fail
          go_end0
          have HP : clockR ⟨l, t⟩ = some ⟨l3, ⟨t.y, t.mo, t.d, n1, n3, t.s, t.z⟩⟩ := by
            unfold clockR clockP
            simp only [HQ1.out, HQ2.out, HQ3.out, HQ4.out, Option.bind_some, Option.bind_none, if_true, Bool.false_eq_true, if_false, Option.getD_some, Option.getD_none, Option.map_some, Option.map_none]
          rw [HP]
          exact ⟨rfl, HR4.out, HK4.out⟩
set_option maxRecDepth 100000 in
set_option maxHeartbeats 4000000 in
theorem zone_any {w : World} {b : Nat} {l : Bs} {t : Dt} (h : RAt w b ⟨l, t⟩) (h1 : l.length ≤ 1000000) :
    Calls Tryz.prog 170 #[.pointer (some ⟨b, 0, none⟩)] w fun e w' => RdOut (zoneR ⟨l, t⟩) b w e w' := by
  have HR0 := hid h
  have HL0 := hid h1
  have HK0 := hid (Kept.refl [b] w)
  clear h h1
  go_enter Tryz.func170, Tryz.ntmps170
  go_wp2_with fail
  rcases Bool.eq_false_or_eq_true (hasP l [43]) with hb | hb
  · have HQ1 := hid hb
    refine (takes_yes HR0.out [43] HL0.out hb).mono ?_
    rintro e w1 ⟨rfl, hr, hk⟩
    have HR1 : Hid (RAt w1 b ⟨(l.drop 1), t⟩) := hr
    have HK1 := hid (HK0.out.trans1 hk)
    have HL1 : Hid ((l.drop 1).length ≤ 1000000) := by have h2 := HL0.out; unfold Hid; simp; omega
    clear hr hk hb
    go_wp2_with fail
    have C := minutes_any HR1.out HL1.out
    rcases hq : minutesP (l.drop 1) with _ | ⟨n2, l2⟩
    · rw [hq] at C
      have HQ2 := hid hq
      refine C.mono ?_
      rintro e w2 ⟨rfl, hk⟩
      refine ⟨rfl, ?_⟩
      change RdOut _ _ _ _ _
      have HP : zoneR ⟨l, t⟩ = none := by
        unfold zoneR zoneP
        simp only [HQ1.out, HQ2.out, Option.bind_some, Option.bind_none, if_true, Bool.false_eq_true, if_false, Option.getD_some, Option.getD_none, Option.map_some, Option.map_none]
      rw [HP]
      exact ⟨rfl, HK1.out.trans1 hk⟩
    · rw [hq] at C
      have HQ2 := hid hq
      have HL2 : Hid (l2.length ≤ 1000000) := by have h1 := minutes_len hq; have h2 := HL1.out; unfold Hid; omega
      have hz1 := (minutes_range hq).1
      have hz2 := (minutes_range hq).2
      clear hq
      refine C.mono ?_
      clear C
      rintro e w2 ⟨rfl, hr, hk⟩
      have HR2 := hid hr
      have HK2 := hid (HK1.out.trans1 hk)
      have hcs := hr.cs
      have cc := hcs.2.2.2.2.2.2
      have cf := hr.fz 7
      simp only at cc
      clear hcs hr hk
      skip
      go_wp2_with fail
      have HR2' := hid (HR2.out.set 7 (.int .i64 n2) ⟨l2, ⟨t.y, t.mo, t.d, t.h, t.mi, t.s, n2⟩⟩ rfl)
      have HK2' := hid (HK2.out.trans1 (Kept.setCell [b] w2 ⟨b, 7, none⟩ (.int .i64 n2) (by simp)))
      clear HR2 HK2 cc cf
      have HR2 := HR2'
      have HK2 := HK2'
      clear HR2' HK2'
      generalize w2.setCell ⟨b, 7, none⟩ (.int .i64 n2) = v2 at HR2 HK2 ⊢
      go_wp2_with fail
      go_end0
      have HP : zoneR ⟨l, t⟩ = some ⟨l2, ⟨t.y, t.mo, t.d, t.h, t.mi, t.s, n2⟩⟩ := by
        unfold zoneR zoneP
        simp only [HQ1.out, HQ2.out, Option.bind_some, Option.bind_none, if_true, Bool.false_eq_true, if_false, Option.getD_some, Option.getD_none, Option.map_some, Option.map_none]
      rw [HP]
      exact ⟨rfl, HR2.out, HK2.out⟩
  · have HQ1 := hid hb
    refine (takes_no HR0.out [43] HL0.out (by simp) hb).mono ?_
    rintro e w1 ⟨rfl, hr, hk⟩
    have HR1 : Hid (RAt w1 b ⟨l, t⟩) := hr
    have HK1 := hid (HK0.out.trans1 hk)
    have HL1 := HL0
    clear hr hk hb
    go_wp2_with fail
    rcases Bool.eq_false_or_eq_true (hasP l [45]) with hb | hb
    · have HQ2 := hid hb
      refine (takes_yes HR1.out [45] HL1.out hb).mono ?_
      rintro e w2 ⟨rfl, hr, hk⟩
      have HR2 : Hid (RAt w2 b ⟨(l.drop 1), t⟩) := hr
      have HK2 := hid (HK1.out.trans1 hk)
      have HL2 : Hid ((l.drop 1).length ≤ 1000000) := by have h2 := HL1.out; unfold Hid; simp; omega
      clear hr hk hb
      go_wp2_with fail
      have C := minutes_any HR2.out HL2.out
      rcases hq : minutesP (l.drop 1) with _ | ⟨n3, l3⟩
      · rw [hq] at C
        have HQ3 := hid hq
        refine C.mono ?_
        rintro e w3 ⟨rfl, hk⟩
        refine ⟨rfl, ?_⟩
        change RdOut _ _ _ _ _
        have HP : zoneR ⟨l, t⟩ = none := by
          unfold zoneR zoneP
          simp only [HQ1.out, HQ2.out, HQ3.out, Option.bind_some, Option.bind_none, if_true, Bool.false_eq_true, if_false, Option.getD_some, Option.getD_none, Option.map_some, Option.map_none]
        rw [HP]
        exact ⟨rfl, HK2.out.trans1 hk⟩
      · rw [hq] at C
        have HQ3 := hid hq
        have HL3 : Hid (l3.length ≤ 1000000) := by have h1 := minutes_len hq; have h2 := HL2.out; unfold Hid; omega
        have hz1 := (minutes_range hq).1
        have hz2 := (minutes_range hq).2
        clear hq
        refine C.mono ?_
        clear C
        rintro e w3 ⟨rfl, hr, hk⟩
        have HR3 := hid hr
        have HK3 := hid (HK2.out.trans1 hk)
        have hcs := hr.cs
        have cc := hcs.2.2.2.2.2.2
        have cf := hr.fz 7
        simp only at cc
        clear hcs hr hk
        skip
        go_wp2_with fail
        have HR3' := hid (HR3.out.set 7 (.int .i64 (-n3)) ⟨l3, ⟨t.y, t.mo, t.d, t.h, t.mi, t.s, (-n3)⟩⟩ rfl)
        have HK3' := hid (HK3.out.trans1 (Kept.setCell [b] w3 ⟨b, 7, none⟩ (.int .i64 (-n3)) (by simp)))
        clear HR3 HK3 cc cf
        have HR3 := HR3'
        have HK3 := HK3'
        clear HR3' HK3'
        generalize w3.setCell ⟨b, 7, none⟩ (.int .i64 (-n3)) = v3 at HR3 HK3 ⊢
        go_wp2_with fail
        go_end0
        have HP : zoneR ⟨l, t⟩ = some ⟨l3, ⟨t.y, t.mo, t.d, t.h, t.mi, t.s, (-n3)⟩⟩ := by
          unfold zoneR zoneP
          simp only [HQ1.out, HQ2.out, HQ3.out, Option.bind_some, Option.bind_none, if_true, Bool.false_eq_true, if_false, Option.getD_some, Option.getD_none, Option.map_some, Option.map_none]
        rw [HP]
        exact ⟨rfl, HR3.out, HK3.out⟩
    · have HQ2 := hid hb
      refine (takes_no HR1.out [45] HL1.out (by simp) hb).mono ?_
      rintro e w2 ⟨rfl, hr, hk⟩
      have HR2 : Hid (RAt w2 b ⟨l, t⟩) := hr
      have HK2 := hid (HK1.out.trans1 hk)
      have HL2 := HL1
      clear hr hk hb
      go_wp2_with fail
      rcases Bool.eq_false_or_eq_true (hasP l [71, 77, 84]) with hb | hb
      · have HQ3 := hid hb
        refine (takes_yes HR2.out [71, 77, 84] HL2.out hb).mono ?_
        rintro e w3 ⟨rfl, hr, hk⟩
        have HR3 : Hid (RAt w3 b ⟨(l.drop 3), t⟩) := hr
        have HK3 := hid (HK2.out.trans1 hk)
        have HL3 : Hid ((l.drop 3).length ≤ 1000000) := by have h2 := HL2.out; unfold Hid; simp; omega
        clear hr hk hb
        have hcs := HR3.out.cs
        have cc := hcs.2.2.2.2.2.2
        have cf := HR3.out.fz 7
        simp only at cc
        clear hcs
        go_wp2_with fail
        have HR4 := hid (HR3.out.set 7 (.int .i64 0) ⟨(l.drop 3), ⟨t.y, t.mo, t.d, t.h, t.mi, t.s, 0⟩⟩ rfl)
        have HK4 := hid (HK3.out.trans1 (Kept.setCell [b] w3 ⟨b, 7, none⟩ (.int .i64 0) (by simp)))
        have HL4 := HL3
        go_end0
        have HP : zoneR ⟨l, t⟩ = some ⟨(l.drop 3), ⟨t.y, t.mo, t.d, t.h, t.mi, t.s, 0⟩⟩ := by
          unfold zoneR zoneP
          simp only [HQ1.out, HQ2.out, HQ3.out, Option.bind_some, Option.bind_none, if_true, Bool.false_eq_true, if_false, Option.getD_some, Option.getD_none, Option.map_some, Option.map_none]
        rw [HP]
        exact ⟨rfl, HR4.out, HK4.out⟩
      · have HQ3 := hid hb
        refine (takes_no HR2.out [71, 77, 84] HL2.out (by simp) hb).mono ?_
        rintro e w3 ⟨rfl, hr, hk⟩
        have HR3 : Hid (RAt w3 b ⟨l, t⟩) := hr
        have HK3 := hid (HK2.out.trans1 hk)
        have HL3 := HL2
        clear hr hk hb
        go_wp2_with fail
        rcases Bool.eq_false_or_eq_true (hasP l [85, 84]) with hb | hb
        · have HQ4 := hid hb
          refine (takes_yes HR3.out [85, 84] HL3.out hb).mono ?_
          rintro e w4 ⟨rfl, hr, hk⟩
          have HR4 : Hid (RAt w4 b ⟨(l.drop 2), t⟩) := hr
          have HK4 := hid (HK3.out.trans1 hk)
          have HL4 : Hid ((l.drop 2).length ≤ 1000000) := by have h2 := HL3.out; unfold Hid; simp; omega
          clear hr hk hb
          have hcs := HR4.out.cs
          have cc := hcs.2.2.2.2.2.2
          have cf := HR4.out.fz 7
          simp only at cc
          clear hcs
          go_wp2_with fail
          have HR5 := hid (HR4.out.set 7 (.int .i64 0) ⟨(l.drop 2), ⟨t.y, t.mo, t.d, t.h, t.mi, t.s, 0⟩⟩ rfl)
          have HK5 := hid (HK4.out.trans1 (Kept.setCell [b] w4 ⟨b, 7, none⟩ (.int .i64 0) (by simp)))
          have HL5 := HL4
          go_end0
          have HP : zoneR ⟨l, t⟩ = some ⟨(l.drop 2), ⟨t.y, t.mo, t.d, t.h, t.mi, t.s, 0⟩⟩ := by
            unfold zoneR zoneP
            simp only [HQ1.out, HQ2.out, HQ3.out, HQ4.out, Option.bind_some, Option.bind_none, if_true, Bool.false_eq_true, if_false, Option.getD_some, Option.getD_none, Option.map_some, Option.map_none]
          rw [HP]
          exact ⟨rfl, HR5.out, HK5.out⟩
        · have HQ4 := hid hb
          refine (takes_no HR3.out [85, 84] HL3.out (by simp) hb).mono ?_
          rintro e w4 ⟨rfl, hr, hk⟩
          have HR4 : Hid (RAt w4 b ⟨l, t⟩) := hr
          have HK4 := hid (HK3.out.trans1 hk)
          have HL4 := HL3
          clear hr hk hb
          go_wp2_with fail
          refine (stop_any _).mono ?_
          rintro e w5 ⟨rfl, rfl⟩
          refine ⟨rfl, ?_⟩
          change RdOut _ _ _ _ _
          have HP : zoneR ⟨l, t⟩ = none := by
            unfold zoneR zoneP
            simp only [HQ1.out, HQ2.out, HQ3.out, HQ4.out, Option.bind_some, Option.bind_none, if_true, Bool.false_eq_true, if_false, Option.getD_some, Option.getD_none, Option.map_some, Option.map_none]
          rw [HP]
          exact ⟨rfl, HK4.out⟩
end Go.Proofs.YtaniljfjmbifnaaGreatDoor.D
namespace Go.Proofs.YtaniljfjmbifnaaGreatDoor.D
open Go.RowKit
set_option linter.unusedVariables false
set_option linter.unusedSimpArgs false

theorem day_len {l l' : Bs} {t t' : Dt} (h : dayP ⟨l, t⟩ = some ⟨l', t'⟩) : l'.length ≤ l.length := by
  unfold dayP at h
  repeat (split at h <;> try (cases h; done))
  simp only [Option.some.injEq, Rd.mk.injEq] at h
  obtain ⟨rfl, -⟩ := h
  rename_i e1 _ _ e2 _ _ _ e3 _ _ e4 _ _ _ e5
  have h1 := num_len e1
  have h2 := need_len e2
  have h3 := month_len e3
  have h4 := need_len e4
  have h5 := num_len e5
  simp only at *
  omega
theorem clockP_len {l l' : Bs} {x : Int × Int × Option Int} (h : clockP l = some (x, l')) : l'.length ≤ l.length := by
  unfold clockP at h
  rcases e1 : numP 2 2 l with _ | ⟨n1, l1⟩ <;> rw [e1] at h
  · cases h
  simp only at h
  rcases e2 : needP [58] l1 with _ | l2 <;> rw [e2] at h
  · cases h
  simp only at h
  rcases e3 : numP 2 2 l2 with _ | ⟨n3, l3⟩ <;> rw [e3] at h
  · cases h
  simp only at h
  have h1 := num_len e1
  have h2 := need_len e2
  have h3 := num_len e3
  split at h
  · rcases e4 : numP 2 2 (l3.drop 1) with _ | ⟨n4, l4⟩ <;> rw [e4] at h
    · cases h
    simp only [Option.some.injEq, Prod.mk.injEq] at h
    obtain ⟨_, rfl⟩ := h
    have h4 := num_len e4
    simp at h4
    omega
  · simp only [Option.some.injEq, Prod.mk.injEq] at h
    obtain ⟨_, rfl⟩ := h
    omega
theorem clock_len {l l' : Bs} {t t' : Dt} (h : clockR ⟨l, t⟩ = some ⟨l', t'⟩) : l'.length ≤ l.length := by
  unfold clockR at h
  simp only at h
  rcases e : clockP l with _ | ⟨x, l1⟩ <;> rw [e] at h
  · cases h
  simp only [Option.some.injEq, Rd.mk.injEq] at h
  obtain ⟨rfl, _⟩ := h
  exact clockP_len e
theorem zoneP_len {l l' : Bs} {z : Int} (h : zoneP l = some (z, l')) : l'.length ≤ l.length := by
  unfold zoneP at h
  split at h
  · have := minutes_len h
    simp at this
    omega
  split at h
  · rcases e : minutesP (l.drop 1) with _ | ⟨n, l1⟩ <;> rw [e] at h
    · cases h
    simp at h
    obtain ⟨_, rfl⟩ := h
    have := minutes_len e
    simp at this
    omega
  split at h
  · simp at h; obtain ⟨_, rfl⟩ := h; simp
  split at h
  · simp at h; obtain ⟨_, rfl⟩ := h; simp
  · cases h
theorem zone_len {l l' : Bs} {t t' : Dt} (h : zoneR ⟨l, t⟩ = some ⟨l', t'⟩) : l'.length ≤ l.length := by
  unfold zoneR at h
  simp only at h
  rcases e : zoneP l with _ | ⟨x, l1⟩ <;> rw [e] at h
  · cases h
  simp only [Option.some.injEq, Rd.mk.injEq] at h
  obtain ⟨rfl, _⟩ := h
  exact zoneP_len e

end Go.Proofs.YtaniljfjmbifnaaGreatDoor.D
namespace Go.Proofs.YtaniljfjmbifnaaGreatDoor.D
open Go.RowKit
set_option linter.unusedVariables false
set_option linter.unusedSimpArgs false

set_option maxRecDepth 100000 in
set_option maxHeartbeats 4000000 in
theorem mail_any {w : World} {b : Nat} {l : Bs} {t : Dt} (h : RAt w b ⟨l, t⟩) (h1 : l.length ≤ 1000000) :
    Calls Tryz.prog 115 #[.pointer (some ⟨b, 0, none⟩)] w fun e w' => RdOut (mailP ⟨l, t⟩) b w e w' := by
  have HR0 := hid h
  have HL0 := hid h1
  have HK0 := hid (Kept.refl [b] w)
  clear h h1
  go_enter Tryz.func115, Tryz.ntmps115
  go_wp2_with fail
  refine (blanks_any HR0.out HL0.out).mono ?_
  rintro e w1 ⟨rfl, hr, hk⟩
  have HR1 := hid hr
  have HK1 := hid (HK0.out.trans1 hk)
  have HL1 : Hid ((l.dropWhile blankB).length ≤ 1000000) := by have h1 := dw_len l; have h2 := HL0.out; unfold Hid; omega
  clear hr hk
  go_wp2_with fail
  have C := weekday_any HR1.out HL1.out
  rcases hq : weekdayP (l.dropWhile blankB) with _ | l2
  · rw [hq] at C
    have HQ2 := hid hq
    refine C.mono ?_
    rintro e w2 ⟨rfl, hk⟩
    refine ⟨rfl, ?_⟩
    change RdOut _ _ _ _ _
    have HP : mailP ⟨l, t⟩ = none := by
      unfold mailP mailDay gapR
      simp only [HQ2.out, Option.bind_some, Option.bind_none, if_true, Bool.false_eq_true, if_false, Option.getD_some, Option.getD_none, Option.map_some, Option.map_none]
    rw [HP]
    exact ⟨rfl, HK1.out.trans1 hk⟩
  · rw [hq] at C
    have HQ2 := hid hq
    have HL2 : Hid (l2.length ≤ 1000000) := by have h1 := weekday_len hq; have h2 := HL1.out; unfold Hid; omega
    clear hq
    refine C.mono ?_
    clear C
    rintro e w2 ⟨rfl, hr, hk⟩
    have HR2 := hid hr
    have HK2 := hid (HK1.out.trans1 hk)
    clear hr hk
    go_wp2_with fail
    have C := number_any HR2.out HL2.out 1 2 (by omega) (by omega)
    rcases hq : numP 1 2 l2 with _ | ⟨n3, l3⟩
    · rw [hq] at C
      have HQ3 := hid hq
      refine C.mono ?_
      rintro e w3 ⟨rfl, hk⟩
      refine ⟨rfl, ?_⟩
      change RdOut _ _ _ _ _
      have HP : mailP ⟨l, t⟩ = none := by
        unfold mailP mailDay gapR
        simp only [HQ2.out, HQ3.out, Option.bind_some, Option.bind_none, if_true, Bool.false_eq_true, if_false, Option.getD_some, Option.getD_none, Option.map_some, Option.map_none]
      rw [HP]
      exact ⟨rfl, HK2.out.trans1 hk⟩
    · rw [hq] at C
      have HQ3 := hid hq
      have HL3 : Hid (l3.length ≤ 1000000) := by have h1 := num_len hq; have h2 := HL2.out; unfold Hid; omega
      clear hq
      refine C.mono ?_
      clear C
      rintro e w3 ⟨rfl, hr, hk⟩
      have HR3 := hid hr
      have HK3 := hid (HK2.out.trans1 hk)
      have hcs := hr.cs
      have cc := hcs.2.2.1
      have cf := hr.fz 3
      simp only at cc
      clear hcs hr hk
      skip
      go_wp2_with fail
      have HR3' := hid (HR3.out.set 3 (.int .i64 n3) ⟨l3, ⟨t.y, t.mo, n3, t.h, t.mi, t.s, t.z⟩⟩ rfl)
      have HK3' := hid (HK3.out.trans1 (Kept.setCell [b] w3 ⟨b, 3, none⟩ (.int .i64 n3) (by simp)))
      clear HR3 HK3 cc cf
      have HR3 := HR3'
      have HK3 := HK3'
      clear HR3' HK3'
      generalize w3.setCell ⟨b, 3, none⟩ (.int .i64 n3) = v3 at HR3 HK3 ⊢
      go_wp2_with fail
      have C := gap_any HR3.out HL3.out
      rcases hq : gapP l3 with _ | l4
      · rw [hq] at C
        have HQ4 := hid hq
        refine C.mono ?_
        rintro e w4 ⟨rfl, hk⟩
        refine ⟨rfl, ?_⟩
        change RdOut _ _ _ _ _
        have HP : mailP ⟨l, t⟩ = none := by
          unfold mailP mailDay gapR
          simp only [HQ2.out, HQ3.out, HQ4.out, Option.bind_some, Option.bind_none, if_true, Bool.false_eq_true, if_false, Option.getD_some, Option.getD_none, Option.map_some, Option.map_none]
        rw [HP]
        exact ⟨rfl, HK3.out.trans1 hk⟩
      · rw [hq] at C
        have HQ4 := hid hq
        have HL4 : Hid (l4.length ≤ 1000000) := by have h1 := gap_len hq; have h2 := HL3.out; unfold Hid; omega
        clear hq
        refine C.mono ?_
        clear C
        rintro e w4 ⟨rfl, hr, hk⟩
        have HR4 := hid hr
        have HK4 := hid (HK3.out.trans1 hk)
        clear hr hk
        go_wp2_with fail
        have C := month_any HR4.out HL4.out
        rcases hq : monthP l4 with _ | ⟨n5, l5⟩
        · rw [hq] at C
          have HQ5 := hid hq
          refine C.mono ?_
          rintro e w5 ⟨rfl, hk⟩
          refine ⟨rfl, ?_⟩
          change RdOut _ _ _ _ _
          have HP : mailP ⟨l, t⟩ = none := by
            unfold mailP mailDay gapR
            simp only [HQ2.out, HQ3.out, HQ4.out, HQ5.out, Option.bind_some, Option.bind_none, if_true, Bool.false_eq_true, if_false, Option.getD_some, Option.getD_none, Option.map_some, Option.map_none]
          rw [HP]
          exact ⟨rfl, HK4.out.trans1 hk⟩
        · rw [hq] at C
          have HQ5 := hid hq
          have HL5 : Hid (l5.length ≤ 1000000) := by have h1 := month_len hq; have h2 := HL4.out; unfold Hid; omega
          clear hq
          refine C.mono ?_
          clear C
          rintro e w5 ⟨rfl, hr, hk⟩
          have HR5 := hid hr
          have HK5 := hid (HK4.out.trans1 hk)
          have hcs := hr.cs
          have cc := hcs.2.1
          have cf := hr.fz 2
          simp only at cc
          clear hcs hr hk
          skip
          go_wp2_with fail
          have HR5' := hid (HR5.out.set 2 (.int .i64 n5) ⟨l5, ⟨t.y, n5, n3, t.h, t.mi, t.s, t.z⟩⟩ rfl)
          have HK5' := hid (HK5.out.trans1 (Kept.setCell [b] w5 ⟨b, 2, none⟩ (.int .i64 n5) (by simp)))
          clear HR5 HK5 cc cf
          have HR5 := HR5'
          have HK5 := HK5'
          clear HR5' HK5'
          generalize w5.setCell ⟨b, 2, none⟩ (.int .i64 n5) = v5 at HR5 HK5 ⊢
          go_wp2_with fail
          have C := gap_any HR5.out HL5.out
          rcases hq : gapP l5 with _ | l6
          · rw [hq] at C
            have HQ6 := hid hq
            refine C.mono ?_
            rintro e w6 ⟨rfl, hk⟩
            refine ⟨rfl, ?_⟩
            change RdOut _ _ _ _ _
            have HP : mailP ⟨l, t⟩ = none := by
              unfold mailP mailDay gapR
              simp only [HQ2.out, HQ3.out, HQ4.out, HQ5.out, HQ6.out, Option.bind_some, Option.bind_none, if_true, Bool.false_eq_true, if_false, Option.getD_some, Option.getD_none, Option.map_some, Option.map_none]
            rw [HP]
            exact ⟨rfl, HK5.out.trans1 hk⟩
          · rw [hq] at C
            have HQ6 := hid hq
            have HL6 : Hid (l6.length ≤ 1000000) := by have h1 := gap_len hq; have h2 := HL5.out; unfold Hid; omega
            clear hq
            refine C.mono ?_
            clear C
            rintro e w6 ⟨rfl, hr, hk⟩
            have HR6 := hid hr
            have HK6 := hid (HK5.out.trans1 hk)
            clear hr hk
            go_wp2_with fail
            have C := number_any HR6.out HL6.out 4 4 (by omega) (by omega)
            rcases hq : numP 4 4 l6 with _ | ⟨n7, l7⟩
            · rw [hq] at C
              have HQ7 := hid hq
              refine C.mono ?_
              rintro e w7 ⟨rfl, hk⟩
              refine ⟨rfl, ?_⟩
              change RdOut _ _ _ _ _
              have HP : mailP ⟨l, t⟩ = none := by
                unfold mailP mailDay gapR
                simp only [HQ2.out, HQ3.out, HQ4.out, HQ5.out, HQ6.out, HQ7.out, Option.bind_some, Option.bind_none, if_true, Bool.false_eq_true, if_false, Option.getD_some, Option.getD_none, Option.map_some, Option.map_none]
              rw [HP]
              exact ⟨rfl, HK6.out.trans1 hk⟩
            · rw [hq] at C
              have HQ7 := hid hq
              have HL7 : Hid (l7.length ≤ 1000000) := by have h1 := num_len hq; have h2 := HL6.out; unfold Hid; omega
              clear hq
              refine C.mono ?_
              clear C
              rintro e w7 ⟨rfl, hr, hk⟩
              have HR7 := hid hr
              have HK7 := hid (HK6.out.trans1 hk)
              have hcs := hr.cs
              have cc := hcs.1
              have cf := hr.fz 1
              simp only at cc
              clear hcs hr hk
              skip
              go_wp2_with fail
              have HR7' := hid (HR7.out.set 1 (.int .i64 n7) ⟨l7, ⟨n7, n5, n3, t.h, t.mi, t.s, t.z⟩⟩ rfl)
              have HK7' := hid (HK7.out.trans1 (Kept.setCell [b] w7 ⟨b, 1, none⟩ (.int .i64 n7) (by simp)))
              clear HR7 HK7 cc cf
              have HR7 := HR7'
              have HK7 := HK7'
              clear HR7' HK7'
              generalize w7.setCell ⟨b, 1, none⟩ (.int .i64 n7) = v7 at HR7 HK7 ⊢
              go_wp2_with fail
              have C := gap_any HR7.out HL7.out
              rcases hq : gapP l7 with _ | l8
              · rw [hq] at C
                have HQ8 := hid hq
                refine C.mono ?_
                rintro e w8 ⟨rfl, hk⟩
                refine ⟨rfl, ?_⟩
                change RdOut _ _ _ _ _
                have HP : mailP ⟨l, t⟩ = none := by
                  unfold mailP mailDay gapR
                  simp only [HQ2.out, HQ3.out, HQ4.out, HQ5.out, HQ6.out, HQ7.out, HQ8.out, Option.bind_some, Option.bind_none, if_true, Bool.false_eq_true, if_false, Option.getD_some, Option.getD_none, Option.map_some, Option.map_none]
                rw [HP]
                exact ⟨rfl, HK7.out.trans1 hk⟩
              · rw [hq] at C
                have HQ8 := hid hq
                have HL8 : Hid (l8.length ≤ 1000000) := by have h1 := gap_len hq; have h2 := HL7.out; unfold Hid; omega
                clear hq
                refine C.mono ?_
                clear C
                rintro e w8 ⟨rfl, hr, hk⟩
                have HR8 := hid hr
                have HK8 := hid (HK7.out.trans1 hk)
                clear hr hk
                go_wp2_with fail
                have C := clock_any HR8.out HL8.out
                rcases hq : clockR ⟨l8, ⟨n7, n5, n3, t.h, t.mi, t.s, t.z⟩⟩ with _ | ⟨l9, t9⟩
                · rw [hq] at C
                  have HQ9 := hid hq
                  refine C.mono ?_
                  rintro e w9 ⟨rfl, hk⟩
                  refine ⟨rfl, ?_⟩
                  change RdOut _ _ _ _ _
                  have HP : mailP ⟨l, t⟩ = none := by
                    unfold mailP mailDay gapR
                    simp only [HQ2.out, HQ3.out, HQ4.out, HQ5.out, HQ6.out, HQ7.out, HQ8.out, HQ9.out, Option.bind_some, Option.bind_none, if_true, Bool.false_eq_true, if_false, Option.getD_some, Option.getD_none, Option.map_some, Option.map_none]
                  rw [HP]
                  exact ⟨rfl, HK8.out.trans1 hk⟩
                · rw [hq] at C
                  have HQ9 := hid hq
                  have HL9 : Hid (l9.length ≤ 1000000) := by have h1 := clock_len hq; have h2 := HL8.out; unfold Hid; omega
                  clear hq
                  refine C.mono ?_
                  clear C
                  rintro e w9 ⟨rfl, hr, hk⟩
                  have HR9 := hid hr
                  have HK9 := hid (HK8.out.trans1 hk)
                  clear hr hk
                  go_wp2_with fail
                  have C := gap_any HR9.out HL9.out
                  rcases hq : gapP l9 with _ | l10
                  · rw [hq] at C
                    have HQ10 := hid hq
                    refine C.mono ?_
                    rintro e w10 ⟨rfl, hk⟩
                    refine ⟨rfl, ?_⟩
                    change RdOut _ _ _ _ _
                    have HP : mailP ⟨l, t⟩ = none := by
                      unfold mailP mailDay gapR
                      simp only [HQ2.out, HQ3.out, HQ4.out, HQ5.out, HQ6.out, HQ7.out, HQ8.out, HQ9.out, HQ10.out, Option.bind_some, Option.bind_none, if_true, Bool.false_eq_true, if_false, Option.getD_some, Option.getD_none, Option.map_some, Option.map_none]
                    rw [HP]
                    exact ⟨rfl, HK9.out.trans1 hk⟩
                  · rw [hq] at C
                    have HQ10 := hid hq
                    have HL10 : Hid (l10.length ≤ 1000000) := by have h1 := gap_len hq; have h2 := HL9.out; unfold Hid; omega
                    clear hq
                    refine C.mono ?_
                    clear C
                    rintro e w10 ⟨rfl, hr, hk⟩
                    have HR10 := hid hr
                    have HK10 := hid (HK9.out.trans1 hk)
                    clear hr hk
                    go_wp2_with fail
                    have C := zone_any HR10.out HL10.out
                    rcases hq : zoneR ⟨l10, t9⟩ with _ | ⟨l11, t11⟩
                    · rw [hq] at C
                      have HQ11 := hid hq
                      refine C.mono ?_
                      rintro e w11 ⟨rfl, hk⟩
                      refine ⟨rfl, ?_⟩
                      change RdOut _ _ _ _ _
                      have HP : mailP ⟨l, t⟩ = none := by
                        unfold mailP mailDay gapR
                        simp only [HQ2.out, HQ3.out, HQ4.out, HQ5.out, HQ6.out, HQ7.out, HQ8.out, HQ9.out, HQ10.out, HQ11.out, Option.bind_some, Option.bind_none, if_true, Bool.false_eq_true, if_false, Option.getD_some, Option.getD_none, Option.map_some, Option.map_none]
                      rw [HP]
                      exact ⟨rfl, HK10.out.trans1 hk⟩
                    · rw [hq] at C
                      have HQ11 := hid hq
                      have HL11 : Hid (l11.length ≤ 1000000) := by have h1 := zone_len hq; have h2 := HL10.out; unfold Hid; omega
                      clear hq
                      refine C.mono ?_
                      clear C
                      rintro e w11 ⟨rfl, hr, hk⟩
                      have HR11 := hid hr
                      have HK11 := hid (HK10.out.trans1 hk)
                      clear hr hk
                      go_wp2_with fail
                      refine (blanks_any HR11.out HL11.out).mono ?_
                      rintro e w12 ⟨rfl, hr, hk⟩
                      have HR12 := hid hr
                      have HK12 := hid (HK11.out.trans1 hk)
                      have HL12 : Hid ((l11.dropWhile blankB).length ≤ 1000000) := by have h1 := dw_len l11; have h2 := HL11.out; unfold Hid; omega
                      clear hr hk
                      go_wp2_with fail
                      go_end0
                      have HP : mailP ⟨l, t⟩ = some ⟨(l11.dropWhile blankB), t11⟩ := by
                        unfold mailP mailDay gapR
                        simp only [HQ2.out, HQ3.out, HQ4.out, HQ5.out, HQ6.out, HQ7.out, HQ8.out, HQ9.out, HQ10.out, HQ11.out, Option.bind_some, Option.bind_none, if_true, Bool.false_eq_true, if_false, Option.getD_some, Option.getD_none, Option.map_some, Option.map_none]
                      rw [HP]
                      exact ⟨rfl, HR12.out, HK12.out⟩
end Go.Proofs.YtaniljfjmbifnaaGreatDoor.D
