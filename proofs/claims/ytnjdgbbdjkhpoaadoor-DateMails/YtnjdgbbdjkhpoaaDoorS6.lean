/- What this text holds: the program's reader: upTo, minutes, name, month, weekday. -/
import Derived.Test.YtnjdgbbdjkhpoaaDoorS5
namespace Go.Proofs.YtnjdgbbdjkhpoaaDoor
open Go.RowKit
set_option linter.unusedVariables false
set_option linter.unusedSimpArgs false

theorem num_len {least most : Nat} {l l' : Bs} {n : Int} (h : numP least most l = some (n, l')) : l'.length ≤ l.length := by
  unfold numP at h
  split at h
  · cases h
  · simp at h; obtain ⟨_, rfl⟩ := h; simp
theorem tw_all : ∀ (l : Bs) (c : UInt8), c ∈ l.takeWhile digB → digB c = true
  | [], c, h => by simp at h
  | a :: l, c, h => by
    by_cases ha : digB a = true
    · simp [List.takeWhile, ha] at h
      rcases h with rfl | h
      · exact ha
      · exact tw_all l c h
    · simp [List.takeWhile, ha] at h
theorem num_range {least most : Nat} {l l' : Bs} {n : Int} (hm : most ≤ 4) (h : numP least most l = some (n, l')) : 0 ≤ n ∧ n < 10000 := by
  unfold numP at h
  split at h
  · cases h
  · simp at h
    obtain ⟨rfl, _⟩ := h
    have hl : (numL most l).length ≤ most := by
      unfold numL
      refine Nat.le_trans (List.IsPrefix.length_le (List.takeWhile_prefix _)) ?_
      simp
      omega
    have h1 := val_small (numL most l) (numL most l).length (Nat.le_refl _) (fun j hj h => by
      have hm : (numL most l)[j] ∈ numL most l := List.getElem_mem h
      exact tw_all _ _ hm)
    rw [List.take_length] at h1
    have h2 : (10 : Int) ^ (numL most l).length ≤ 10 ^ 4 := by exact_mod_cast Nat.pow_le_pow_right (n := 10) (by omega) (show (numL most l).length ≤ 4 by omega)
    have e : (10 : Int) ^ 4 = 10000 := by decide
    omega
theorem upTo_len {most : Int} {l l' : Bs} {n : Int} (h : upToP most l = some (n, l')) : l'.length ≤ l.length ∧ 0 ≤ n ∧ n ≤ most := by
  unfold upToP at h
  split at h
  · rename_i m r hq
    split at h
    · cases h
    · cases h
      have := num_range (by omega) hq
      exact ⟨num_len hq, by omega, by omega⟩
  · cases h

set_option maxRecDepth 100000 in
set_option maxHeartbeats 1000000 in
theorem upTo_any {w : World} {b : Nat} {l : Bs} {t : Dt} (h : RAt w b ⟨l, t⟩) (h1 : l.length ≤ 1000000) (most : Int) :
    Calls Tryd.prog 86 #[.pointer (some ⟨b, 0, none⟩), .int .i64 most] w fun e w' => NumOut (upToP most l) b t w e w' := by
  have H := hid h
  clear h
  rcases hq : numP 2 2 l with _ | ⟨n, l'⟩
  · have HP : Hid (upToP most l = none) := by unfold Hid upToP; rw [hq]
    have C := number_any H.out h1 2 2 (by omega) (by omega)
    rw [hq] at C
    have HC := hid C
    clear C hq
    go_enter Tryd.func86, Tryd.ntmps86
    go_wp2_with fail
    refine HC.out.mono ?_
    rintro e w1 ⟨rfl, hk⟩
    refine ⟨rfl, ?_⟩
    change NumOut _ _ _ _ _ _
    rw [HP.out]
    exact ⟨rfl, hk⟩
  · have C := number_any H.out h1 2 2 (by omega) (by omega)
    rw [hq] at C
    have HC := hid C
    by_cases hm : n > most
    · have HP : Hid (upToP most l = none) := by unfold Hid upToP; rw [hq]; simp [hm]
      clear C hq
      go_enter Tryd.func86, Tryd.ntmps86
      go_wp2_with fail
      refine HC.out.mono ?_
      rintro e w1 ⟨rfl, hr, hk⟩
      have HK := hid hk
      clear hr hk
      go_wp2_with fail
      refine (stop_any _).mono ?_
      rintro e w2 ⟨rfl, rfl⟩
      refine ⟨rfl, ?_⟩
      change NumOut _ _ _ _ _ _
      rw [HP.out]
      exact ⟨rfl, HK.out⟩
    · have HP : Hid (upToP most l = some (n, l')) := by unfold Hid upToP; rw [hq]; simp [hm]
      clear C hq
      go_enter Tryd.func86, Tryd.ntmps86
      go_wp2_with fail
      refine HC.out.mono ?_
      rintro e w1 ⟨rfl, hr, hk⟩
      have HK := hid hk
      have HR := hid hr
      clear hr hk
      go_wp2_with fail
      go_ret
      rw [HP.out]
      exact ⟨rfl, HR.out, HK.out⟩

set_option maxRecDepth 100000 in
set_option maxHeartbeats 1000000 in
theorem minutes_any {w : World} {b : Nat} {l : Bs} {t : Dt} (h : RAt w b ⟨l, t⟩) (h1 : l.length ≤ 1000000) :
    Calls Tryd.prog 75 #[.pointer (some ⟨b, 0, none⟩)] w fun e w' => NumOut (minutesP l) b t w e w' := by
  have H := hid h
  clear h
  have C := upTo_any H.out h1 23
  rcases hq : upToP 23 l with _ | ⟨n, l'⟩
  · have HP : Hid (minutesP l = none) := by unfold Hid minutesP; rw [hq]
    rw [hq] at C
    have HC := hid C
    clear C hq
    go_enter Tryd.func75, Tryd.ntmps75
    go_wp2_with fail
    refine HC.out.mono ?_
    rintro e w1 ⟨rfl, hk⟩
    refine ⟨rfl, ?_⟩
    change NumOut _ _ _ _ _ _
    rw [HP.out]
    exact ⟨rfl, hk⟩
  · have hn := upTo_len hq
    have hn1 := hn.2.1
    have hn2 := hn.2.2
    rw [hq] at C
    have HC := hid C
    rcases hq2 : upToP 59 l' with _ | ⟨m, l2⟩
    · have HP : Hid (minutesP l = none) := by unfold Hid minutesP; rw [hq]; simp only; rw [hq2]
      have HQ2 := hid hq2
      clear C hq hq2
      go_enter Tryd.func75, Tryd.ntmps75
      go_wp2_with fail
      refine HC.out.mono ?_
      rintro e w1 ⟨rfl, hr, hk⟩
      have C2 := upTo_any hr (by omega) 59
      rw [HQ2.out] at C2
      have HC2 := hid C2
      have HK := hid hk
      clear hr hk C2
      go_wp2_with fail
      refine HC2.out.mono ?_
      rintro e w2 ⟨rfl, hk⟩
      refine ⟨rfl, ?_⟩
      change NumOut _ _ _ _ _ _
      rw [HP.out]
      exact ⟨rfl, HK.out.trans1 hk⟩
    · have HP : Hid (minutesP l = some (60 * n + m, l2)) := by unfold Hid minutesP; rw [hq]; simp only; rw [hq2]
      have hm := upTo_len hq2
      have hm1 := hm.2.1
      have hm2 := hm.2.2
      have HQ2 := hid hq2
      clear C hq hq2
      go_enter Tryd.func75, Tryd.ntmps75
      go_wp2_with fail
      refine HC.out.mono ?_
      rintro e w1 ⟨rfl, hr, hk⟩
      have C2 := upTo_any hr (by omega) 59
      rw [HQ2.out] at C2
      have HC2 := hid C2
      have HK := hid hk
      clear hr hk C2
      go_wp2_with fail
      refine HC2.out.mono ?_
      rintro e w2 ⟨rfl, hr, hk⟩
      have HR := hid hr
      have HK2 := hid hk
      clear hr hk
      go_wp2_with fail
      go_ret
      rw [HP.out]
      exact ⟨rfl, HR.out, HK.out.trans1 HK2.out⟩

theorem name_find {names l : Bs} {n k : Nat} (hk : k < n) (hn : ∀ j < k, hasP l ((names.drop (3 * j)).take 3) = false) (hy : hasP l ((names.drop (3 * k)).take 3) = true) : nameF names n l = some k := by
  unfold nameF
  rw [List.find?_range_eq_some]
  exact ⟨hy, List.mem_range.2 hk, fun j hj => by simp [hn j hj]⟩
theorem name_none {names l : Bs} {n : Nat} (hn : ∀ j < n, hasP l ((names.drop (3 * j)).take 3) = false) : nameF names n l = none := by
  unfold nameF
  rw [List.find?_eq_none]
  intro i hi
  simp [hn i (List.mem_range.1 hi)]
/-- Which name comes, and what is left behind it. -/
def NameOut (o : Option Nat) (b : Nat) (l : Bs) (t : Dt) (w : World) (e : Ending) (w' : World) : Prop :=
  match o with
  | some i => e = .returned (.int .i64 ((i : Int) + 1)) ∧ RAt w' b ⟨l.drop 3, t⟩ ∧ Kept [b] w w'
  | none => e = .returned (.int .i64 0) ∧ RAt w' b ⟨l, t⟩ ∧ Kept [b] w w'

set_option maxRecDepth 100000 in
set_option maxHeartbeats 1000000 in
theorem name_any {w : World} {b : Nat} {l : Bs} {t : Dt} (h : RAt w b ⟨l, t⟩) (h1 : l.length ≤ 1000000) (names : Bs) (n : Nat) (hn : names.length = 3 * n) (hn1 : n ≤ 100) :
    Calls Tryd.prog 83 #[.pointer (some ⟨b, 0, none⟩), .string (str names)] w fun e w' => NameOut (nameF names n l) b l t w e w' := by
  have hsx := str_size names
  have HM : Hid (∀ k, (str names).extract (3 * k) (3 * k + 3) = str ((names.drop (3 * k)).take 3)) := fun k => by rw [mid_str]; congr 2; omega
  have H := hid h
  clear h
  have HN := hid hn
  have hn' : (names.length : Int) = 3 * n := by omega
  have HN' := hid hn'
  clear hn hn'
  go_enter Tryd.func83, Tryd.ntmps83
  go_wp2_with fail
  go_loopw [5] (fun i wr => ∃ k : Nat, k ≤ n ∧ i = .int .i64 (3 * k : Nat) ∧ RAt wr b ⟨l, t⟩ ∧ Kept [b] w wr ∧ ∀ j < k, hasP l ((names.drop (3 * j)).take 3) = false) (fun i _ => 3 * n - (intOf i).toNat)
  case atStart => exact ⟨0, by omega, rfl, H.out, Kept.refl _ _, fun j hj => by omega⟩
  case round =>
    obtain ⟨k, hk, rfl, hr, hkp, ha⟩ := hrel
    have HR := hid hr
    have HK := hid hkp
    have HA := hid ha
    clear hr hkp ha
    by_cases hkn : k < n
    · have g1 : 3 * (k : Int) < names.length := by have := HN'.out; omega
      have g2 : 3 * (k : Int) + 3 ≤ names.length := by have := HN'.out; omega
      have e3 : (3 * (k : Int)).tdiv 3 = k := by rw [tdiv_pos _ _ (by omega)]; omega
      have hl3 : ((names.drop (3 * k)).take 3).length = 3 := by have := HN.out; simp; omega
      rcases Bool.eq_false_or_eq_true (hasP l ((names.drop (3 * k)).take 3)) with hb | hb
      · have HF := hid (name_find hkn HA.out hb)
        have C := takes_yes HR.out _ h1 hb
        rw [hl3, ← HM.out k] at C
        have HC := hid C
        clear C hb hl3
        go_wp2_with fail
        refine HC.out.mono ?_
        rintro e w1 ⟨rfl, hr, hk⟩
        have HR1 := hid hr
        have HK1 := hid hk
        clear hr hk
        go_wp2_with fail
        go_ret
        rw [HF.out]
        exact ⟨rfl, HR1.out, HK.out.trans1 HK1.out⟩
      · have HB := hid hb
        have C := takes_no HR.out _ h1 (by omega) hb
        rw [← HM.out k] at C
        have HC := hid C
        clear C hb hl3
        go_wp2_with fail
        refine HC.out.mono ?_
        rintro e w1 ⟨rfl, hr, hk⟩
        have HR1 := hid hr
        have HK1 := hid hk
        clear hr hk
        go_wp2_with fail
        go_roundw
        case rel => exact ⟨k + 1, by omega, by go_num, HR1.out, HK.out.trans1 HK1.out, fun j hj => by
          by_cases hjk : j < k
          · exact HA.out j hjk
          · obtain rfl : j = k := by omega
            exact HB.out⟩
        case measure => simp [intOf]; omega
    · obtain rfl : k = n := by omega
      have g1 : ¬ 3 * (k : Int) < names.length := by have := HN'.out; omega
      have HF := hid (name_none HA.out)
      go_wp2_with fail
      go_ret
      rw [HF.out]
      exact ⟨rfl, HR.out, HK.out⟩

set_option maxRecDepth 100000 in
set_option maxHeartbeats 1000000 in
theorem month_any {w : World} {b : Nat} {l : Bs} {t : Dt} (h : RAt w b ⟨l, t⟩) (h1 : l.length ≤ 1000000) :
    Calls Tryd.prog 69 #[.pointer (some ⟨b, 0, none⟩)] w fun e w' => NumOut (monthP l) b t w e w' := by
  have C := name_any h h1 months 12 rfl (by omega)
  clear h
  rcases hq : nameF months 12 l with _ | i
  · have HP : Hid (monthP l = none) := by unfold Hid monthP; rw [hq]
    rw [hq] at C
    have HC := hid C
    clear C hq
    go_enter Tryd.func69, Tryd.ntmps69
    go_wp2_with fail
    refine HC.out.mono ?_
    rintro e w1 ⟨rfl, hr, hk⟩
    have HK := hid hk
    clear hr hk
    go_wp2_with fail
    refine (stop_any _).mono ?_
    rintro e w2 ⟨rfl, rfl⟩
    refine ⟨rfl, ?_⟩
    change NumOut _ _ _ _ _ _
    rw [HP.out]
    exact ⟨rfl, HK.out⟩
  · have HP : Hid (monthP l = some ((i : Int) + 1, l.drop 3)) := by unfold Hid monthP; rw [hq]
    have g : ((i : Int) + 1 == 0) = false := by simp; omega
    rw [hq] at C
    have HC := hid C
    clear C hq
    go_enter Tryd.func69, Tryd.ntmps69
    go_wp2_with fail
    refine HC.out.mono ?_
    rintro e w1 ⟨rfl, hr, hk⟩
    have HR := hid hr
    have HK := hid hk
    clear hr hk
    go_wp2_with fail
    go_ret
    rw [HP.out]
    exact ⟨rfl, HR.out, HK.out⟩

/-- What is left, or a stop. -/
def SkipOut (o : Option Bs) (b : Nat) (t : Dt) (w : World) (e : Ending) (w' : World) : Prop :=
  match o with
  | some l' => e = .returned (.tuple #[]) ∧ RAt w' b ⟨l', t⟩ ∧ Kept [b] w w'
  | none => e = .panicked faultC ∧ Kept [b] w w'
theorem need_any {w : World} {b : Nat} {l : Bs} {t : Dt} (h : RAt w b ⟨l, t⟩) (x : Bs) (h1 : l.length ≤ 1000000) (h2 : x.length ≤ 1000000) :
    Calls Tryd.prog 71 #[.pointer (some ⟨b, 0, none⟩), .string (str x)] w fun e w' => SkipOut (needP x l) b t w e w' := by
  unfold needP
  rcases Bool.eq_false_or_eq_true (hasP l x) with hb | hb
  · rw [hb]; exact need_yes h x h1 hb
  · rw [hb]; exact need_no h x h1 h2 hb
theorem gap_any {w : World} {b : Nat} {l : Bs} {t : Dt} (h : RAt w b ⟨l, t⟩) (h1 : l.length ≤ 1000000) :
    Calls Tryd.prog 62 #[.pointer (some ⟨b, 0, none⟩)] w fun e w' => SkipOut (gapP l) b t w e w' := by
  rcases hb : gapP l with _ | l'
  · exact gap_no h h1 hb
  · exact gap_yes h h1 hb
theorem need_len {x l l' : Bs} (h : needP x l = some l') : l'.length ≤ l.length := by
  unfold needP at h
  split at h
  · cases h; simp
  · cases h
theorem dw_len : ∀ l : Bs, (l.dropWhile blankB).length ≤ l.length
  | [] => by simp
  | c :: l => by
    have := dw_len l
    by_cases h : blankB c = true
    · simp [List.dropWhile, h]; omega
    · simp [List.dropWhile, h]
theorem gap_len {l l' : Bs} (h : gapP l = some l') : l'.length ≤ l.length := by
  rw [gap_head] at h
  split at h
  · cases h; exact dw_len l
  · cases h

set_option maxRecDepth 100000 in
set_option maxHeartbeats 1000000 in
theorem weekday_any {w : World} {b : Nat} {l : Bs} {t : Dt} (h : RAt w b ⟨l, t⟩) (h1 : l.length ≤ 1000000) :
    Calls Tryd.prog 67 #[.pointer (some ⟨b, 0, none⟩)] w fun e w' => SkipOut (weekdayP l) b t w e w' := by
  have C := name_any h h1 weekdays 7 rfl (by omega)
  clear h
  rcases hq : nameF weekdays 7 l with _ | i
  · have HP : Hid (weekdayP l = some l) := by unfold Hid weekdayP; rw [hq]
    rw [hq] at C
    have HC := hid C
    clear C hq
    go_enter Tryd.func67, Tryd.ntmps67
    go_wp2_with fail
    refine HC.out.mono ?_
    rintro e w1 ⟨rfl, hr, hk⟩
    have HK := hid hk
    have HR := hid hr
    clear hr hk
    go_wp2_with fail
    go_end0
    rw [HP.out]
    exact ⟨rfl, HR.out, HK.out⟩
  · have HP : Hid (weekdayP l = (needP [44] (l.drop 3)).bind gapP) := by unfold Hid weekdayP; rw [hq]
    have g : (0 : Int) < (i : Int) + 1 := by omega
    rw [hq] at C
    have HC := hid C
    clear C hq
    rcases hq1 : needP [44] (l.drop 3) with _ | l1
    · rw [hq1, Option.bind_none] at HP
      have HQ := hid hq1
      clear hq1
      go_enter Tryd.func67, Tryd.ntmps67
      go_wp2_with fail
      refine HC.out.mono ?_
      rintro e w1 ⟨rfl, hr, hk⟩
      have HK := hid hk
      have C2 := need_any hr [44] (by simp; omega) (by simp)
      rw [HQ.out] at C2
      have HC2 := hid C2
      clear hr hk C2
      go_wp2_with fail
      refine HC2.out.mono ?_
      rintro e w2 ⟨rfl, hk⟩
      refine ⟨rfl, ?_⟩
      change SkipOut _ _ _ _ _ _
      rw [HP.out]
      exact ⟨rfl, HK.out.trans1 hk⟩
    · rw [hq1, Option.bind_some] at HP
      have HQ := hid hq1
      have hl1 : l1.length ≤ 1000000 := by have := need_len hq1; simp at this; omega
      clear hq1
      go_enter Tryd.func67, Tryd.ntmps67
      go_wp2_with fail
      refine HC.out.mono ?_
      rintro e w1 ⟨rfl, hr, hk⟩
      have HK := hid hk
      have C2 := need_any hr [44] (by simp; omega) (by simp)
      rw [HQ.out] at C2
      have HC2 := hid C2
      clear hr hk C2
      go_wp2_with fail
      refine HC2.out.mono ?_
      rintro e w2 ⟨rfl, hr, hk⟩
      have HK2 := hid (HK.out.trans1 hk)
      have HC3 := hid (gap_any hr hl1)
      clear hr hk
      go_wp2_with fail
      refine HC3.out.mono ?_
      rintro e w3 h3
      have H3 := hid h3
      clear h3
      rcases hq2 : gapP l1 with _ | l2
      · rw [hq2] at H3 HP
        obtain ⟨rfl, hk⟩ := H3.out
        refine ⟨rfl, ?_⟩
        change SkipOut _ _ _ _ _ _
        rw [HP.out]
        exact ⟨rfl, HK2.out.trans1 hk⟩
      · rw [hq2] at H3 HP
        obtain ⟨rfl, hr, hk⟩ := H3.out
        have HR := hid hr
        have HK3 := hid hk
        clear hr hk H3 hq2
        go_wp2_with fail
        go_end0
        rw [HP.out]
        exact ⟨rfl, HR.out, HK2.out.trans1 HK3.out⟩
end Go.Proofs.YtnjdgbbdjkhpoaaDoor
