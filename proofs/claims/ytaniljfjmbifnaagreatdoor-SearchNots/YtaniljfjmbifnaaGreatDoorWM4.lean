/- What this text holds: Unbase64. -/
import Derived.Test.YtaniljfjmbifnaaGreatDoorWM3
namespace Go.Proofs.YtaniljfjmbifnaaGreatDoor.W
open Go.RowKit
set_option linter.unusedVariables false
set_option linter.unusedSimpArgs false

/-- What Unbase64 answers. -/
def unV (s : Bs) : Value := match un s with
  | some b => .tuple #[.string (str b), .int .i64 0]
  | none => .tuple #[.string ⟨#[]⟩, .int .i64 11]
theorem unV_ok {s b : Bs} (h : un s = some b) : unV s = .tuple #[.string (str b), .int .i64 0] := by unfold unV; rw [h]
theorem unV_no {s : Bs} (h : un s = none) : unV s = .tuple #[.string ⟨#[]⟩, .int .i64 11] := by unfold unV; rw [h]
theorem trim_len (s : Bs) (c : UInt8) : (Go.Lib.trimRightB s c).length ≤ s.length := by
  unfold Go.Lib.trimRightB
  rw [List.length_reverse]
  have := (List.dropWhile_suffix (· == c) (l := s.reverse)).length_le
  rw [List.length_reverse] at this
  exact this
theorem outs_le (x : Bs) : (outThree x).length ≤ x.length := by
  unfold outThree three
  split
  · simp; omega
  · simp
theorem eq_str (l m : Bs) : ((str l).toList == (str m).toList) = decide (l = m) := by
  rw [Go.Lib.toList_data, Go.Lib.toList_data, str_data, str_data, Bool.eq_iff_iff]
  simp
abbrev grp (l : Bs) : Option Bs := three (l.take 4)

set_option maxRecDepth 100000 in
set_option maxHeartbeats 1000000 in
theorem unbase64_any (s : Bs) (w : World) (hs : s.length ≤ 1000000) : Calls Tryz.prog 198 #[.string (str s)] w fun e w' => e = .returned (unV s) ∧ Below w.heap.size w w' := by
  have htl := trim_len s 61
  have HT : Hid (Calls Tryz.prog 218 #[.string (str s), .string ⟨#[61]⟩] w fun e w' => e = .returned (.string (str (Go.Lib.trimRightB s 61))) ∧ w' = w) := Tryz.strings_TrimRight_one (str s) 61 (by decide) w (by rw [str_size]; omega)
  have HU : Hid (∀ o, runO grp 4 (Go.Lib.trimRightB s 61) = o → unP s = o) := fun o h => h
  generalize Go.Lib.trimRightB s 61 = t at htl HT HU
  go_enter Tryz.func198, Tryz.ntmps198
  go_wp2_with fail
  refine HT.out.mono ?_
  rintro e w0 ⟨rfl, rfl⟩
  go_wp2_with fail
  refine (read_any t w0 (by omega)).mono ?_
  rintro e w1 ⟨b, rfl, h1, hb1⟩
  have H1 := hid h1
  have HB1 := hid hb1
  clear h1 hb1
  go_wp2_with fail
  go_loopw [] (fun wr => ∃ l d, RAt wr w0.heap.size b l d ∧ Below w0.heap.size w0 wr ∧ (runO grp 4 l).map (d ++ ·) = runO grp 4 t ∧ d.length + l.length ≤ t.length) (fun wr => leftN b wr)
  case atStart => exact ⟨t, [], H1.out, HB1.out, by simp, by simp⟩
  case round =>
    obtain ⟨l, d, hr, hb, hd, hl⟩ := hrel
    have HR := hid hr
    have HB := hid hb
    have HD := hid hd
    clear hr hb hd
    by_cases h0 : l = []
    · subst h0
      have hf : decide (([] : Bs) ≠ []) = false := by simp
      have C := more_any HR.out.left.1
      rw [hf] at C
      have HP : Hid (unP s = some d) := HU.out _ (by rw [← HD.out, runO_nil]; simp)
      go_wp2_with fail
      refine C.mono ?_
      clear C
      rintro e w2 ⟨rfl, rfl⟩
      go_wp2_with fail
      refine (text_any HR.out).mono ?_
      rintro e w2 ⟨rfl, rfl⟩
      go_wp2_with fail
      have hdl : d.length ≤ 1000000 := by have := hl; simp at this; omega
      refine (base64_any d _ hdl).mono ?_
      rintro e w3 ⟨rfl, hb3⟩
      have HB3 := hid (HB.out.trans (hb3.mono HB.out.size))
      clear hb3
      have hq := eq_str (b64 d) s
      by_cases he : b64 d = s
      · rw [decide_eq_true he] at hq
        have HV := hid (unV_ok (s := s) (b := d) (by unfold un; rw [HP.out]; simp [he]))
        clear he
        go_wp2_with fail
        go_ret2
        rw [HV.out]
        exact ⟨rfl, HB3.out⟩
      · rw [decide_eq_false he] at hq
        have HV := hid (unV_no (s := s) (by unfold un; rw [HP.out]; simp [he]))
        clear he
        go_wp2_with fail
        go_ret2
        rw [HV.out]
        exact ⟨rfl, HB3.out⟩
    · have ht : decide (l ≠ []) = true := by simp [h0]
      have hl0 : 0 < l.length := by cases l with | nil => exact absurd rfl h0 | cons => simp
      have C := more_any HR.out.left.1
      rw [ht] at C
      go_wp2_with fail
      refine C.mono ?_
      clear C
      rintro e w2 ⟨rfl, rfl⟩
      go_wp2_with fail
      refine (HR.out.first 4 (by omega) (by omega)).mono ?_
      rintro e w3 ⟨rfl, h3, hb3⟩
      have H3 := hid h3
      have HB3 := hid hb3
      clear h3 hb3
      go_wp2_with fail
      have C := sayThree_any H3.out (l.take 4) (by simp; omega) (by omega)
      rcases hth : grp l with _ | x
      · have hok : okThree (l.take 4) = false := by unfold okThree; rw [show three (l.take 4) = none from hth]; rfl
        rw [hok] at C
        have HV := hid (unV_no (s := s) (by unfold un; rw [HU.out none (by rw [← HD.out, runO_none (by omega) h0 hth]; rfl)]))
        clear hok hth
        refine C.mono ?_
        clear C
        rintro e w4 ⟨rfl, h4, hb4⟩
        have HB4 := hid hb4
        clear h4 hb4
        go_wp2_with fail
        go_ret2
        rw [HV.out]
        exact ⟨rfl, (HB.out.trans HB3.out).trans HB4.out⟩
      · have hok : okThree (l.take 4) = true := by unfold okThree; rw [show three (l.take 4) = some x from hth]; rfl
        have hx : outThree (l.take 4) = x := by unfold outThree; rw [show three (l.take 4) = some x from hth]; rfl
        have hxl := outs_le (l.take 4)
        rw [hx, List.length_take] at hxl
        rw [hok, hx] at C
        have HS : Hid ((runO grp 4 (l.drop 4)).map ((d ++ x) ++ ·) = runO grp 4 t) := by
          rw [Hid, ← HD.out, runO_some (by omega) h0 hth, Option.map_map]
          congr 1
          funext y
          simp
        clear hok hth hx
        refine C.mono ?_
        clear C
        rintro e w4 ⟨rfl, h4, hb4⟩
        have H4 := hid h4
        have HB4 := hid hb4
        clear h4 hb4
        go_wp2_with fail
        go_roundw
        case rel => exact ⟨l.drop 4, d ++ x, H4.out, (HB.out.trans HB3.out).trans HB4.out, HS.out, by simp only [List.length_append, List.length_drop]; omega⟩
        case measure =>
          rw [H4.out.leftN, HR.out.leftN, List.length_drop]
          omega
end Go.Proofs.YtaniljfjmbifnaaGreatDoor.W
