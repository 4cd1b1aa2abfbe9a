/- What this text holds: the document's text of a set. -/
import Derived.Test.YtiiegjdclpkeeaaGreatDoorD8
namespace Go.Proofs.YtiiegjdclpkeeaaGreatDoor
open Go.RowKit
set_option linter.unusedVariables false
set_option linter.unusedSimpArgs false

theorem join_snoc (L : List Bs) (x : Bs) (h : L ≠ []) : Go.Lib.join (L ++ [x]) [44] = Go.Lib.join L [44] ++ [44] ++ x := by
  cases L with
  | nil => exact absurd rfl h
  | cons a r =>
    rw [List.cons_append, Go.Lib.join_cons, Go.Lib.join_cons]
    simp [Go.Lib.joinTail]
theorem text_first {l : List Sp} (h : 0 < l.length) : textB (l.take (0 + 1)) = spanB l[0] := by
  rw [List.take_succ_eq_append_getElem h, List.take_zero, List.nil_append, text_one]
theorem text_next {l : List Sp} {k : Nat} (hk : k < l.length) (h0 : 0 < k) : textB (l.take (k + 1)) = textB (l.take k) ++ [44] ++ spanB l[k] := by
  unfold textB
  rw [List.take_succ_eq_append_getElem hk, List.map_append]
  exact join_snoc _ _ (by
    intro e
    have := congrArg List.length e
    simp at this
    rcases this with h | h
    · omega
    · rw [h] at hk; simp at hk)
theorem str_eq (x y : Int) (h : x = y) (A : Bs) : str (A ++ spanB (x, y)) = str A ++ str (endB x) := by
  unfold spanB; rw [if_pos h, app_str]
theorem str_ne (x y : Int) (h : x ≠ y) (A : Bs) : str (A ++ spanB (x, y)) = str A ++ str (endB x) ++ ⟨#[58]⟩ ++ str (endB y) := by
  unfold spanB; rw [if_neg h]
  show _ = str A ++ str (endB x) ++ str [58] ++ str (endB y)
  rw [app_str, app_str, app_str]; simp
theorem str_comma (A : Bs) : str (A ++ [44]) = str A ++ ⟨#[44]⟩ := by
  show _ = str A ++ str [44]
  rw [app_str]
set_option maxRecDepth 100000 in
set_option maxHeartbeats 8000000 in
theorem rprint_yes {w : World} {v : Value} {l : List Sp} (h : GL eSp w v l) (hr : rightB l = true) : Calls Tryz.prog 14 #[v] w (TxtIs (textB l) w) := by
  obtain ⟨⟨r1, r2⟩, r3⟩ := (right_iff l).1 hr
  have HGl := hid h
  have CR := fun (W : World) (hb : Below w.heap.size w W) => rright_any (HGl.out.later hb) (by omega)
  unfold SameIs at CR
  rw [hr] at CR
  obtain ⟨a, c, rfl, hg, hc⟩ := gl_slice h
  obtain ⟨g, o, rfl, hga, hgl⟩ := hg (by rintro rfl; simp at r1)
  have HG := hid hga
  have HR := hid r3
  clear hg h hga r3 hr HGl
  go_enter Tryz.func14, Tryz.ntmps14
  go_wp2_with fail
  go_loopw [3, 4] (fun sv i wr => ∃ k : Nat, k ≤ l.length ∧ i = .int .i64 k ∧ sv = .string (str (textB (l.take k))) ∧ Below w.heap.size w wr) (fun _ i _ => l.length - (intOf i).toNat)
  case atStart => exact ⟨0, by omega, rfl, rfl, Below.refl _ _⟩
  case round =>
    obtain ⟨k, hk, rfl, rfl, hb1⟩ := hrel
    have HB := hid hb1
    clear hb1
    by_cases hlt : k < l.length
    · have hlt' : (k : Int) < l.length := by omega
      have h0 : (0 : Int) ≤ k := by omega
      have HSp : Hid (∀ W, Below w.heap.size w W → W.cell? ⟨g, o + k * 2, none⟩ = some (.int .i64 l[k].1) ∧ W.cell? ⟨g, o + k * 2 + 1, none⟩ = some (.int .i64 l[k].2)) := fun W hb => (HG.out.later hb).sp k l[k] (List.getElem?_eq_getElem hlt)
      have HS := hid (HR.out l[k] (List.getElem_mem hlt))
      have HTx0 := hid (fun (e : k = 0) => show textB (l.take (k + 1)) = [] ++ spanB l[k] by subst e; rw [text_first hlt, List.nil_append])
      have HTx1 := hid (fun (e : 0 < k) => text_next hlt e)
      have hAl : (str (textB (l.take k))).size ≤ 22000 := by
        rw [str_size]
        have h1 := text_len (l.take k) (fun s hs => HR.out s (List.mem_of_mem_take hs))
        have h2 : (l.take k).length ≤ 1000 := by simp; omega
        omega
      have HA0 : Hid (k = 0 → textB (l.take k) = []) := fun e => by rw [e]; rfl
      generalize l[k] = s at *
      obtain ⟨x, y⟩ := s
      obtain ⟨⟨a0, a1⟩, b0, b1⟩ := (rSp_iff (x, y)).1 HS.out
      simp only at a0 a1 b0 b1 HSp
      have C1 := fun (W : World) => rdigits_any x a0 a1 W
      have C2 := fun (W : World) => rdigits_any y b0 b1 W
      unfold TxtIs at C1 C2
      have s1 : (str (endB x)).size ≤ 10 := by rw [str_size]; exact end_len a1
      have s2 : (str (endB y)).size ≤ 10 := by rw [str_size]; exact end_len b1
      clear a0 a1 b0 b1 HS
      by_cases hxy : x = y
      · by_cases hk0 : k = 0
        · have HT := hid (HTx0.out hk0)
          have HTs : Hid (str (textB (l.take (k + 1))) = str [] ++ str (endB x)) := by rw [Hid, HT.out, str_eq x y hxy]
          have hxb : (x != y) = false := by simpa using hxy
          clear HTx0 HTx1 HT hxy
          rw [HA0.out hk0] at *
          subst hk0
          simp only [Nat.zero_mul, Nat.add_zero] at HSp
          have hlt0 : (0 : Int) < l.length := by omega
          have hAz : (str []).size ≤ 22000 := by rw [str_size]; simp
          clear HA0
          generalize str [] = A at *
          generalize str (endB x) = ex at *
          generalize str (endB y) = ey at *
          go_wp2_with fail
          refine (CR _ HB.out).mono ?_
          rintro e w1 ⟨rfl, hb1⟩
          have HB1 := hid (HB.out.trans (hb1.mono HB.out.size))
          clear hb1
          obtain ⟨hc0, hc1⟩ := HSp.out _ HB1.out
          go_wp2_with fail
          refine (C1 _).mono ?_
          rintro e w2 ⟨rfl, hb2⟩
          have HB2 := hid (HB1.out.trans (hb2.mono HB1.out.size))
          clear hb2 hc0 hc1
          obtain ⟨hc0, hc1⟩ := HSp.out _ HB2.out
          go_wp2_with fail
          go_quiet (fail)
          have HB3 := hid (HB2.out.trans (drewN_below w2 nq _))
          clear hc0 hc1
          generalize w2.drewN nq = w3 at *
          obtain ⟨hc0, hc1⟩ := HSp.out _ HB3.out
          go_wp2_with fail
          go_roundw
          case rel => exact ⟨0 + 1, by omega, by go_num, by rw [HTs.out], HB3.out⟩
          case measure => simp [intOf]; omega
        · replace hk0 : 0 < k := by omega
          have HT := hid (HTx1.out hk0)
          have hz : (0 : Int) < k := by omega
          have HTs : Hid (str (textB (l.take (k + 1))) = (str (textB (l.take k)) ++ ⟨#[44]⟩) ++ str (endB x)) := by rw [Hid, HT.out, str_eq x y hxy, str_comma]
          have hxb : (x != y) = false := by simpa using hxy
          clear HTx0 HTx1 HT hxy
          clear HA0
          generalize str (textB (l.take k)) = A at *
          generalize str (endB x) = ex at *
          generalize str (endB y) = ey at *
          go_wp2_with fail
          refine (CR _ HB.out).mono ?_
          rintro e w1 ⟨rfl, hb1⟩
          have HB1 := hid (HB.out.trans (hb1.mono HB.out.size))
          clear hb1
          obtain ⟨hc0, hc1⟩ := HSp.out _ HB1.out
          go_wp2_with fail
          refine (C1 _).mono ?_
          rintro e w2 ⟨rfl, hb2⟩
          have HB2 := hid (HB1.out.trans (hb2.mono HB1.out.size))
          clear hb2 hc0 hc1
          obtain ⟨hc0, hc1⟩ := HSp.out _ HB2.out
          go_wp2_with fail
          go_quiet (fail)
          have HB3 := hid (HB2.out.trans (drewN_below w2 nq _))
          clear hc0 hc1
          generalize w2.drewN nq = w3 at *
          obtain ⟨hc0, hc1⟩ := HSp.out _ HB3.out
          go_wp2_with fail
          go_roundw
          case rel => exact ⟨k + 1, by omega, by go_num, by rw [HTs.out], HB3.out⟩
          case measure => simp [intOf]; omega
      · by_cases hk0 : k = 0
        · have HT := hid (HTx0.out hk0)
          have HTs : Hid (str (textB (l.take (k + 1))) = str [] ++ str (endB x) ++ ⟨#[58]⟩ ++ str (endB y)) := by rw [Hid, HT.out, str_ne x y hxy]
          have hxb : (x != y) = true := by simpa using hxy
          clear HTx0 HTx1 HT hxy
          rw [HA0.out hk0] at *
          subst hk0
          simp only [Nat.zero_mul, Nat.add_zero] at HSp
          have hlt0 : (0 : Int) < l.length := by omega
          have hAz : (str []).size ≤ 22000 := by rw [str_size]; simp
          clear HA0
          generalize str [] = A at *
          generalize str (endB x) = ex at *
          generalize str (endB y) = ey at *
          go_wp2_with fail
          refine (CR _ HB.out).mono ?_
          rintro e w1 ⟨rfl, hb1⟩
          have HB1 := hid (HB.out.trans (hb1.mono HB.out.size))
          clear hb1
          obtain ⟨hc0, hc1⟩ := HSp.out _ HB1.out
          go_wp2_with fail
          refine (C1 _).mono ?_
          rintro e w2 ⟨rfl, hb2⟩
          have HB2 := hid (HB1.out.trans (hb2.mono HB1.out.size))
          clear hb2 hc0 hc1
          obtain ⟨hc0, hc1⟩ := HSp.out _ HB2.out
          go_wp2_with fail
          go_quiet (fail)
          have HB3 := hid (HB2.out.trans (drewN_below w2 nq _))
          clear hc0 hc1
          generalize w2.drewN nq = w3 at *
          obtain ⟨hc0, hc1⟩ := HSp.out _ HB3.out
          go_wp2_with fail
          refine (C2 _).mono ?_
          rintro e w4 ⟨rfl, hb4⟩
          have HB4 := hid (HB3.out.trans (hb4.mono HB3.out.size))
          clear hb4 hc0 hc1
          go_wp2_with fail
          go_roundw
          case rel => exact ⟨0 + 1, by omega, by go_num, by rw [HTs.out], HB4.out⟩
          case measure => simp [intOf]; omega
        · replace hk0 : 0 < k := by omega
          have HT := hid (HTx1.out hk0)
          have hz : (0 : Int) < k := by omega
          have HTs : Hid (str (textB (l.take (k + 1))) = (str (textB (l.take k)) ++ ⟨#[44]⟩) ++ str (endB x) ++ ⟨#[58]⟩ ++ str (endB y)) := by rw [Hid, HT.out, str_ne x y hxy, str_comma]
          have hxb : (x != y) = true := by simpa using hxy
          clear HTx0 HTx1 HT hxy
          clear HA0
          generalize str (textB (l.take k)) = A at *
          generalize str (endB x) = ex at *
          generalize str (endB y) = ey at *
          go_wp2_with fail
          refine (CR _ HB.out).mono ?_
          rintro e w1 ⟨rfl, hb1⟩
          have HB1 := hid (HB.out.trans (hb1.mono HB.out.size))
          clear hb1
          obtain ⟨hc0, hc1⟩ := HSp.out _ HB1.out
          go_wp2_with fail
          refine (C1 _).mono ?_
          rintro e w2 ⟨rfl, hb2⟩
          have HB2 := hid (HB1.out.trans (hb2.mono HB1.out.size))
          clear hb2 hc0 hc1
          obtain ⟨hc0, hc1⟩ := HSp.out _ HB2.out
          go_wp2_with fail
          go_quiet (fail)
          have HB3 := hid (HB2.out.trans (drewN_below w2 nq _))
          clear hc0 hc1
          generalize w2.drewN nq = w3 at *
          obtain ⟨hc0, hc1⟩ := HSp.out _ HB3.out
          go_wp2_with fail
          refine (C2 _).mono ?_
          rintro e w4 ⟨rfl, hb4⟩
          have HB4 := hid (HB3.out.trans (hb4.mono HB3.out.size))
          clear hb4 hc0 hc1
          go_wp2_with fail
          go_roundw
          case rel => exact ⟨k + 1, by omega, by go_num, by rw [HTs.out], HB4.out⟩
          case measure => simp [intOf]; omega
    · have hlt' : ¬ (k : Int) < l.length := by omega
      have hke : l.take k = l := List.take_of_length_le (by omega)
      rw [hke]
      go_wp2_with fail
      go_ret
      exact ⟨rfl, HB.out⟩
set_option maxRecDepth 100000 in
set_option maxHeartbeats 8000000 in
theorem rprint_no {w : World} {v : Value} {l : List Sp} (h : GL eSp w v l) (hl : l.length ≤ 1000000) (hr : rightB l = false) : Calls Tryz.prog 14 #[v] w (TxtIs [] w) := by
  have CR := rright_any h hl
  unfold SameIs at CR
  rw [hr] at CR
  obtain ⟨a, c, rfl, _⟩ := gl_slice h
  clear h hr
  go_enter Tryz.func14, Tryz.ntmps14
  go_wp2_with fail
  go_loopw [3, 4] (fun sv i wr => i = .int .i64 0 ∧ sv = .string ⟨#[]⟩ ∧ wr = w) (fun _ i _ => 0)
  case atStart => exact ⟨rfl, rfl, rfl⟩
  case round =>
    obtain ⟨rfl, rfl, rfl⟩ := hrel
    by_cases hlt : (0 : Int) < l.length
    · go_wp2_with fail
      refine CR.mono ?_
      rintro e w1 ⟨rfl, hb1⟩
      have HB1 := hid hb1
      clear hb1
      go_wp2_with fail
      go_ret
      exact ⟨rfl, HB1.out⟩
    · go_wp2_with fail
      go_ret
      exact ⟨rfl, Below.refl _ _⟩
theorem rprint_any {w : World} {v : Value} {l : List Sp} (h : GL eSp w v l) (hl : l.length ≤ 1000000) : Calls Tryz.prog 14 #[v] w (TxtIs (printV l) w) := by
  unfold printV
  by_cases hr : rightB l = true
  · rw [if_pos hr]; exact rprint_yes h hr
  · rw [if_neg hr]; exact rprint_no h hl (by simpa using hr)
end Go.Proofs.YtiiegjdclpkeeaaGreatDoor
