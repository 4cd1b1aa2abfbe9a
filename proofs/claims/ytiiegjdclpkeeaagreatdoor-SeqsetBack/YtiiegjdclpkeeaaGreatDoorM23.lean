/- What this text holds: a set's text, and what Print answers. -/
import Derived.Test.YtiiegjdclpkeeaaGreatDoorM22
namespace Go.Proofs.YtiiegjdclpkeeaaGreatDoor
open Go.RowKit
set_option linter.unusedVariables false
set_option linter.unusedSimpArgs false

theorem map_str (L : List Bs) : (L.map str).map (·.data.toList) = L := by
  rw [List.map_map]
  exact (List.map_congr_left (fun a _ => str_data a)).trans (List.map_id _)
theorem join_any {w : World} {v : Value} {L : List Bs} (h : GL eS w v L) (hne : L ≠ []) (hl : L.length ≤ 1000000) (hlen : (Go.Lib.join L [44]).length ≤ 1000000) : Calls Tryz.prog 46 #[v, .string ⟨#[44]⟩] w (TxtIs (Go.Lib.join L [44]) w) := by
  obtain ⟨a, c, rfl, hg, hc⟩ := gl_slice h
  obtain ⟨g, o, rfl, hga, hgl⟩ := hg hne
  have C := Tryz.strings_Join g o c (L.map str) ⟨#[44]⟩ w (fun j x hx => by
    rw [List.getElem?_map] at hx
    rcases hj : L[j]? with _ | y
    · rw [hj] at hx; simp at hx
    · rw [hj] at hx
      simp at hx
      subst hx
      exact hga.s j y hj) hgl (by simp; omega) (by simp; omega) (by rw [map_str]; exact Nat.le_trans hlen (by omega))
  rw [map_str, List.length_map] at C
  exact C
theorem made_strs (n : Nat) (hn : n ≤ 1000000) (w : World) : ∃ w', (Instr.makeSlice 52 (.int .i64 0) (.int .i64 n)).run Tryz.prog w = .ok (.slice (some ⟨w.heap.size, 0, none⟩) 0 n) w' ∧ GO eS w' w.heap.size (.slice (some ⟨w.heap.size, 0, none⟩) 0 n) [] ∧ Below w.heap.size w w' := by
  obtain ⟨i, hi, hz0, hz1, hz2⟩ := info_parts eS.inf
  obtain ⟨w', h1, h2, h3⟩ := run_make_own (P := Tryz.prog) w w.heap.size 52 9 i _ 1 eS.ut hi hz0 hz1 .i64 .i64 n (by rw [hz2]; show 16 * n ≤ _; omega) (by unfold maxLen; omega) (Nat.le_refl _)
  exact ⟨w', h1, h2, (Below.refl _ _).grown h3 (Nat.le_refl _) (fun k hk => by cases hk)⟩
theorem map_take {l : List Sp} {k : Nat} (hk : k < l.length) : (l.take k).map spanB ++ [spanB l[k]] = (l.take (k + 1)).map spanB := by
  rw [List.take_succ_eq_append_getElem hk, List.map_append]
  rfl
set_option maxRecDepth 100000 in
set_option maxHeartbeats 4000000 in
theorem text_any {w : World} {v : Value} {l : List Sp} (hE : Env w) (h : GL eSp w v l) (hl : l.length ≤ 1000) (hr : ∀ s ∈ l, rSp s = true) (hne : l ≠ []) : Calls Tryz.prog 29 #[v] w (TxtIs (textB l) w) := by
  have HLen := hid (text_len l hr)
  obtain ⟨a, c, rfl, hg, hc⟩ := gl_slice h
  obtain ⟨g, o, rfl, hga, hgl⟩ := hg hne
  obtain ⟨wm, hm, hgo, hbm⟩ := made_strs l.length (by omega) w
  have HG := hid hga
  have HM := hid hm
  have HGo := hid hgo
  have HBm := hid hbm
  have HE := hid hE
  have HR := hid hr
  have HN := hid hne
  clear hg h hga hm hgo hbm hE hr hne
  go_enter Tryz.func29, Tryz.ntmps29
  go_wp2_with (first | (refine wpList_run (o := ⟨some 8, .makeSlice 52 _ _, _, _, _, none⟩) rfl (exec_v HM.out) ?_))
  go_loopw [3, 11] (fun v i wr => ∃ k : Nat, k ≤ l.length ∧ i = .int .i64 k ∧ Below w.heap.size w wr ∧ GO eS wr w.heap.size v ((l.take k).map spanB)) (fun _ i _ => l.length - (intOf i).toNat)
  case atStart => exact ⟨0, by omega, rfl, HBm.out, HGo.out⟩
  case round =>
    obtain ⟨k, hk, rfl, hb1, ho1⟩ := hrel
    have HB := hid hb1
    have HO := hid ho1
    clear hb1 ho1
    obtain ⟨a3, c3, hv3⟩ := HO.out.slice (n := k) (by simp; omega)
    subst hv3
    by_cases hlt : k < l.length
    · have hlt' : (k : Int) < l.length := by omega
      have h0 : (0 : Int) ≤ k := by omega
      obtain ⟨hc0, hc1⟩ := (HG.out.later HB.out).sp k l[k] (List.getElem?_eq_getElem hlt)
      have HT := hid (map_take hlt)
      have HS := hid (HR.out l[k] (List.getElem_mem hlt))
      generalize l[k] = s at *
      obtain ⟨x, y⟩ := s
      simp only at hc0 hc1
      have HBa : Hid (Below wr.heap.size wr (wr.alloc (.cells #[.int .i64 x, .int .i64 y] 44))) := (Below.refl _ _).alloc (Nat.le_refl _) _
      have C := spanText_any ((HE.out.later HB.out).later HBa.out) x y HS.out
      unfold TxtIs at C
      go_wp2_with fail
      refine C.mono ?_
      clear C
      rintro e w2 ⟨rfl, hb2⟩
      have HB2 := hid (HBa.out.trans (hb2.mono HBa.out.size))
      clear hb2
      obtain ⟨v', w', hr', ho', hb', _⟩ := go_one eS (HO.out.later HB2.out) (Nat.le_trans HB.out.size HB2.out.size) (by simp; omega) (spanB (x, y)) w2.heap.size rfl
      rw [HT.out] at ho'
      have hr2 : (Builtin.append_ #[52, 52] 52 #[.slice a3 k c3, .slice (some ⟨w2.heap.size, 0, none⟩) 1 1]).run Tryz.prog (w2.alloc (.cells #[.string (str (spanB (x, y)))] 9)) = .ok v' w' := hr'
      have HR' := hid hr2
      have HO' := hid ho'
      have HB' := hid ((HB.out.trans (HB2.out.mono HB.out.size)).trans hb')
      clear hr' ho' hb' hr2
      obtain ⟨a5, c5, hv5⟩ := HO'.out.slice (n := k + 1) (by simp; omega)
      subst hv5
      go_wp2_with (at_builtin; refine wpList_append_run rfl rfl HR'.out ?_)
      go_roundw
      case rel => exact ⟨k + 1, by omega, by go_num, HB'.out, HO'.out⟩
      case measure => simp [intOf]; omega
    · have hlt' : ¬ (k : Int) < l.length := by omega
      have hke : l.take k = l := List.take_of_length_le (by omega)
      rw [hke] at HO
      have C := join_any HO.out.gl (by simpa using HN.out) (by simp; omega) (Nat.le_trans HLen.out (by omega))
      unfold TxtIs at C
      go_wp2_with fail
      refine C.mono ?_
      clear C
      rintro e w2 ⟨rfl, hb2⟩
      have HB2 := hid (HB.out.trans (hb2.mono HB.out.size))
      clear hb2
      go_wp2_with fail
      go_ret
      exact ⟨rfl, HB2.out⟩
/-- What Print answers. -/
theorem print_any {w : World} {v : Value} {l : List Sp} (hE : Env w) (h : GL eSp w v l) (hl : l.length ≤ 1000000) : Calls Tryz.prog 13 #[v] w (TxtIs (printV l) w) := by
  have C1 := right_any h hl
  obtain ⟨a, c, hv, _⟩ := gl_slice h
  have HG := hid h
  have HE := hid hE
  clear h hE
  unfold SameIs at C1
  subst hv
  by_cases hr : rightB l = true
  · obtain ⟨⟨r1, r2⟩, r3⟩ := (right_iff l).1 hr
    have HR := hid r3
    have HX : Hid (printV l = textB l) := by unfold printV; rw [Hid, if_pos hr]
    rw [hr] at C1
    clear hr r3
    go_enter Tryz.func13, Tryz.ntmps13
    go_wp2_with fail
    refine C1.mono ?_
    clear C1
    rintro e w1 ⟨rfl, hb1⟩
    have HB1 := hid hb1
    clear hb1
    have C2 := text_any (HE.out.later HB1.out) (HG.out.later HB1.out) r2 HR.out (by rintro rfl; simp at r1)
    unfold TxtIs at C2
    go_wp2_with fail
    refine C2.mono ?_
    clear C2
    rintro e w2 ⟨rfl, hb2⟩
    have HB2 := hid (HB1.out.trans (hb2.mono HB1.out.size))
    clear hb2
    go_wp2_with fail
    go_ret
    rw [HX.out]
    exact ⟨rfl, HB2.out⟩
  · have hr' : rightB l = false := by simpa using hr
    have HX : Hid (printV l = []) := by unfold printV; rw [Hid, if_neg hr]
    rw [hr'] at C1
    clear hr hr'
    go_enter Tryz.func13, Tryz.ntmps13
    go_wp2_with fail
    refine C1.mono ?_
    clear C1
    rintro e w1 ⟨rfl, hb1⟩
    have HB1 := hid hb1
    clear hb1
    go_wp2_with fail
    go_ret
    rw [HX.out]
    exact ⟨rfl, HB1.out⟩
end Go.Proofs.YtiiegjdclpkeeaaGreatDoor
