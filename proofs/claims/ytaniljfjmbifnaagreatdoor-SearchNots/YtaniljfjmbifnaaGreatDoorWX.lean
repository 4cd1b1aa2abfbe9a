/- What this text holds: what an encoded word says; an encoded word; lines. · What this text holds: lines with what their encoded words say. -/
import Derived.Test.YtaniljfjmbifnaaGreatDoorWM7
namespace Go.Proofs.YtaniljfjmbifnaaGreatDoor.W
open Go.RowKit
set_option linter.unusedVariables false
set_option linter.unusedSimpArgs false

theorem eq_lit (l m : Bs) : ((str l).toList == m) = decide (l = m) := by
  rw [Go.Lib.toList_data, str_data, Bool.eq_iff_iff]
  simp
/-- A text, or none. -/
def optV (o : Option Bs) : Value := match o with
  | some x => .tuple #[.string (str x), .bool true]
  | none => .tuple #[.string ⟨#[]⟩, .bool false]

set_option maxRecDepth 100000 in
set_option maxHeartbeats 1000000 in
theorem written_any (way text : Bs) (w : World) (hl : text.length ≤ 1000000) : Calls Tryz.prog 156 #[.string (str way), .string (str text)] w fun e w' => e = .returned (optV (written way text)) ∧ Below w.heap.size w w' := by
  have q1 := eq_lit way [98]
  have q2 := eq_lit way [113]
  by_cases h1 : way = [98]
  · rw [decide_eq_true h1] at q1
    have HW : Hid (written way text = un text) := by unfold Hid written; rw [if_pos h1]
    clear h1 q2
    have C := unbase64_any text w hl
    rcases hu : un text with _ | x
    · rw [unV_no hu] at C
      rw [hu] at HW
      clear hu
      go_enter Tryz.func156, Tryz.ntmps156
      go_wp2_with fail
      refine C.mono ?_
      clear C
      rintro e w2 ⟨rfl, hb⟩
      have HB := hid hb
      clear hb
      go_wp2_with fail
      go_ret2
      rw [HW.out]
      exact ⟨rfl, HB.out⟩
    · rw [unV_ok hu] at C
      rw [hu] at HW
      clear hu
      go_enter Tryz.func156, Tryz.ntmps156
      go_wp2_with fail
      refine C.mono ?_
      clear C
      rintro e w2 ⟨rfl, hb⟩
      have HB := hid hb
      clear hb
      go_wp2_with fail
      go_ret2
      rw [HW.out]
      exact ⟨rfl, HB.out⟩
  · rw [decide_eq_false h1] at q1
    by_cases h2 : way = [113]
    · rw [decide_eq_true h2] at q2
      have HW : Hid (written way text = some (und text)) := by unfold Hid written; rw [if_neg h1, if_pos h2]
      clear h1 h2
      go_enter Tryz.func156, Tryz.ntmps156
      go_wp2_with fail
      refine (under_any text w hl).mono ?_
      rintro e w2 ⟨rfl, hb⟩
      have HB := hid hb
      clear hb
      go_wp2_with fail
      go_ret2
      rw [HW.out]
      exact ⟨rfl, HB.out⟩
    · rw [decide_eq_false h2] at q2
      have HW : Hid (written way text = none) := by unfold Hid written; rw [if_neg h1, if_neg h2]
      clear h1 h2
      go_enter Tryz.func156, Tryz.ntmps156
      go_wp2_with fail
      go_ret2
      rw [HW.out]
      exact ⟨rfl, Below.refl _ _⟩
theorem optV_some (x : Bs) : optV (some x) = .tuple #[.string (str x), .bool true] := rfl
theorem optV_none : optV none = .tuple #[.string ⟨#[]⟩, .bool false] := rfl

set_option maxRecDepth 100000 in
set_option maxHeartbeats 1000000 in
theorem says_any (cs way text : Bs) (w : World) (hl : text.length ≤ 1000000) (hc : cs.length ≤ 1000000) : Calls Tryz.prog 110 #[.string (str cs), .string (str way), .string (str text)] w fun e w' => e = .returned (optV (says cs way text)) ∧ Below w.heap.size w w' := by
  have q1 : ((str (low cs)).toList == [117, 116, 102, 45, 56]) = decide (low cs = utf8L) := eq_lit (low cs) [117, 116, 102, 45, 56]
  have q2 : ((str (low cs)).toList == [117, 115, 45, 97, 115, 99, 105, 105]) = decide (low cs = asciiL) := eq_lit (low cs) [117, 115, 45, 97, 115, 99, 105, 105]
  have q3 : ((str (low cs)).toList == [105, 115, 111, 45, 56, 56, 53, 57, 45, 49]) = decide (low cs = isoL) := eq_lit (low cs) [105, 115, 111, 45, 56, 56, 53, 57, 45, 49]
  have HS : Hid (says cs way text = if low cs = utf8L ∨ low cs = asciiL then written way text else if low cs = isoL then (written way text).map latin else none) := rfl
  have HL := hid (lower_any cs w (by omega))
  generalize low cs = k at q1 q2 q3 HS HL
  by_cases h1 : k = utf8L
  · rw [decide_eq_true h1] at q1
    have HW : Hid (says cs way text = written way text) := by rw [Hid, HS.out, if_pos (.inl h1)]
    clear h1 q2 q3 HS
    go_enter Tryz.func110, Tryz.ntmps110
    go_wp2_with fail
    refine HL.out.mono ?_
    rintro e w1 ⟨rfl, hb⟩
    have HB1 := hid hb
    clear hb
    go_wp2_with fail
    have C := written_any way text w1 hl
    rcases hu : written way text with _ | x
    · rw [hu, optV_none] at C
      rw [hu] at HW
      clear hu
      refine C.mono ?_
      clear C
      rintro e w2 ⟨rfl, hb⟩
      have HB := hid (HB1.out.trans (hb.mono HB1.out.size))
      clear hb
      go_wp2_with fail
      go_ret2
      rw [HW.out]
      exact ⟨rfl, HB.out⟩
    · rw [hu, optV_some] at C
      rw [hu] at HW
      clear hu
      refine C.mono ?_
      clear C
      rintro e w2 ⟨rfl, hb⟩
      have HB := hid (HB1.out.trans (hb.mono HB1.out.size))
      clear hb
      go_wp2_with fail
      go_ret2
      rw [HW.out]
      exact ⟨rfl, HB.out⟩
  · rw [decide_eq_false h1] at q1
    by_cases h2 : k = asciiL
    · rw [decide_eq_true h2] at q2
      have HW : Hid (says cs way text = written way text) := by rw [Hid, HS.out, if_pos (.inr h2)]
      clear h1 h2 q3 HS
      go_enter Tryz.func110, Tryz.ntmps110
      go_wp2_with fail
      refine HL.out.mono ?_
      rintro e w1 ⟨rfl, hb⟩
      have HB1 := hid hb
      clear hb
      go_wp2_with fail
      have C := written_any way text w1 hl
      rcases hu : written way text with _ | x
      · rw [hu, optV_none] at C
        rw [hu] at HW
        clear hu
        refine C.mono ?_
        clear C
        rintro e w2 ⟨rfl, hb⟩
        have HB := hid (HB1.out.trans (hb.mono HB1.out.size))
        clear hb
        go_wp2_with fail
        go_ret2
        rw [HW.out]
        exact ⟨rfl, HB.out⟩
      · rw [hu, optV_some] at C
        rw [hu] at HW
        clear hu
        refine C.mono ?_
        clear C
        rintro e w2 ⟨rfl, hb⟩
        have HB := hid (HB1.out.trans (hb.mono HB1.out.size))
        clear hb
        go_wp2_with fail
        go_ret2
        rw [HW.out]
        exact ⟨rfl, HB.out⟩
    · rw [decide_eq_false h2] at q2
      by_cases h3 : k = isoL
      · rw [decide_eq_true h3] at q3
        have HW : Hid (says cs way text = (written way text).map latin) := by rw [Hid, HS.out, if_neg (by simp [h1, h2]), if_pos h3]
        clear h1 h2 h3 HS
        go_enter Tryz.func110, Tryz.ntmps110
        go_wp2_with fail
        refine HL.out.mono ?_
        rintro e w1 ⟨rfl, hb⟩
        have HB1 := hid hb
        clear hb
        go_wp2_with fail
        have C := written_any way text w1 hl
        rcases hu : written way text with _ | x
        · rw [hu, optV_none] at C
          rw [hu] at HW
          clear hu
          refine C.mono ?_
          clear C
          rintro e w2 ⟨rfl, hb⟩
          have HB := hid (HB1.out.trans (hb.mono HB1.out.size))
          clear hb
          go_wp2_with fail
          refine (latin_any [] w2 (by simp)).mono ?_
          rintro e w3 ⟨rfl, hb⟩
          have HB3 := hid (HB.out.trans (hb.mono HB.out.size))
          clear hb
          go_wp2_with fail
          go_ret2
          rw [HW.out]
          exact ⟨rfl, HB3.out⟩
        · have hx := written_len hu
          rw [hu, optV_some] at C
          rw [hu] at HW
          clear hu
          refine C.mono ?_
          clear C
          rintro e w2 ⟨rfl, hb⟩
          have HB := hid (HB1.out.trans (hb.mono HB1.out.size))
          clear hb
          go_wp2_with fail
          refine (latin_any x w2 (by omega)).mono ?_
          rintro e w3 ⟨rfl, hb⟩
          have HB3 := hid (HB.out.trans (hb.mono HB.out.size))
          clear hb
          go_wp2_with fail
          go_ret2
          rw [HW.out]
          exact ⟨rfl, HB3.out⟩
      · rw [decide_eq_false h3] at q3
        have HW : Hid (says cs way text = none) := by rw [Hid, HS.out, if_neg (by simp [h1, h2]), if_neg h3]
        clear h1 h2 h3 HS
        go_enter Tryz.func110, Tryz.ntmps110
        go_wp2_with fail
        refine HL.out.mono ?_
        rintro e w1 ⟨rfl, hb⟩
        have HB1 := hid hb
        clear hb
        go_wp2_with fail
        go_ret2
        rw [HW.out]
        exact ⟨rfl, HB1.out⟩

/-- What word answers, and what is left then. -/
def wordPost (o : Option (Bs × Bs)) (b : Nat) (w : World) (e : Ending) (w' : World) : Prop := match o with
  | none => e = .returned (.tuple #[.string ⟨#[]⟩, .bool false]) ∧ Below w.heap.size w w'
  | some (x, r) => e = .returned (.tuple #[.string (str x), .bool true]) ∧ ∃ w1, Below w.heap.size w w1 ∧ w' = w1.setCell ⟨b, 0, none⟩ (.string (str r))
theorem cut_yes {p l r : Bs} (h : cut p l = some r) : pre p l = true ∧ l.drop p.length = r := by
  unfold cut at h
  split at h
  · next hp => exact ⟨hp, by simpa using h⟩
  · cases h
theorem cut_no {p l : Bs} (h : cut p l = none) : pre p l = false := by
  unfold cut at h
  split at h
  · cases h
  · next hp => simpa using hp

set_option maxRecDepth 100000 in
set_option maxHeartbeats 2000000 in
theorem word_any {w : World} {b : Nat} {l : Bs} (h : w.cell? ⟨b, 0, none⟩ = some (.string (str l))) (hf : w.frozen? ⟨b, 0, none⟩ = false) (hbw : b < w.heap.size) (hl : l.length ≤ 1000000) :
    Calls Tryz.prog 72 #[.pointer (some ⟨b, 0, none⟩)] w fun e w' => wordPost (word l) b w e w' := by
  have HP : Hid (∀ e w', (e = .returned (.tuple #[.string ⟨#[]⟩, .bool false]) ∧ Below w.heap.size w w') → word l = none → wordPost (word l) b w e w') := by
    intro e w' h1 h2
    rw [h2]
    exact h1
  have HQ : Hid (∀ x r e w', word l = some (x, r) → (e = .returned (.tuple #[.string (str x), .bool true]) ∧ ∃ w1, Below w.heap.size w w1 ∧ w' = w1.setCell ⟨b, 0, none⟩ (.string (str r))) → wordPost (word l) b w e w') := by
    intro x r e w' h1 h2
    rw [h1]
    exact h2
  have HNew := hid (Ah.new w l)
  rcases h1 : cut [61, 63] l with _ | l1
  · have HW : Hid (word l = none) := by unfold Hid word; rw [h1]; rfl
    have C := takes_no HNew.out.left.1 (cut_no h1)
    clear h1
    go_enter Tryz.func72, Tryz.ntmps72
    go_wp2_with fail
    refine C.mono ?_
    clear C
    rintro e w2 ⟨rfl, rfl⟩
    go_wp2_with fail
    go_ret2
    exact HP.out _ _ ⟨rfl, HNew.out.below⟩ HW.out
  · have C := HNew.out.yes [61, 63] hl (cut_yes h1).1
    rw [(cut_yes h1).2] at C
    have n1 := cut_len h1
    have n2 := drop_len plain l1
    have HW : Hid (word l = (cut [63] (l1.dropWhile plain)).bind fun l2 => (cut [63] (l2.drop 1)).bind fun l3 => (cut [63, 61] (l3.dropWhile plain)).bind fun l4 =>
        (says (l1.takeWhile plain) (low (l2.take 1)) (l3.takeWhile plain)).map fun x => (x, l4)) := by unfold Hid word; rw [h1]; rfl
    clear h1
    have hsl : (l1.takeWhile plain).length ≤ 1000000 := by have := take_len plain l1; omega
    go_enter Tryz.func72, Tryz.ntmps72
    go_wp2_with fail
    refine C.mono ?_
    clear C
    rintro e w2 ⟨rfl, h2⟩
    have H2 := hid h2
    clear h2
    go_wp2_with fail
    refine (H2.out.run (by omega)).mono ?_
    rintro e w3 ⟨rfl, h3⟩
    have H3 := hid h3
    clear h3
    go_wp2_with fail
    rcases h2 : cut [63] (l1.dropWhile plain) with _ | l2
    · rw [h2] at HW
      have C := way_no H3.out (cut_no h2)
      clear h2
      refine C.mono ?_
      clear C
      rintro e w4 ⟨rfl, rfl⟩
      go_wp2_with fail
      go_ret2
      exact HP.out _ _ ⟨rfl, H3.out.below⟩ HW.out
    · rw [h2] at HW
      have C := way_any H3.out (by omega) h2
      have n3 := cut_len h2
      clear h2
      rcases h3 : cut [63] (l2.drop 1) with _ | l3
      · have HW2 : Hid (word l = none) := by rw [Hid, HW.out]; simp only [Option.bind_some, h3, Option.bind_none]
        rw [h3] at C
        simp only [Option.isSome_none] at C
        clear h3 HW
        refine C.mono ?_
        clear C
        rintro e w4 ⟨rfl, h4⟩
        have H4 := hid h4
        clear h4
        go_wp2_with fail
        go_ret2
        exact HP.out _ _ ⟨rfl, H4.out.below⟩ HW2.out
      · have HW2 : Hid (word l = (cut [63, 61] (l3.dropWhile plain)).bind fun l4 => (says (l1.takeWhile plain) (low (l2.take 1)) (l3.takeWhile plain)).map fun x => (x, l4)) := by rw [Hid, HW.out]; simp only [Option.bind_some, h3]
        have n4 := cut_len h3
        rw [h3] at C
        simp only [Option.isSome_some, Option.getD_some] at C
        rw [List.length_drop] at n4
        have n5 := take_len plain l3
        clear h3 HW
        refine C.mono ?_
        clear C
        rintro e w4 ⟨rfl, h4⟩
        have H4 := hid h4
        clear h4
        go_wp2_with fail
        refine (H4.out.run (by omega)).mono ?_
        rintro e w5 ⟨rfl, h5⟩
        have H5 := hid h5
        clear h5
        go_wp2_with fail
        rcases h4 : cut [63, 61] (l3.dropWhile plain) with _ | l4
        · rw [h4] at HW2
          have C := takes_no H5.out.left.1 (cut_no h4)
          clear h4
          refine C.mono ?_
          clear C
          rintro e w6 ⟨rfl, rfl⟩
          go_wp2_with fail
          go_ret2
          exact HP.out _ _ ⟨rfl, H5.out.below⟩ HW2.out
        · have C := H5.out.yes [63, 61] (by omega) (cut_yes h4).1
          rw [(cut_yes h4).2] at C
          rw [h4] at HW2
          clear h4
          refine C.mono ?_
          clear C
          rintro e w6 ⟨rfl, h6⟩
          have H6 := hid h6
          clear h6
          go_wp2_with fail
          have C := says_any (l1.takeWhile plain) (low (l2.take 1)) (l3.takeWhile plain) w6 (by omega) hsl
          rcases h7 : says (l1.takeWhile plain) (low (l2.take 1)) (l3.takeWhile plain) with _ | x
          · have HW3 : Hid (word l = none) := by rw [Hid, HW2.out]; simp only [Option.bind_some, h7, Option.map_none]
            rw [h7, optV_none] at C
            clear h7 HW2
            refine C.mono ?_
            clear C
            rintro e w7 ⟨rfl, hb7⟩
            have H7 := hid (H6.out.later hb7)
            clear hb7
            go_wp2_with fail
            go_ret2
            exact HP.out _ _ ⟨rfl, H7.out.below⟩ HW3.out
          · have HW3 : Hid (word l = some (x, l4)) := by rw [Hid, HW2.out]; simp only [Option.bind_some, h7, Option.map_some]
            rw [h7, optV_some] at C
            clear h7 HW2
            refine C.mono ?_
            clear C
            rintro e w7 ⟨rfl, hb7⟩
            have H7 := hid (H6.out.later hb7)
            clear hb7
            have c7 := H7.out.left.1
            have hold : w7.cell? ⟨b, 0, none⟩ = some (.string (str l)) ∧ w7.frozen? ⟨b, 0, none⟩ = false := by
              have := H7.out.below.block b hbw
              constructor
              · rw [← h]; exact World.cell?_of_block this
              · rw [← hf]; simp only [World.frozen?, this]
            obtain ⟨o1, o2⟩ := hold
            go_wp2_with fail
            go_ret2
            exact HQ.out _ _ _ _ HW3.out ⟨rfl, w7, H7.out.below, rfl⟩
end Go.Proofs.YtaniljfjmbifnaaGreatDoor.W
namespace Go.Proofs.YtaniljfjmbifnaaGreatDoor.W
open Go.RowKit
set_option linter.unusedVariables false
set_option linter.unusedSimpArgs false

/-- Strings lie in memory. -/
def SAt (w : World) (g o : Nat) (l : List Bs) : Prop := ∀ (j : Nat) x, l[j]? = some x → w.cell? ⟨g, o + j, none⟩ = some (.string (str x))
theorem SAt.later {w w' : World} {g o : Nat} {l : List Bs} (h : SAt w g o l) (hb : Below w.heap.size w w') : SAt w' g o l := by
  intro j x hx
  have := h j x hx
  exact (World.cell?_of_block (hb.block g (World.block_lt_of_cell? w _ this))).trans this
def SL (w : World) (v : Value) (l : List Bs) : Prop := ∃ a c, v = .slice a l.length c ∧ l.length ≤ c ∧ (l = [] ∨ ∃ g o, a = some ⟨g, o, none⟩ ∧ SAt w g o l)
theorem SL.later {w w' : World} {v : Value} {l : List Bs} (h : SL w v l) (hb : Below w.heap.size w w') : SL w' v l := by
  obtain ⟨a, c, rfl, hc, h⟩ := h
  refine ⟨a, c, rfl, hc, ?_⟩
  rcases h with h | ⟨g, o, rfl, h⟩
  · exact .inl h
  · exact .inr ⟨g, o, rfl, h.later hb⟩
theorem join_any (ls : List Bs) (v : Value) (w : World) (h : SL w v ls) (hn : ls.length ≤ 1000000) (hl : (joined ls).length ≤ 1000000) :
    Calls Tryz.prog 68 #[v, .string ⟨#[32]⟩] w fun e w' => e = .returned (.string (str (joined ls))) ∧ Below w.heap.size w w' := by
  obtain ⟨a, c, rfl, hc, h⟩ := h
  rcases h with rfl | ⟨g, o, rfl, h⟩
  · refine (Tryz.strings_Join_none a c ⟨#[32]⟩ w).mono ?_
    rintro e w' ⟨rfl, rfl⟩
    exact ⟨rfl, Below.refl _ _⟩
  · by_cases h0 : ls = []
    · subst h0
      refine (Tryz.strings_Join_none _ c ⟨#[32]⟩ w).mono ?_
      rintro e w' ⟨rfl, rfl⟩
      exact ⟨rfl, Below.refl _ _⟩
    · have hg : g < w.heap.size := by
        cases ls with
        | nil => exact absurd rfl h0
        | cons x l => exact World.block_lt_of_cell? w _ (h 0 x rfl)
      have e : (ls.map str).map (·.data.toList) = ls := by
        rw [List.map_map]
        exact List.map_id ls
      have C := Tryz.strings_Join g o c (ls.map str) ⟨#[32]⟩ w (fun j x hx => by
        rw [List.getElem?_map] at hx
        obtain ⟨y, hy, rfl⟩ := Option.map_eq_some_iff.1 hx
        exact h j y hy) hg (by simp; omega) (by simpa using hc) (by rw [e]; exact Nat.le_trans hl (by omega))
      rw [e, List.length_map] at C
      exact C

set_option maxRecDepth 100000 in
set_option maxHeartbeats 2000000 in
theorem words_any (ls : List Bs) (v : Value) (w : World) (h : SL w v ls) (hn : ls.length ≤ 1000000) (hs : (joined ls).length ≤ 1000000) :
    Calls Tryz.prog 37 #[v] w fun e w' => e = .returned (.string (str (wordsP false (joined ls)))) ∧ Below w.heap.size w w' := by
  have HJ := hid (join_any ls v w h hn hs)
  clear h hn
  generalize joined ls = s at HJ hs
  go_enter Tryz.func37, Tryz.ntmps37
  go_wp2_with fail
  refine HJ.out.mono ?_
  rintro e w0 ⟨rfl, hb0⟩
  have HB0 := hid hb0
  clear hb0
  go_wp2_with fail
  refine (read_any s w0 hs).mono ?_
  rintro e w1 ⟨b, rfl, h1, hb1⟩
  have H1 := hid h1
  have HB1 := hid hb1
  clear h1 hb1
  go_wp2_with fail
  go_loopw [4] (fun i wr => ∃ bh l d, i = .bool bh ∧ RAt wr w0.heap.size b l d ∧ Below w0.heap.size w0 wr ∧ d ++ wordsP bh l = wordsP false s ∧ d.length + 4 * l.length ≤ 4 * s.length) (fun _ wr => leftN b wr)
  case atStart => exact ⟨false, s, [], rfl, H1.out, HB1.out, rfl, by simp⟩
  case round =>
    obtain ⟨bh, l, d, rfl, hr, hb, hd, hl⟩ := hrel
    have HR := hid hr
    have HB := hid hb
    have HD := hid hd
    clear hr hb hd
    by_cases h0 : l = []
    · subst h0
      have hf : decide (([] : Bs) ≠ []) = false := by simp
      have C := more_any HR.out.left.1
      rw [hf] at C
      go_wp2_with fail
      refine C.mono ?_
      clear C
      rintro e w2 ⟨rfl, rfl⟩
      go_wp2_with fail
      refine (text_any HR.out).mono ?_
      rintro e w2 ⟨rfl, rfl⟩
      go_wp2_with fail
      go_ret
      have := HD.out
      rw [wordsP_nil, List.append_nil] at this
      rw [this]
      exact ⟨rfl, HB0.out.trans (HB.out.mono HB0.out.size)⟩
    · have ht : decide (l ≠ []) = true := by simp [h0]
      have hl0 : 0 < l.length := by cases l with | nil => exact absurd rfl h0 | cons => simp
      have htd := take_len blank l
      have C := more_any HR.out.left.1
      rw [ht] at C
      go_wp2_with fail
      refine C.mono ?_
      clear C
      rintro e w2 ⟨rfl, rfl⟩
      go_wp2_with fail
      refine (HR.out.run (by omega)).mono ?_
      rintro e w3 ⟨rfl, h3, hb3⟩
      have H3 := hid h3
      have HB3 := hid (HB.out.trans hb3)
      clear h3 hb3
      go_wp2_with fail
      have C := word_any H3.out.left.1 H3.out.left.2 H3.out.lt (by omega)
      rcases hw : word (l.dropWhile blank) with _ | ⟨x, r⟩
      · rw [hw] at C
        have HS : Hid (wordsP bh l = l.takeWhile blank ++ (l.dropWhile blank).take 1 ++ wordsP false ((l.dropWhile blank).drop 1)) := wordsP_none h0 hw
        have hlt := rest_lt l h0
        rw [List.length_drop] at hlt
        clear hw
        refine C.mono ?_
        clear C
        rintro e w4 ⟨rfl, hb4⟩
        have H4 := hid (H3.out.later hb4)
        have HB4 := hid (HB3.out.trans (hb4.mono HB3.out.size))
        clear hb4
        go_wp2_with fail
        refine (say_any H4.out (l.takeWhile blank) (by omega) (by omega)).mono ?_
        rintro e w5 ⟨rfl, h5, hb5⟩
        have H5 := hid h5
        have HB5 := hid (HB4.out.trans hb5)
        clear h5 hb5
        go_wp2_with fail
        refine (H5.out.first 1 (by omega) (by omega)).mono ?_
        rintro e w6 ⟨rfl, h6, hb6⟩
        have H6 := hid h6
        have HB6 := hid (HB5.out.trans hb6)
        clear h6 hb6
        go_wp2_with fail
        refine (say_any H6.out ((l.dropWhile blank).take 1) (by simp; omega) (by simp; omega)).mono ?_
        rintro e w7 ⟨rfl, h7, hb7⟩
        have H7 := hid h7
        have HB7 := hid (HB6.out.trans hb7)
        clear h7 hb7
        go_wp2_with fail
        go_roundw
        case rel =>
          refine ⟨false, _, _, rfl, H7.out, HB7.out, ?_, ?_⟩
          · rw [← HD.out, HS.out]; simp only [List.append_assoc]
          · simp only [List.length_append, List.length_take, List.length_drop]; omega
        case measure =>
          rw [H7.out.leftN, HR.out.leftN, List.length_drop]
          omega
      · rw [hw] at C
        have HS : Hid (wordsP bh l = (if bh then [] else l.takeWhile blank) ++ x ++ wordsP true r) := wordsP_some h0 hw
        have hlt := word_len hw
        have hsd := word_said hw
        clear hw
        refine C.mono ?_
        clear C
        rintro e w4 ⟨rfl, wx, hbx, rfl⟩
        have H4 := hid ((H3.out.later hbx).set r)
        have HB4 := hid ((HB3.out.trans (hbx.mono HB3.out.size)).setCell (p := ⟨b, 0, none⟩) H3.out.base (.string (str r)))
        clear hbx
        generalize wx.setCell ⟨b, 0, none⟩ (.string (str r)) = w4 at H4 HB4
        cases bh
        · go_wp2_with fail
          refine (say_any H4.out (l.takeWhile blank) (by omega) (by omega)).mono ?_
          rintro e w5 ⟨rfl, h5, hb5⟩
          have H5 := hid h5
          have HB5 := hid (HB4.out.trans hb5)
          clear h5 hb5
          go_wp2_with fail
          refine (say_any H5.out x (by simp; omega) (by omega)).mono ?_
          rintro e w7 ⟨rfl, h7, hb7⟩
          have H7 := hid h7
          have HB7 := hid (HB5.out.trans hb7)
          clear h7 hb7
          go_wp2_with fail
          go_roundw
          case rel =>
            refine ⟨true, _, _, rfl, H7.out, HB7.out, ?_, ?_⟩
            · rw [← HD.out, HS.out]; simp
            · simp only [List.length_append]; omega
          case measure =>
            rw [H7.out.leftN, HR.out.leftN]
            omega
        · go_wp2_with fail
          refine (say_any H4.out x (by omega) (by omega)).mono ?_
          rintro e w7 ⟨rfl, h7, hb7⟩
          have H7 := hid h7
          have HB7 := hid (HB4.out.trans hb7)
          clear h7 hb7
          go_wp2_with fail
          go_roundw
          case rel =>
            refine ⟨true, _, _, rfl, H7.out, HB7.out, ?_, ?_⟩
            · rw [← HD.out, HS.out]; simp
            · simp only [List.length_append]; omega
          case measure =>
            rw [H7.out.leftN, HR.out.leftN]
            omega
end Go.Proofs.YtaniljfjmbifnaaGreatDoor.W
