/- What this text holds: lines with what their encoded words say. -/
import Derived.Test.YtaniljfjmbifnaaGreatDoorWM8
namespace Go.Proofs.YtaniljfjmbifnaaGreatDoor.W
open Go.RowKit
set_option linter.unusedVariables false
set_option linter.unusedSimpArgs false

/-- Strings lie in memory. -/
def SAt (w : World) (g o : Nat) (l : List Bs) : Prop := ∀ (j : Nat) x, l[j]? = some x → w.cell? ⟨g, o + j, none⟩ = some (.string (str x))
theorem SAt.later {w w' : World} {g o : Nat} {l : List Bs} (h : SAt w g o l) (hb : Below w.heap.size w w') : SAt w' g o l := by
  intro j x hx
  have := h j x hx
  exact (World.cell?_of_block (hb.block g (World.block_lt_of_cell? w _ this))).trans this
def SL (w : World) (v : Value) (l : List Bs) : Prop := ∃ a c, v = .slice a l.length c ∧ l.length ≤ c ∧ (l = [] ∨ ∃ g o, a = some ⟨g, o, none⟩ ∧ SAt w g o l)
theorem SL.later {w w' : World} {v : Value} {l : List Bs} (h : SL w v l) (hb : Below w.heap.size w w') : SL w' v l := by
  obtain ⟨a, c, rfl, hc, h⟩ := h
  refine ⟨a, c, rfl, hc, ?_⟩
  rcases h with h | ⟨g, o, rfl, h⟩
  · exact .inl h
  · exact .inr ⟨g, o, rfl, h.later hb⟩
theorem join_any (ls : List Bs) (v : Value) (w : World) (h : SL w v ls) (hn : ls.length ≤ 1000000) (hl : (joined ls).length ≤ 1000000) :
    Calls Tryz.prog 68 #[v, .string ⟨#[32]⟩] w fun e w' => e = .returned (.string (str (joined ls))) ∧ Below w.heap.size w w' := by
  obtain ⟨a, c, rfl, hc, h⟩ := h
  rcases h with rfl | ⟨g, o, rfl, h⟩
  · refine (Tryz.strings_Join_none a c ⟨#[32]⟩ w).mono ?_
    rintro e w' ⟨rfl, rfl⟩
    exact ⟨rfl, Below.refl _ _⟩
  · by_cases h0 : ls = []
    · subst h0
      refine (Tryz.strings_Join_none _ c ⟨#[32]⟩ w).mono ?_
      rintro e w' ⟨rfl, rfl⟩
      exact ⟨rfl, Below.refl _ _⟩
    · have hg : g < w.heap.size := by
        cases ls with
        | nil => exact absurd rfl h0
        | cons x l => exact World.block_lt_of_cell? w _ (h 0 x rfl)
      have e : (ls.map str).map (·.data.toList) = ls := by
        rw [List.map_map]
        exact List.map_id ls
      have C := Tryz.strings_Join g o c (ls.map str) ⟨#[32]⟩ w (fun j x hx => by
        rw [List.getElem?_map] at hx
        obtain ⟨y, hy, rfl⟩ := Option.map_eq_some_iff.1 hx
        exact h j y hy) hg (by simp; omega) (by simpa using hc) (by rw [e]; exact Nat.le_trans hl (by omega))
      rw [e, List.length_map] at C
      exact C

set_option maxRecDepth 100000 in
set_option maxHeartbeats 2000000 in
theorem words_any (ls : List Bs) (v : Value) (w : World) (h : SL w v ls) (hn : ls.length ≤ 1000000) (hs : (joined ls).length ≤ 1000000) :
    Calls Tryz.prog 37 #[v] w fun e w' => e = .returned (.string (str (wordsP false (joined ls)))) ∧ Below w.heap.size w w' := by
  have HJ := hid (join_any ls v w h hn hs)
  clear h hn
  generalize joined ls = s at HJ hs
  go_enter Tryz.func37, Tryz.ntmps37
  go_wp2_with fail
  refine HJ.out.mono ?_
  rintro e w0 ⟨rfl, hb0⟩
  have HB0 := hid hb0
  clear hb0
  go_wp2_with fail
  refine (read_any s w0 hs).mono ?_
  rintro e w1 ⟨b, rfl, h1, hb1⟩
  have H1 := hid h1
  have HB1 := hid hb1
  clear h1 hb1
  go_wp2_with fail
  go_loopw [4] (fun i wr => ∃ bh l d, i = .bool bh ∧ RAt wr w0.heap.size b l d ∧ Below w0.heap.size w0 wr ∧ d ++ wordsP bh l = wordsP false s ∧ d.length + 4 * l.length ≤ 4 * s.length) (fun _ wr => leftN b wr)
  case atStart => exact ⟨false, s, [], rfl, H1.out, HB1.out, rfl, by simp⟩
  case round =>
    obtain ⟨bh, l, d, rfl, hr, hb, hd, hl⟩ := hrel
    have HR := hid hr
    have HB := hid hb
    have HD := hid hd
    clear hr hb hd
    by_cases h0 : l = []
    · subst h0
      have hf : decide (([] : Bs) ≠ []) = false := by simp
      have C := more_any HR.out.left.1
      rw [hf] at C
      go_wp2_with fail
      refine C.mono ?_
      clear C
      rintro e w2 ⟨rfl, rfl⟩
      go_wp2_with fail
      refine (text_any HR.out).mono ?_
      rintro e w2 ⟨rfl, rfl⟩
      go_wp2_with fail
      go_ret
      have := HD.out
      rw [wordsP_nil, List.append_nil] at this
      rw [this]
      exact ⟨rfl, HB0.out.trans (HB.out.mono HB0.out.size)⟩
    · have ht : decide (l ≠ []) = true := by simp [h0]
      have hl0 : 0 < l.length := by cases l with | nil => exact absurd rfl h0 | cons => simp
      have htd := take_len blank l
      have C := more_any HR.out.left.1
      rw [ht] at C
      go_wp2_with fail
      refine C.mono ?_
      clear C
      rintro e w2 ⟨rfl, rfl⟩
      go_wp2_with fail
      refine (HR.out.run (by omega)).mono ?_
      rintro e w3 ⟨rfl, h3, hb3⟩
      have H3 := hid h3
      have HB3 := hid (HB.out.trans hb3)
      clear h3 hb3
      go_wp2_with fail
      have C := word_any H3.out.left.1 H3.out.left.2 H3.out.lt (by omega)
      rcases hw : word (l.dropWhile blank) with _ | ⟨x, r⟩
      · rw [hw] at C
        have HS : Hid (wordsP bh l = l.takeWhile blank ++ (l.dropWhile blank).take 1 ++ wordsP false ((l.dropWhile blank).drop 1)) := wordsP_none h0 hw
        have hlt := rest_lt l h0
        rw [List.length_drop] at hlt
        clear hw
        refine C.mono ?_
        clear C
        rintro e w4 ⟨rfl, hb4⟩
        have H4 := hid (H3.out.later hb4)
        have HB4 := hid (HB3.out.trans (hb4.mono HB3.out.size))
        clear hb4
        go_wp2_with fail
        refine (say_any H4.out (l.takeWhile blank) (by omega) (by omega)).mono ?_
        rintro e w5 ⟨rfl, h5, hb5⟩
        have H5 := hid h5
        have HB5 := hid (HB4.out.trans hb5)
        clear h5 hb5
        go_wp2_with fail
        refine (H5.out.first 1 (by omega) (by omega)).mono ?_
        rintro e w6 ⟨rfl, h6, hb6⟩
        have H6 := hid h6
        have HB6 := hid (HB5.out.trans hb6)
        clear h6 hb6
        go_wp2_with fail
        refine (say_any H6.out ((l.dropWhile blank).take 1) (by simp; omega) (by simp; omega)).mono ?_
        rintro e w7 ⟨rfl, h7, hb7⟩
        have H7 := hid h7
        have HB7 := hid (HB6.out.trans hb7)
        clear h7 hb7
        go_wp2_with fail
        go_roundw
        case rel =>
          refine ⟨false, _, _, rfl, H7.out, HB7.out, ?_, ?_⟩
          · rw [← HD.out, HS.out]; simp only [List.append_assoc]
          · simp only [List.length_append, List.length_take, List.length_drop]; omega
        case measure =>
          rw [H7.out.leftN, HR.out.leftN, List.length_drop]
          omega
      · rw [hw] at C
        have HS : Hid (wordsP bh l = (if bh then [] else l.takeWhile blank) ++ x ++ wordsP true r) := wordsP_some h0 hw
        have hlt := word_len hw
        have hsd := word_said hw
        clear hw
        refine C.mono ?_
        clear C
        rintro e w4 ⟨rfl, wx, hbx, rfl⟩
        have H4 := hid ((H3.out.later hbx).set r)
        have HB4 := hid ((HB3.out.trans (hbx.mono HB3.out.size)).setCell (p := ⟨b, 0, none⟩) H3.out.base (.string (str r)))
        clear hbx
        generalize wx.setCell ⟨b, 0, none⟩ (.string (str r)) = w4 at H4 HB4
        cases bh
        · go_wp2_with fail
          refine (say_any H4.out (l.takeWhile blank) (by omega) (by omega)).mono ?_
          rintro e w5 ⟨rfl, h5, hb5⟩
          have H5 := hid h5
          have HB5 := hid (HB4.out.trans hb5)
          clear h5 hb5
          go_wp2_with fail
          refine (say_any H5.out x (by simp; omega) (by omega)).mono ?_
          rintro e w7 ⟨rfl, h7, hb7⟩
          have H7 := hid h7
          have HB7 := hid (HB5.out.trans hb7)
          clear h7 hb7
          go_wp2_with fail
          go_roundw
          case rel =>
            refine ⟨true, _, _, rfl, H7.out, HB7.out, ?_, ?_⟩
            · rw [← HD.out, HS.out]; simp
            · simp only [List.length_append]; omega
          case measure =>
            rw [H7.out.leftN, HR.out.leftN]
            omega
        · go_wp2_with fail
          refine (say_any H4.out x (by omega) (by omega)).mono ?_
          rintro e w7 ⟨rfl, h7, hb7⟩
          have H7 := hid h7
          have HB7 := hid (HB4.out.trans hb7)
          clear h7 hb7
          go_wp2_with fail
          go_roundw
          case rel =>
            refine ⟨true, _, _, rfl, H7.out, HB7.out, ?_, ?_⟩
            · rw [← HD.out, HS.out]; simp
            · simp only [List.length_append]; omega
          case measure =>
            rw [H7.out.leftN, HR.out.leftN]
            omega
end Go.Proofs.YtaniljfjmbifnaaGreatDoor.W
