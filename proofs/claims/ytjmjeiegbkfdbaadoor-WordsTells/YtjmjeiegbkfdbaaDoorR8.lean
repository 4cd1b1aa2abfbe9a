/- What this text holds: the document's lines with what their encoded words say. -/
import Derived.Test.YtjmjeiegbkfdbaaDoorR7
namespace Go.Proofs.YtjmjeiegbkfdbaaDoor
open Go.RowKit
set_option linter.unusedVariables false
set_option linter.unusedSimpArgs false

theorem joined_cons (a b : Bs) (l : List Bs) : joined (a :: b :: l) = a ++ 32 :: joined (b :: l) := by
  simp [joined, List.intercalate, List.intersperse]
theorem joined_snoc (x : Bs) : ∀ (l : List Bs), l ≠ [] → joined (l ++ [x]) = joined l ++ 32 :: x
  | [], h => absurd rfl h
  | [a], _ => by rw [List.singleton_append, joined2, joined1]
  | a :: b :: l, _ => by
    rw [List.cons_append, List.cons_append, joined_cons, ← List.cons_append, joined_snoc x (b :: l) (by simp), joined_cons]
    simp
theorem joined_le : ∀ (m l : List Bs), (joined l).length ≤ (joined (l ++ m)).length
  | [], l => by simp
  | x :: m, l => by
    have ih := joined_le m (l ++ [x])
    rw [List.append_assoc, List.singleton_append] at ih
    refine Nat.le_trans ?_ ih
    by_cases h : l = []
    · subst h; simp [joined, List.intercalate]
    · rw [joined_snoc x l h, List.length_append]; omega
theorem joined_take (ls : List Bs) (k : Nat) : (joined (ls.take k)).length ≤ (joined ls).length := by
  have := joined_le (ls.drop k) (ls.take k)
  rwa [List.take_append_drop] at this
theorem joined_next (ls : List Bs) (k : Nat) (hk : k < ls.length) : joined (ls.take (k + 1)) = if k = 0 then ls[k] else joined (ls.take k) ++ [32] ++ ls[k] := by
  rw [List.take_succ_eq_append_getElem hk]
  by_cases h : k = 0
  · subst h
    rw [if_pos rfl, List.take_zero, List.nil_append, joined1]
  · rw [if_neg h, joined_snoc _ _ (by intro e; have := congrArg List.length e; rw [List.length_take, Nat.min_eq_left (by omega)] at this; exact h this)]
    simp
/-- What is behind an encoded word is an end of the text. -/
theorem cut_end {p l r : Bs} (h : cut p l = some r) : l.drop p.length = r := (cut_yes h).2
theorem suffix_drop {l r : Bs} (h : r <:+ l) : r = l.drop (l.length - r.length) := by
  obtain ⟨t, rfl⟩ := h
  rw [List.length_append, show t.length + r.length - r.length = t.length by omega, List.drop_left]
theorem cut_suffix {p l r : Bs} (h : cut p l = some r) : r <:+ l := by
  rw [← cut_end h]
  exact List.drop_suffix _ _
theorem word_suffix {l x r : Bs} (h : word l = some (x, r)) : r <:+ l := by
  unfold word at h
  simp only [Option.bind_eq_some_iff, Option.map_eq_some_iff] at h
  obtain ⟨l1, h1, l2, h2, l3, h3, l4, h4, y, hy, e⟩ := h
  cases e
  exact (cut_suffix h4).trans ((List.dropWhile_suffix _).trans ((cut_suffix h3).trans ((List.drop_suffix _ _).trans ((cut_suffix h2).trans ((List.dropWhile_suffix _).trans (cut_suffix h1))))))
theorem word_behind {s x r : Bs} {k : Nat} (h : word (s.drop k) = some (x, r)) : s.drop (s.length - r.length) = r ∧ k + 6 ≤ s.length - r.length ∧ s.length - r.length ≤ s.length := by
  have h1 := word_suffix h
  have h2 := word_len h
  rw [List.length_drop] at h2
  exact ⟨(suffix_drop (h1.trans (List.drop_suffix k s))).symm, by omega, by omega⟩
theorem dw_step (s : Bs) (j : Nat) (hj : j < s.length) (h : blank s[j] = true) : (s.drop (j + 1)).dropWhile blank = (s.drop j).dropWhile blank := by
  rw [List.drop_eq_getElem_cons hj, List.dropWhile_cons_of_pos h]
theorem dw_here (s : Bs) (j : Nat) (hj : j < s.length) (h : blank s[j] = false) : (s.drop j).dropWhile blank = s.drop j := by
  rw [List.drop_eq_getElem_cons hj, List.dropWhile_cons_of_neg (by rw [h]; simp)]
theorem dw_end (s : Bs) (j : Nat) (hj : s.length ≤ j) : (s.drop j).dropWhile blank = s.drop j := by
  rw [List.drop_eq_nil_of_le hj]; rfl
theorem skip_yes {r q : Bs} (h : r.dropWhile blank = q) {y : Bs × Bs} (hw : word q = some y) : skip r = q := by
  unfold skip; rw [h, hw]; rfl
theorem skip_no {r q : Bs} (h : r.dropWhile blank = q) (hw : word q = none) : skip r = r := by
  unfold skip; rw [h, hw]; rfl
theorem rwordV_none (s : Bs) : rwordV s none = .tuple #[.string ⟨#[]⟩, .int .i64 (-1)] := rfl
theorem rwordV_some (s x r : Bs) : rwordV s (some (x, r)) = .tuple #[.string (str x), .int .i64 ((s.length - r.length : Nat) : Int)] := rfl

/-- The second half: the words of a text. -/
structure Wd (s : Bs) (w0 w : World) (k : Nat) (d : Bs) : Prop where
  k_le : k ≤ s.length
  below : Below w0.heap.size w0 w
  said : d ++ wordsR (s.drop k) = wordsR s
  len : d.length ≤ 4 * k

set_option maxRecDepth 100000 in
set_option maxHeartbeats 8000000 in
theorem rwords_any (ls : List Bs) (v : Value) (w : World) (h : SL w v ls) (hn : ls.length ≤ 100000) (hs : (joined ls).length ≤ 20000) : Calls Tryd.prog 22 #[v] w fun e w' => e = .returned (.string (str (wordsR (joined ls)))) ∧ Below w.heap.size w w' := by
  obtain ⟨ad, cp, rfl, hcp, hat⟩ := h
  have HAt := hid hat
  clear hat
  go_enter Tryd.func22, Tryd.ntmps22
  go_wp2_with fail
  go_loop [3, 4] (fun v i => ∃ k : Nat, k ≤ ls.length ∧ i = .int .i64 k ∧ v = .string (str (joined (ls.take k)))) (fun _ i => ls.length - (intOf i).toNat)
  case atStart => exact ⟨0, by omega, rfl, rfl⟩
  case round =>
    obtain ⟨k, hk, rfl, rfl⟩ := hrel
    by_cases hlt : k < ls.length
    · have hlt' : (k : Int) < ls.length := by omega
      have HN := hid (joined_next ls k hlt)
      have hj1 := joined_take ls k
      have hj2 := joined_take ls (k + 1)
      have hz1 := str_size (joined (ls.take k))
      have hz2 := str_size ls[k]
      obtain ⟨g, o, rfl, hsa⟩ : ∃ g o, ad = some ⟨g, o, none⟩ ∧ SAt w g o ls := by
        rcases HAt.out with e | h
        · rw [e] at hlt; simp at hlt
        · exact h
      have hcell := hsa k ls[k] (List.getElem?_eq_getElem hlt)
      clear hsa
      have hj1' : ((joined (ls.take k)).length : Int) ≤ 20000 := by omega
      by_cases h0 : k = 0
      · subst h0
        rw [if_pos rfl] at HN
        have hl : ls[0].length ≤ 20000 := by
          have := congrArg List.length HN.out
          omega
        have hcell0 : w.cell? ⟨g, o, none⟩ = some (.string (str ls[0])) := hcell
        have hz0 : (str (joined [])).size = 0 := rfl
        have HV : Hid (str (joined []) ++ str ls[0] = str (joined (ls.take 1))) := by
          rw [Hid, app_str, HN.out]
          rfl
        clear hj2 hcell
        go_wp2_with fail
        go_round
        case rel => exact ⟨1, by omega, rfl, congrArg Value.string HV.out⟩
        case measure => simp [intOf]; omega
      · have hl : ls[k].length ≤ 20000 := by
          have := congrArg List.length HN.out
          rw [if_neg h0, List.length_append] at this
          omega
        have h0' : (0 : Int) < k := by omega
        have HV : Hid (str (joined (ls.take k)) ++ ⟨#[32]⟩ ++ str ls[k] = str (joined (ls.take (k + 1)))) := by
          rw [Hid, show (⟨#[32]⟩ : ByteArray) = str [32] from rfl, app_str, app_str, HN.out, if_neg h0]
        clear hj2
        go_wp2_with fail
        go_round
        case rel => exact ⟨k + 1, by omega, by go_num, congrArg Value.string HV.out⟩
        case measure => simp [intOf]; omega
    · have hlt' : ¬ (k : Int) < ls.length := by omega
      have hkl : ls.take k = ls := List.take_of_length_le (by omega)
      rw [hkl]
      clear hkl HAt
      obtain ⟨s, hsj⟩ : ∃ s, s = joined ls := ⟨_, rfl⟩
      rw [← hsj] at hs ⊢
      have HSJ := hid hsj
      clear hsj
      have hsz := str_size s
      go_wp2_with fail
      go_loopw [5, 6] (fun v i wr => ∃ (k : Nat) (d : Bs), i = .int .i64 k ∧ v = .string (str d) ∧ Wd s w wr k d) (fun _ i _ => s.length - (intOf i).toNat)
      case atStart => exact ⟨0, [], rfl, rfl, ⟨by omega, Below.refl _ _, rfl, by simp⟩⟩
      case round =>
        obtain ⟨m, d, rfl, rfl, hwd⟩ := hrel
        have HW := hid hwd
        have hm := hwd.k_le
        have hdl := hwd.len
        have hds := str_size d
        clear hwd
        by_cases hmlt : m < s.length
        · have hmlt' : (m : Int) < s.length := by omega
          have hdl' : (d.length : Int) ≤ 80000 := by omega
          have hne : s.drop m ≠ [] := by rw [drop1 s m hmlt]; exact List.cons_ne_nil _ _
          go_wp2_with fail
          have C := rword_any s m wr (by omega) (by omega)
          rcases hw : word (s.drop m) with _ | ⟨x, r⟩
          · rw [hw, rwordV_none] at C
            have HS := hid (wordsR_none hne hw)
            clear hw
            have hcut := cut1 s m hmlt
            have hone := take_one s m hmlt
            have hos := str_size ((s.drop m).take 1)
            have HAp := hid (app_str d ((s.drop m).take 1))
            refine C.mono ?_
            clear C
            rintro e w2 ⟨rfl, hb⟩
            have HB := hid (HW.out.below.trans (hb.mono HW.out.below.size))
            clear hb
            have HNx : Hid (Wd s w w2 (m + 1) (d ++ (s.drop m).take 1)) := by
              refine ⟨by omega, HB.out, ?_, by rw [List.length_append, hone]; omega⟩
              rw [← HW.out.said, HS.out, List.drop_drop, List.append_assoc]
            go_wp2_with fail
            rw [HAp.out]
            go_roundw
            case rel => exact ⟨m + 1, _, by go_num, rfl, HNx.out⟩
            case measure => simp [intOf]; omega
          · rw [hw, rwordV_some] at C
            have HS := hid (wordsR_some hne hw)
            have hsaid := word_said hw
            obtain ⟨hbe, hb6, hbl⟩ := word_behind hw
            rw [List.length_drop] at hsaid
            have hrl := (word_suffix hw).length_le
            rw [List.length_drop] at hrl
            clear hw
            obtain ⟨q, hq⟩ : ∃ q, q = s.length - r.length := ⟨_, rfl⟩
            rw [← hq] at C hbe hb6 hbl
            have hx4 : x.length + 4 * m ≤ 4 * q := by omega
            have HQ := hid hq
            have HR := hid hbe
            have hxs := str_size x
            have hxl : (x.length : Int) ≤ 80000 := by omega
            have HAp := hid (app_str d x)
            have hqn : ¬ (q : Int) < 0 := by omega
            clear hq hbe hsaid hrl
            refine C.mono ?_
            clear C
            rintro e w2 ⟨rfl, hb⟩
            have HB := hid (HW.out.below.trans (hb.mono HW.out.below.size))
            clear hb
            have HSaid : Hid ((d ++ x) ++ wordsR (skip r) = wordsR s) := by
              rw [Hid, ← HW.out.said, HS.out, List.append_assoc]
            go_wp2_with fail
            rw [HAp.out]
            go_loop [9] (fun i => ∃ j : Nat, q ≤ j ∧ j ≤ s.length ∧ i = .int .i64 j ∧ (s.drop j).dropWhile blank = r.dropWhile blank) (fun i => s.length - (intOf i).toNat)
            case atStart => exact ⟨q, by omega, by omega, rfl, by rw [HR.out]⟩
            case round =>
              obtain ⟨j, hqj, hj, rfl, hdw⟩ := hrel
              have HDw := hid hdw
              clear hdw
              by_cases hjl : j < s.length
              · have hjl' : (j : Int) < s.length := by omega
                have g : ((str s)[j]'(by omega)) = s[j] := rfl
                have C := rblank_any s[j] w2
                rcases Bool.eq_false_or_eq_true (blank s[j]) with hbk | hbk
                · rw [hbk] at C
                  have HT := hid (dw_step s j hjl hbk)
                  clear hbk
                  go_wp2_with fail
                  refine C.mono ?_
                  clear C
                  rintro e w3 ⟨rfl, rfl⟩
                  go_wp2_with fail
                  go_round
                  case rel => exact ⟨j + 1, by omega, by omega, by go_num, by rw [HT.out, HDw.out]⟩
                  case measure => simp [intOf]; omega
                · rw [hbk] at C
                  have HE : Hid (r.dropWhile blank = s.drop j) := by rw [Hid, ← HDw.out]; exact dw_here s j hjl hbk
                  clear hbk
                  go_wp2_with fail
                  refine C.mono ?_
                  clear C
                  rintro e w3 ⟨rfl, rfl⟩
                  go_wp2_with fail
                  have C := rword_any s j w3 (by omega) (by omega)
                  rcases hw : word (s.drop j) with _ | ⟨y, r2⟩
                  · rw [hw, rwordV_none] at C
                    have HSk : Hid (skip r = r) := skip_no HE.out hw
                    clear hw
                    refine C.mono ?_
                    clear C
                    rintro e w4 ⟨rfl, hb⟩
                    have HB4 := hid (HB.out.trans (hb.mono HB.out.size))
                    clear hb
                    have HNx : Hid (Wd s w w4 q (d ++ x)) := by
                      refine ⟨hbl, HB4.out, ?_, by rw [List.length_append]; omega⟩
                      rw [HR.out, ← HSaid.out, HSk.out]
                    go_wp2_with fail
                    go_roundw
                    case rel => exact ⟨q, _, rfl, rfl, HNx.out⟩
                    case measure => simp [intOf]; omega
                  · rw [hw, rwordV_some] at C
                    have HSk : Hid (skip r = s.drop j) := skip_yes HE.out hw
                    have hn2 : ¬ ((s.length - r2.length : Nat) : Int) < 0 := by omega
                    have hn3 : (0 : Int) ≤ ((s.length - r2.length : Nat) : Int) := by omega
                    clear hw
                    generalize s.length - r2.length = en at *
                    refine C.mono ?_
                    clear C
                    rintro e w4 ⟨rfl, hb⟩
                    have HB4 := hid (HB.out.trans (hb.mono HB.out.size))
                    clear hb
                    have HNx : Hid (Wd s w w4 j (d ++ x)) := by
                      refine ⟨hj, HB4.out, ?_, by rw [List.length_append]; omega⟩
                      rw [← HSaid.out, HSk.out]
                    go_wp2_with fail
                    go_roundw
                    case rel => exact ⟨j, _, rfl, rfl, HNx.out⟩
                    case measure => simp [intOf]; omega
              · have hjl' : ¬ (j : Int) < s.length := by omega
                have HE : Hid (r.dropWhile blank = s.drop j) := by rw [Hid, ← HDw.out]; exact dw_end s j (by omega)
                go_wp2_with fail
                have C := rword_any s j w2 (by omega) (by omega)
                rcases hw : word (s.drop j) with _ | ⟨y, r2⟩
                · rw [hw, rwordV_none] at C
                  have HSk : Hid (skip r = r) := skip_no HE.out hw
                  clear hw
                  refine C.mono ?_
                  clear C
                  rintro e w4 ⟨rfl, hb⟩
                  have HB4 := hid (HB.out.trans (hb.mono HB.out.size))
                  clear hb
                  have HNx : Hid (Wd s w w4 q (d ++ x)) := by
                    refine ⟨hbl, HB4.out, ?_, by rw [List.length_append]; omega⟩
                    rw [HR.out, ← HSaid.out, HSk.out]
                  go_wp2_with fail
                  go_roundw
                  case rel => exact ⟨q, _, rfl, rfl, HNx.out⟩
                  case measure => simp [intOf]; omega
                · rw [hw, rwordV_some] at C
                  have HSk : Hid (skip r = s.drop j) := skip_yes HE.out hw
                  have hn2 : ¬ ((s.length - r2.length : Nat) : Int) < 0 := by omega
                  have hn3 : (0 : Int) ≤ ((s.length - r2.length : Nat) : Int) := by omega
                  clear hw
                  generalize s.length - r2.length = en at *
                  refine C.mono ?_
                  clear C
                  rintro e w4 ⟨rfl, hb⟩
                  have HB4 := hid (HB.out.trans (hb.mono HB.out.size))
                  clear hb
                  have HNx : Hid (Wd s w w4 j (d ++ x)) := by
                    refine ⟨hj, HB4.out, ?_, by rw [List.length_append]; omega⟩
                    rw [← HSaid.out, HSk.out]
                  go_wp2_with fail
                  go_roundw
                  case rel => exact ⟨j, _, rfl, rfl, HNx.out⟩
                  case measure => simp [intOf]; omega
        · have hmlt' : ¬ (m : Int) < s.length := by omega
          have HA : Hid (d = wordsR s) := by
            have := HW.out.said
            rw [List.drop_eq_nil_of_le (by omega), wordsR_nil, List.append_nil] at this
            exact this
          go_wp2_with fail
          go_ret
          rw [← HSJ.out, ← HA.out]
          exact ⟨rfl, HW.out.below⟩
end Go.Proofs.YtjmjeiegbkfdbaaDoor
