/- What this text holds: names under each other, moved and joined: the document's answers. -/
import Derived.Test.YtkmggkcipgfhdaaDoorR2
namespace Go.Proofs.YtkmggkcipgfhdaaDoor
open Go.RowKit
set_option linter.unusedVariables false
set_option linter.unusedSimpArgs false

theorem under_iff (name above : List UInt8) : underB name above = (decide (above.length < name.length) && (decide (name.take above.length = above) && (name.getD above.length 0 == 47))) := by
  rw [Bool.eq_iff_iff]
  simp only [Bool.and_eq_true, decide_eq_true_eq, beq_iff_eq]
  constructor
  · intro h
    have hl := under_len h
    unfold underB Go.Lib.hasPrefix at h
    obtain ⟨r, hr⟩ := List.isPrefixOf_iff_prefix.1 h
    refine ⟨by omega, ?_, ?_⟩
    · rw [← hr, List.append_assoc, List.take_left']
      rfl
    · rw [← hr, List.getD_eq_getElem?_getD, List.append_assoc, List.getElem?_append_right (Nat.le_refl _), Nat.sub_self]
      rfl
  · rintro ⟨h1, h2, h3⟩
    unfold underB Go.Lib.hasPrefix
    rw [List.isPrefixOf_iff_prefix]
    have := take_next name above.length h1
    rw [h2, h3] at this
    rw [← this]
    exact List.take_prefix _ _

set_option maxRecDepth 100000 in
set_option maxHeartbeats 1000000 in
theorem runder_any (name above : ByteArray) (w : World) (h1 : name.size ≤ 100000) (h2 : above.size ≤ 100000) : Calls Tryd.prog 30 #[.string name, .string above] w fun e w' => e = .returned (.bool (underB name.data.toList above.data.toList)) ∧ w' = w := by
  have HU := hid (under_iff name.data.toList above.data.toList)
  rw [← Go.Lib.size_eq, ← Go.Lib.size_eq] at HU
  by_cases hl : above.size < name.size
  · have hl' : (above.size : Int) < name.size := by omega
    have hle : (above.size : Int) ≤ name.size := by omega
    have HG : Hid (name.data.toList.getD above.size 0 = name[above.size]) := by
      unfold Hid
      rw [List.getD_eq_getElem?_getD, List.getElem?_eq_getElem (by rw [← Go.Lib.size_eq]; exact hl)]
      rfl
    have HQ : Hid (((name.extract 0 above.size).toList == above.toList) = decide (name.data.toList.take above.size = above.data.toList)) := by
      rw [Hid, take_str _ _ (by omega), Go.Lib.toList_data, Go.Lib.toList_data, str_data, Bool.eq_iff_iff]
      simp
    have HC : Hid (((name[above.size].toNat : Int) == 47) = (name[above.size] == 47)) := by
      rw [Hid, Bool.eq_iff_iff, beq_iff_eq, beq_iff_eq]
      constructor
      · intro e; exact UInt8.toNat_inj.1 (by show name[above.size].toNat = 47; omega)
      · intro e; rw [e]; rfl
    rcases Bool.eq_false_or_eq_true ((name.extract 0 above.size).toList == above.toList) with hq | hq
    · have HR : Hid (underB name.data.toList above.data.toList = ((name[above.size].toNat : Int) == 47)) := by
        rw [Hid, HU.out, decide_eq_true hl, ← HQ.out, hq, HG.out, HC.out]; rfl
      go_enter Tryd.func30, Tryd.ntmps30
      go_wp2_with fail
      go_ret
      rw [HR.out]
      exact ⟨rfl, rfl⟩
    · have HR : Hid (underB name.data.toList above.data.toList = false) := by
        rw [Hid, HU.out, ← HQ.out, hq]; simp
      go_enter Tryd.func30, Tryd.ntmps30
      go_wp2_with fail
      go_ret
      rw [HR.out]
      exact ⟨rfl, rfl⟩
  · have hl' : ¬ (above.size : Int) < name.size := by omega
    have HR : Hid (underB name.data.toList above.data.toList = false) := by
      rw [Hid, HU.out, decide_eq_false hl]; rfl
    go_enter Tryd.func30, Tryd.ntmps30
    go_wp2_with fail
    go_ret
    rw [HR.out]
    exact ⟨rfl, rfl⟩

set_option maxRecDepth 100000 in
set_option maxHeartbeats 400000 in
theorem rmoved_any (name from_ dst : ByteArray) (w : World) (h1 : name.size ≤ 100000) (h2 : from_.size ≤ 100000) (h3 : dst.size ≤ 100000) :
    Calls Tryd.prog 17 #[.string name, .string from_, .string dst] w fun e w' => e = .returned (.tuple #[.string (str (movedP name.data.toList from_.data.toList dst.data.toList).1), .bool (movedP name.data.toList from_.data.toList dst.data.toList).2]) ∧ w' = w := by
  by_cases he : name = from_
  · subst he
    have HP : Hid (movedP name.data.toList name.data.toList dst.data.toList = (dst.data.toList, true)) := by
      unfold Hid movedP
      rw [if_pos (.inl rfl)]
      simp
    go_enter Tryd.func17, Tryd.ntmps17
    go_wp2_with fail
    go_ret2
    rw [HP.out, str_of]
    exact ⟨rfl, rfl⟩
  · have hq : (name.toList == from_.toList) = false := by
      rw [beq_eq_false_iff_ne, Go.Lib.toList_data, Go.Lib.toList_data]
      exact fun e => he (eq_str e)
    have hl : ¬ name.data.toList = from_.data.toList := fun e => he (eq_str e)
    rcases Bool.eq_false_or_eq_true (underB name.data.toList from_.data.toList) with hu | hu
    · have hlen := under_len hu
      rw [← Go.Lib.size_eq, ← Go.Lib.size_eq] at hlen
      have HP : Hid (movedP name.data.toList from_.data.toList dst.data.toList = ((dst ++ name.extract from_.size name.size).data.toList, true)) := by
        unfold Hid movedP
        rw [if_pos (.inr hu), app_str, str_data, drop_str, str_data, Go.Lib.size_eq from_]
      have HU := hid hu
      have hle : (from_.size : Int) ≤ name.size := by omega
      clear hu he hl
      go_enter Tryd.func17, Tryd.ntmps17
      go_wp2_with fail
      have C := runder_any name from_ w h1 h2
      rw [HU.out] at C
      refine C.mono ?_
      clear C
      rintro e w ⟨rfl, rfl⟩
      go_wp2_with fail
      go_ret2
      rw [HP.out, str_of]
      exact ⟨rfl, rfl⟩
    · have HP : Hid (movedP name.data.toList from_.data.toList dst.data.toList = (name.data.toList, false)) := by
        unfold Hid movedP
        rw [if_neg]
        rintro (h | h)
        · exact hl h
        · rw [hu] at h; cases h
      have HU := hid hu
      clear hu he hl
      go_enter Tryd.func17, Tryd.ntmps17
      go_wp2_with fail
      have C := runder_any name from_ w h1 h2
      rw [HU.out] at C
      refine C.mono ?_
      clear C
      rintro e w ⟨rfl, rfl⟩
      go_wp2_with fail
      go_ret2
      rw [HP.out, str_of]
      exact ⟨rfl, rfl⟩

theorem joinP_snoc (l : List (List UInt8)) (x : List UInt8) : joinP (l ++ [x]) = (if l = [] then [] else joinP l ++ [47]) ++ x := by
  induction l with
  | nil => rfl
  | cons a l ih =>
    rw [if_neg (by simp)]
    by_cases hl : l = []
    · subst hl; simp [joinP]
    · rw [List.cons_append, joinP_cons (by simp), ih, if_neg hl, joinP_cons hl]
      simp
theorem joinP_mono (l m : List (List UInt8)) : (joinP l).length ≤ (joinP (l ++ m)).length := by
  induction l with
  | nil => simp [joinP]
  | cons a l ih =>
    by_cases hl : l = []
    · subst hl
      cases m with
      | nil => simp
      | cons b m => rw [List.cons_append, List.nil_append, joinP_cons (l := b :: m) (by simp)]; simp [joinP]
    · rw [List.cons_append, joinP_cons hl, joinP_cons (by simp [hl])]
      simp only [List.length_append, List.length_cons]
      omega
theorem app_size2 (s t : ByteArray) : (s ++ t).size = s.size + t.size := by rw [app_str, str_size, List.length_append, ← Go.Lib.size_eq, ← Go.Lib.size_eq]

set_option maxRecDepth 100000 in
set_option maxHeartbeats 1000000 in
theorem rjoin_any {w : World} {v : Value} {l : List (List UInt8)} (h : SL w v l) (hl : (joinP l).length ≤ 1000000) (hn : l.length ≤ 100000) :
    Calls Tryd.prog 26 #[v] w fun e w' => e = .returned (.string (str (joinP l))) ∧ w' = w := by
  obtain ⟨a, c, rfl, _, _⟩ := id h
  have H := hid h
  have HL := hid hl
  clear h hl
  generalize hm : l.length = n at *
  have HM := hid hm
  clear hm
  go_enter Tryd.func26, Tryd.ntmps26
  go_wp2_with fail
  go_loop [3, 4] (fun s i => ∃ k : Nat, k ≤ n ∧ i = .int .i64 k ∧ s = .string (str (joinP (l.take k)))) (fun _ i => n - (intOf i).toNat)
  case atStart => exact ⟨0, by omega, rfl, rfl⟩
  case round =>
    obtain ⟨k, hk, rfl, rfl⟩ := hrel
    by_cases hlt : k < n
    · have hlt' : (k : Int) < n := by omega
      have hkl : k < l.length := by rw [HM.out]; exact hlt
      obtain ⟨g, o, rfl, hc⟩ := H.out.at k hkl
      have HT : Hid (l.take (k + 1) = l.take k ++ [l[k]]) := List.take_succ_eq_append_getElem hkl
      have hb1 : (joinP (l.take (k + 1))).length ≤ 1000000 := by
        have := joinP_mono (l.take (k + 1)) (l.drop (k + 1))
        rw [List.take_append_drop] at this
        have := HL.out
        omega
      have HJ := hid (joinP_snoc (l.take k) l[k])
      rw [← HT.out] at HJ
      generalize l[k]'hkl = x at hc HT HJ
      by_cases hk0 : k = 0
      · subst hk0
        have hk0' : ¬ (0 : Int) < ((0 : Nat) : Int) := by omega
        have HF : Hid (str (joinP []) ++ str x = str (joinP (l.take (0 + 1)))) := by
          rw [Hid, HJ.out, app_str, str_data, str_data]
          simp [joinP]
        rw [Nat.add_zero] at hc
        have hx : (str x).size ≤ 1000000 := by
          rw [HJ.out] at hb1
          rw [str_size]
          rw [List.length_append] at hb1
          omega
        have h0 : (str (joinP [])).size ≤ 10 := by rw [str_size]; simp [joinP]
        rw [List.take_zero]
        go_wp2_with fail
        go_round
        case rel => exact ⟨0 + 1, by omega, by go_num, by rw [← HF.out]⟩
        case measure => simp [intOf]; omega
      · have hk0' : (0 : Int) < (k : Int) := by omega
        have hne : l.take k ≠ [] := by intro e; have := congrArg List.length e; rw [List.length_take, HM.out, List.length_nil] at this; omega
        have HF : Hid (str (joinP (l.take k)) ++ (⟨#[47]⟩ : ByteArray) ++ str x = str (joinP (l.take (k + 1)))) := by
          rw [Hid, HJ.out, if_neg hne, app_str, app_str, str_data, str_data, str_data]
        have hsz : (str (joinP (l.take k))).size + 1 + (str x).size ≤ 1000000 := by
          rw [HJ.out, if_neg hne] at hb1
          rw [str_size, str_size]
          simp only [List.length_append, List.length_cons, List.length_nil] at hb1
          omega
        have hsz2 : (str (joinP (l.take k)) ++ (⟨#[47]⟩ : ByteArray)).size ≤ 1000000 := by
          rw [app_size2]
          show _ + 1 ≤ _
          omega
        have hsz3 : (str (joinP (l.take k))).size ≤ 1000000 := by omega
        have hsz4 : (str x).size ≤ 1000000 := by omega
        clear hne hsz
        go_wp2_with fail
        go_round
        case rel => exact ⟨k + 1, by omega, by go_num, by rw [← HF.out]⟩
        case measure => simp [intOf]; omega
    · have HF : Hid (l.take k = l) := by rw [Hid, List.take_of_length_le (by rw [HM.out]; omega)]
      rw [HF.out]
      go_wp2_with fail
      go_ret
      exact ⟨rfl, rfl⟩
end Go.Proofs.YtkmggkcipgfhdaaDoor
