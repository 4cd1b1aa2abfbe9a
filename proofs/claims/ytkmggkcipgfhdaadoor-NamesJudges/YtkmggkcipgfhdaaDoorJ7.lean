/- What this text holds: which names may be: the document's answer. -/
import Derived.Test.YtkmggkcipgfhdaaDoorJ6
import Derived.Test.YtkmggkcipgfhdaaDoorQ3
namespace Go.Proofs.YtkmggkcipgfhdaaDoor
open Go.RowKit
set_option linter.unusedVariables false
set_option linter.unusedSimpArgs false

def mayB (b : UInt8) : Bool := decide (32 ≤ b.toNat) && decide (b.toNat ≠ 127) && decide (b.toNat ≠ 42) && decide (b.toNat ≠ 37)
theorem may_big (x : Int) (h : 128 ≤ x) (h2 : x ≤ 255) : mayB x.toNat.toUInt8 = true := by
  have e : (x.toNat.toUInt8).toNat = x.toNat := by
    rw [Nat.toUInt8, UInt8.toNat_ofNat']
    exact Nat.mod_eq_of_lt (by omega)
  unfold mayB
  rw [e]
  simp only [Bool.and_eq_true, decide_eq_true_eq]
  omega
theorem rune_may (r : Nat) (h : scalar r) : (Go.Lib.encodeRune (r : Int)).all mayB = mayR r := by
  unfold scalar at h
  by_cases h1 : r ≤ 127
  · unfold Go.Lib.encodeRune
    rw [Go.Lib.encodeRuneZ_one (by omega) (by omega)]
    have e : (((r : Int).toNat).toUInt8).toNat = r := by
      rw [Nat.toUInt8, UInt8.toNat_ofNat']
      simp
      omega
    simp only [List.map_cons, List.map_nil, List.all_cons, List.all_nil, Bool.and_true]
    unfold mayB mayR
    rw [e]
  · have hm : mayR r = true := by
      unfold mayR
      simp only [Bool.and_eq_true, decide_eq_true_eq]
      omega
    rw [hm, List.all_eq_true]
    unfold Go.Lib.encodeRune
    intro b hb
    obtain ⟨x, hx, rfl⟩ := List.mem_map.1 hb
    apply may_big
    · by_cases h2 : r ≤ 2047
      · rw [Go.Lib.encodeRuneZ_two (by omega) (by omega)] at hx
        simp at hx; omega
      · by_cases h3 : r ≤ 65535
        · rw [Go.Lib.encodeRuneZ_three (by omega)] at hx
          simp at hx; omega
        · rw [Go.Lib.encodeRuneZ_four (by omega) (by omega)] at hx
          simp at hx; omega
    · by_cases h2 : r ≤ 2047
      · rw [Go.Lib.encodeRuneZ_two (by omega) (by omega)] at hx
        simp at hx; omega
      · by_cases h3 : r ≤ 65535
        · rw [Go.Lib.encodeRuneZ_three (by omega)] at hx
          simp at hx; omega
        · rw [Go.Lib.encodeRuneZ_four (by omega) (by omega)] at hx
          simp at hx; omega
theorem text_may (rs : List Nat) (h : ∀ r ∈ rs, scalar r) : (text rs).all mayB = rs.all mayR := by
  induction rs with
  | nil => rfl
  | cons r rs ih =>
    have : text (r :: rs) = Go.Lib.encodeRune (r : Int) ++ text rs := by simp [text]
    rw [this, List.all_append, List.all_cons, rune_may r (h r (by simp)), ih (fun x hx => h x (by simp [hx]))]
theorem may_valid (l : List UInt8) (h : Go.Lib.validD l = true) : (runes l).all mayR = l.all mayB := by
  obtain ⟨h1, h2⟩ := text_runes l.length l (Nat.le_refl _) h
  rw [← text_may _ h2, h1]
theorem right_two (l : List UInt8) (hl : l.length ≤ 40) (h : Go.Lib.validD l = true) : rightP l = (l.all mayB && rpB (parts l)) := by
  unfold rightP
  rw [h, may_valid l h, decide_eq_true hl]
  by_cases h0 : l = []
  · subst h0; rfl
  · have : 1 ≤ l.length := by
      have := List.length_pos_iff.2 h0
      omega
    rw [decide_eq_true this]
    rfl

set_option maxRecDepth 100000 in
set_option maxHeartbeats 2000000 in
theorem rright_any (s : ByteArray) {w : World} (h : Env w) (hs : s.size ≤ 90000) : Calls Tryd.prog 20 #[.string s] w fun e w' => e = .returned (.bool (rightP s.data.toList)) ∧ Below w.heap.size w w' := by
  have HE := hid h
  clear h
  by_cases h40 : (40 : Int) < s.size
  · have HR : Hid (rightP s.data.toList = false) := by
      unfold Hid rightP
      rw [← Go.Lib.size_eq, decide_eq_false (by omega : ¬ s.size ≤ 40)]
      simp
    go_enter Tryd.func20, Tryd.ntmps20
    go_wp2_with fail
    go_ret
    rw [HR.out]
    exact ⟨rfl, Below.refl _ _⟩
  go_enter Tryd.func20, Tryd.ntmps20
  go_wp2_with fail
  refine (valid_any s HE.out (by omega)).mono ?_
  rintro e w1 ⟨rfl, hb1⟩
  have HB1 := hid hb1
  clear hb1
  rcases Bool.eq_false_or_eq_true (Go.Lib.validD s.data.toList) with hv | hv
  rotate_left
  · have HR : Hid (rightP s.data.toList = false) := by
      unfold Hid rightP
      rw [hv]; simp
    rw [hv]
    clear hv
    go_wp2_with fail
    go_ret
    rw [HR.out]
    exact ⟨rfl, HB1.out⟩
  have HR0 := hid (right_two s.data.toList (by rw [← Go.Lib.size_eq]; omega) hv)
  have HL := hid (Go.Lib.size_eq s)
  rw [hv]
  clear hv
  go_wp2_with fail
  go_loop [3] (fun i => ∃ k : Nat, k ≤ s.size ∧ i = .int .i64 k ∧ (s.data.toList.take k).all mayB = true) (fun i => s.size - (intOf i).toNat)
  case atStart => exact ⟨0, by omega, rfl, rfl⟩
  case round =>
    obtain ⟨k, hk, rfl, ha⟩ := hrel
    have HA := hid ha
    clear ha
    by_cases hlt : k < s.size
    · have hlt' : (k : Int) < s.size := by omega
      have HT : Hid (s.data.toList.take (k + 1) = s.data.toList.take k ++ [s[k]]) := by
        rw [Hid, List.take_succ_eq_append_getElem (by rw [← Go.Lib.size_eq]; exact hlt)]
        rfl
      have HW : Hid (mayB s[k] = false → rightP s.data.toList = false) := by
        intro hm
        rw [HR0.out]
        have : s.data.toList.all mayB = false := by
          rw [← List.take_append_drop (k + 1) s.data.toList, List.all_append, HT.out, List.all_append]
          simp [hm]
        rw [this]; rfl
      have hmd : mayB s[k] = (decide (32 ≤ s[k].toNat) && decide (s[k].toNat ≠ 127) && decide (s[k].toNat ≠ 42) && decide (s[k].toNat ≠ 37)) := rfl
      by_cases q1 : ((s[k].toNat : Int) < 32)
      · have HR : Hid (rightP s.data.toList = false) := HW.out (by rw [hmd, decide_eq_false (by omega : ¬ 32 ≤ s[k].toNat)]; rfl)
        clear hmd
        go_wp2_with fail
        go_ret
        rw [HR.out]
        exact ⟨rfl, HB1.out⟩
      rcases Bool.eq_false_or_eq_true ((s[k].toNat : Int) == 127) with q2 | q2
      · have HR : Hid (rightP s.data.toList = false) := HW.out (by rw [beq_iff_eq] at q2; rw [hmd, decide_eq_false (by omega : ¬ s[k].toNat ≠ 127)]; simp)
        clear hmd
        go_wp2_with fail
        go_ret
        rw [HR.out]
        exact ⟨rfl, HB1.out⟩
      rcases Bool.eq_false_or_eq_true ((s[k].toNat : Int) == 42) with q3 | q3
      · have HR : Hid (rightP s.data.toList = false) := HW.out (by rw [beq_iff_eq] at q3; rw [hmd, decide_eq_false (by omega : ¬ s[k].toNat ≠ 42)]; simp)
        clear hmd
        go_wp2_with fail
        go_ret
        rw [HR.out]
        exact ⟨rfl, HB1.out⟩
      rcases Bool.eq_false_or_eq_true ((s[k].toNat : Int) == 37) with q4 | q4
      · have HR : Hid (rightP s.data.toList = false) := HW.out (by rw [beq_iff_eq] at q4; rw [hmd, decide_eq_false (by omega : ¬ s[k].toNat ≠ 37)]; simp)
        clear hmd
        go_wp2_with fail
        go_ret
        rw [HR.out]
        exact ⟨rfl, HB1.out⟩
      have HM : Hid (mayB s[k] = true) := by
        rw [Hid, hmd]
        rw [beq_eq_false_iff_ne] at q2 q3 q4
        simp only [Bool.and_eq_true, decide_eq_true_eq]
        omega
      clear hmd
      go_wp2_with fail
      go_round
      case rel => exact ⟨k + 1, by omega, by go_num, by rw [HT.out, List.all_append, HA.out]; simp [HM.out]⟩
      case measure => simp [intOf]; omega
    · have HAll : Hid (s.data.toList.all mayB = true) := by
        have := HA.out
        rw [List.take_of_length_le (by rw [← HL.out]; omega)] at this
        exact this
      go_wp2_with fail
      refine (rparts_fn s w1 (by omega)).mono ?_
      rintro e w2 ⟨⟨v1, rfl, ho1⟩, hb2⟩
      have HB2 := hid (HB1.out.trans (hb2.mono HB1.out.size))
      obtain ⟨g, n, c, rfl, hn⟩ := ho1.some (parts_ne _)
      have HO := hid ho1
      have HN := hid hn
      have hnb : n ≤ 90001 := by
        have hplen := parts_len s.data.toList
        have hcount := List.count_le_length (a := (47 : UInt8)) (l := s.data.toList)
        rw [← Go.Lib.size_eq] at hcount
        omega
      have HRP : Hid (rightP s.data.toList = (decide (n ≤ 8) && (parts s.data.toList).all (fun p => !p.isEmpty))) := by
        rw [Hid, HR0.out, HAll.out, Bool.true_and]
        unfold rpB
        rw [HN.out]
      clear hb2 ho1 hn
      generalize parts s.data.toList = P at *
      go_wp2_with fail
      go_loop [5] (fun i => ∃ k : Nat, k ≤ n ∧ i = .int .i64 k ∧ (P.take k).all (fun p => !p.isEmpty) = true) (fun i => n - (intOf i).toNat)
      case atStart => exact ⟨0, by omega, rfl, rfl⟩
      case round =>
        obtain ⟨j, hj, rfl, hp⟩ := hrel
        have HP := hid hp
        clear hp
        by_cases hjn : j < n
        · have hjn' : (j : Int) < n := by omega
          have hjl : j < P.length := by rw [HN.out]; exact hjn
          obtain ⟨hc, _, _, _⟩ := so_set HO.out HN.out j hjl []
          have HTk : Hid (P.take (j + 1) = P.take j ++ [P[j]]) := List.take_succ_eq_append_getElem hjl
          have e2 := empty_eq2 P[j]
          rcases Bool.eq_false_or_eq_true (P[j]).isEmpty with he | he
          · have HR : Hid (rightP s.data.toList = false) := by
              rw [Hid, HRP.out]
              have : P.all (fun p => !p.isEmpty) = false := by
                rw [← List.take_append_drop (j + 1) P, List.all_append, HTk.out, List.all_append]
                simp [he]
              rw [this, Bool.and_false]
            rw [he] at e2
            generalize P[j] = x at *
            go_wp2_with fail
            go_ret
            rw [HR.out]
            exact ⟨rfl, HB2.out⟩
          · have HQ : Hid ((P.take (j + 1)).all (fun p => !p.isEmpty) = true) := by
              rw [Hid, HTk.out, List.all_append, HP.out]
              simp [he]
            rw [he] at e2
            generalize P[j] = x at *
            go_wp2_with fail
            go_round
            case rel => exact ⟨j + 1, by omega, by go_num, HQ.out⟩
            case measure => simp [intOf]; omega
        · have HQ : Hid (rightP s.data.toList = decide ((n : Int) ≤ 8)) := by
            have := HP.out
            rw [List.take_of_length_le (by rw [HN.out]; omega)] at this
            rw [Hid, HRP.out, this, Bool.and_true, Bool.eq_iff_iff, decide_eq_true_eq, decide_eq_true_eq]
            omega
          go_wp2_with fail
          go_ret
          rw [HQ.out]
          exact ⟨rfl, HB2.out⟩
end Go.Proofs.YtkmggkcipgfhdaaDoor
