/- What this text holds: a name as it is kept: the document's answer. -/
import Derived.Test.YtkmggkcipgfhdaaDoorJ5
namespace Go.Proofs.YtkmggkcipgfhdaaDoor
open Go.RowKit
set_option linter.unusedVariables false
set_option linter.unusedSimpArgs false

theorem joinP_head (x p : List UInt8) (ps : List (List UInt8)) : joinP (x :: ps) = x ++ (joinP (p :: ps)).drop p.length := by
  by_cases h : ps = []
  · subst h; simp [joinP]
  · rw [joinP_cons h, joinP_cons h]; simp
theorem parts_first {l p : List UInt8} {ps : List (List UInt8)} (h : parts l = p :: ps) : p = (cutc 47 l).1 := by
  rw [parts_cut] at h
  split at h
  · exact (List.cons.inj h).1.symm
  · exact (List.cons.inj h).1.symm

set_option maxRecDepth 100000 in
set_option maxHeartbeats 1000000 in
theorem rnorm_any (s : ByteArray) (w : World) (hs : s.size ≤ 90000) : Calls Tryd.prog 22 #[.string s] w fun e w' => e = .returned (.string (str (normP s.data.toList))) ∧ Below w.heap.size w w' := by
  obtain ⟨p, ps, hp⟩ := parts_some s.data.toList
  have HJ := hid (join_parts s.data.toList)
  have hpl : p.length ≤ 90000 := by
    have := join_take_le s.data.toList 1
    rw [hp, ← Go.Lib.size_eq] at this
    simp [joinP] at this
    omega
  have hplen := parts_len s.data.toList
  have hcount := List.count_le_length (a := (47 : UInt8)) (l := s.data.toList)
  rw [← Go.Lib.size_eq] at hcount
  have HL : Hid ((p :: ps).length ≤ 90001) := by rw [Hid, ← hp]; omega
  have HF := hid (parts_first hp)
  rw [hp] at HJ
  have HP := hid hp
  clear hplen hcount hp
  go_enter Tryd.func22, Tryd.ntmps22
  go_wp2_with fail
  have C := rparts_fn s w (by omega)
  rw [HP.out] at C
  refine C.mono ?_
  clear C
  rintro e w1 ⟨⟨v1, rfl, ho1⟩, hb1⟩
  have HB1 := hid hb1
  obtain ⟨g, n, c, rfl, hn⟩ := ho1.some (by simp)
  have HO1 := hid ho1
  have HN := hid hn
  have hn1 : 1 ≤ n := by rw [← hn]; simp
  have hn0 : 0 < n := by omega
  have hn0' : (0 : Int) < n := by omega
  obtain ⟨hc, _, _, _⟩ := so_set ho1 hn 0 (by simp) []
  rw [List.getElem_cons_zero] at hc
  clear hb1 ho1 hn
  go_wp2_with fail
  have C := upper_any (str p) w1 (by rw [str_size]; omega)
  rw [str_data] at C
  refine C.mono ?_
  clear C
  rintro e w2 ⟨rfl, hb2⟩
  obtain ⟨hc2, hf2, hst, hgB⟩ := so_set (HO1.out.later hb2) HN.out 0 (by simp) [73, 78, 66, 79, 88]
  have HO2 := hid (HO1.out.later hb2)
  have HB2 := hid (HB1.out.trans (hb2.mono HB1.out.size))
  rw [List.getElem_cons_zero] at hc2
  rw [List.set_cons_zero] at hst
  have HST := hid hst
  have HG := hid hgB
  clear hb2 hst hgB hc
  have HQ : Hid (((str (p.map big)).toList == [73, 78, 66, 79, 88]) = inboxB (cutc 47 s.data.toList).1) := by
    rw [Hid, ← HF.out, inbox_big]
    have := str_beq (p.map big) [73, 78, 66, 79, 88]
    rw [Go.Lib.toList_data (str [73, 78, 66, 79, 88]), str_data] at this
    exact this
  rcases Bool.eq_false_or_eq_true (inboxB (cutc 47 s.data.toList).1) with hi | hi
  · have hq : ((str (p.map big)).toList == [73, 78, 66, 79, 88]) = true := by rw [HQ.out, hi]
    have HR : Hid (joinP ([73, 78, 66, 79, 88] :: ps) = normP s.data.toList) := by
      unfold Hid normP
      rw [if_pos hi, joinP_head _ p, HJ.out, ← HF.out]
    have hrl : (normP s.data.toList).length ≤ 100000 := by
      unfold normP
      rw [if_pos hi, List.length_append, List.length_drop, ← Go.Lib.size_eq]
      show 5 + _ ≤ _
      omega
    clear hi HQ
    go_wp2_with fail
    have C := rjoin_any HST.out.sl (by rw [HR.out]; omega) (by have := HL.out; simp at this ⊢; omega)
    rw [HR.out] at C
    refine C.mono ?_
    clear C
    rintro e w3 ⟨rfl, rfl⟩
    go_wp2_with fail
    go_ret
    exact ⟨rfl, HB2.out.setCell HG.out _⟩
  · have hq : ((str (p.map big)).toList == [73, 78, 66, 79, 88]) = false := by rw [HQ.out, hi]
    have HR : Hid (joinP (p :: ps) = normP s.data.toList) := by
      unfold Hid normP
      rw [if_neg (by rw [hi]; simp), HJ.out]
    have hrl : (normP s.data.toList).length ≤ 100000 := by
      unfold normP
      rw [if_neg (by rw [hi]; simp), ← Go.Lib.size_eq]
      omega
    clear hi HQ
    go_wp2_with fail
    have C := rjoin_any HO2.out.sl (by rw [HR.out]; omega) (by have := HL.out; simp at this ⊢; omega)
    rw [HR.out] at C
    refine C.mono ?_
    clear C
    rintro e w3 ⟨rfl, rfl⟩
    go_wp2_with fail
    go_ret
    exact ⟨rfl, HB2.out⟩
end Go.Proofs.YtkmggkcipgfhdaaDoor
