/- What this text holds: some bytes of a text: the program's call and the document's. -/
import Derived.Test.YtgolcmafbenjbaaGreatDoorN27
namespace Go.Proofs.YtgolcmafbenjbaaGreatDoor
open Go.RowKit
set_option linter.unusedVariables false
set_option linter.unusedSimpArgs false

/-- Some bytes of a text. -/
def prt (s : Bs) (f n : Int) : Bs := if f < 0 ∨ n < 0 ∨ (s.length : Int) < f then [] else (s.drop f.toNat).take n.toNat
theorem prt_no {s : Bs} {f n : Int} (h : f < 0 ∨ n < 0 ∨ (s.length : Int) < f) : prt s f n = [] := by unfold prt; rw [if_pos h]
theorem prt_yes (s : Bs) (k l : Nat) (h : k ≤ s.length) : prt s k l = (s.drop k).take l := by unfold prt; rw [if_neg (by omega)]; rfl
set_option maxRecDepth 100000 in
set_option maxHeartbeats 2000000 in
theorem bytes_any (s : Bs) (f n : Int) (w : World) (hs : s.length ≤ 1000000) : Calls Tryz.prog 12 #[.string (str s), .int .i64 f, .int .i64 n] w fun e w' => e = .returned (.string (str (prt s f n))) ∧ w' = w := by
  have hsz := str_size s
  by_cases h1 : f < 0
  · have HP := hid (prt_no (s := s) (f := f) (n := n) (.inl h1))
    rw [HP.out]
    go_enter Tryz.func12, Tryz.ntmps12
    go_wp2_with fail
    go_ret
    exact ⟨rfl, rfl⟩
  · by_cases h2 : n < 0
    · have HP := hid (prt_no (s := s) (f := f) (n := n) (.inr (.inl h2)))
      rw [HP.out]
      go_enter Tryz.func12, Tryz.ntmps12
      go_wp2_with fail
      go_ret
      exact ⟨rfl, rfl⟩
    · by_cases h3 : (s.length : Int) < f
      · have HP := hid (prt_no (s := s) (f := f) (n := n) (.inr (.inr h3)))
        rw [HP.out]
        go_enter Tryz.func12, Tryz.ntmps12
        go_wp2_with fail
        go_ret
        exact ⟨rfl, rfl⟩
      · obtain ⟨k, rfl⟩ : ∃ k : Nat, f = (k : Int) := ⟨f.toNat, by omega⟩
        obtain ⟨l, rfl⟩ : ∃ l : Nat, n = (l : Int) := ⟨n.toNat, by omega⟩
        have hk : k ≤ s.length := by omega
        have hk' : (k : Int) ≤ s.length := by omega
        have HP := hid (prt_yes s k l hk)
        have HD : Hid ((str s).extract k s.length = str (s.drop k)) := by rw [Hid, ← str_size]; exact drop_str s k
        have hd2 := str_size (s.drop k)
        have hdl : (s.drop k).length = s.length - k := List.length_drop
        rw [HP.out]
        generalize s.drop k = t at *
        have HT : Hid ((str t).extract 0 (min (l : Int) t.length).toNat = str (t.take l)) := by
          rw [Hid, take_str]
          have : (min (l : Int) t.length).toNat = min l t.length := by omega
          rw [this]
          congr 1
          by_cases hle : l ≤ t.length
          · rw [Nat.min_eq_left hle]
          · rw [Nat.min_eq_right (by omega), List.take_of_length_le (Nat.le_refl _), List.take_of_length_le (by omega)]
        have hm1 : (0 : Int) ≤ min (l : Int) t.length := by omega
        have hm2 : min (l : Int) (t.length : Int) ≤ t.length := by omega
        have hm3 : min (l : Int) (t.length : Int) ≤ 1000000 := by omega
        clear hk h1 h2
        go_enter Tryz.func12, Tryz.ntmps12
        go_wp2_with fail
        go_ret
        refine ⟨?_, rfl⟩
        show Ending.returned (.string (((str s).extract k s.length).extract 0 (min (l : Int) ((s.length - k : Nat) : Int)).toNat)) = _
        rw [HD.out, ← hdl, HT.out]
set_option maxRecDepth 100000 in
set_option maxHeartbeats 2000000 in
theorem rbytes_any (s : Bs) (f n : Int) (w : World) (hs : s.length ≤ 1000000) (hf : f ≤ 9223372036854775807) (hn : n ≤ 9223372036854775807) : Calls Tryz.prog 13 #[.string (str s), .int .i64 f, .int .i64 n] w fun e w' => e = .returned (.string (str (prt s f n))) ∧ w' = w := by
  have hsz := str_size s
  by_cases h1 : f < 0
  · have HP := hid (prt_no (s := s) (f := f) (n := n) (.inl h1))
    rw [HP.out]
    go_enter Tryz.func13, Tryz.ntmps13
    go_wp2_with fail
    go_ret
    exact ⟨rfl, rfl⟩
  · by_cases h2 : n < 0
    · have HP := hid (prt_no (s := s) (f := f) (n := n) (.inr (.inl h2)))
      rw [HP.out]
      go_enter Tryz.func13, Tryz.ntmps13
      go_wp2_with fail
      go_ret
      exact ⟨rfl, rfl⟩
    · by_cases h3 : (s.length : Int) < f
      · have HP := hid (prt_no (s := s) (f := f) (n := n) (.inr (.inr h3)))
        rw [HP.out]
        go_enter Tryz.func13, Tryz.ntmps13
        go_wp2_with fail
        go_ret
        exact ⟨rfl, rfl⟩
      · obtain ⟨k, rfl⟩ : ∃ k : Nat, f = (k : Int) := ⟨f.toNat, by omega⟩
        obtain ⟨l, rfl⟩ : ∃ l : Nat, n = (l : Int) := ⟨n.toNat, by omega⟩
        have hk : k ≤ s.length := by omega
        have hk' : (k : Int) ≤ s.length := by omega
        have HP := hid (prt_yes s k l hk)
        rw [HP.out]
        by_cases h4 : (s.length : Int) - k < l
        · have hsub : (k : Int) + ((s.length : Int) - k) = s.length := by omega
          have HX : Hid ((str s).extract k s.length = str ((s.drop k).take l)) := by
            rw [Hid, List.take_of_length_le (by simp; omega), ← str_size]; exact drop_str s k
          clear hk h1 h2
          go_enter Tryz.func13, Tryz.ntmps13
          go_wp2_with fail
          go_ret
          exact ⟨by rw [← HX.out]; first | rfl | simp, rfl⟩
        · have hkl : (k : Int) + l ≤ s.length := by omega
          have HX : Hid ((str s).extract k (k + l) = str ((s.drop k).take l)) := by
            rw [Hid, mid_str]; congr 2; omega
          have hk0 : (0 : Int) ≤ (k : Int) := by omega
          have hl0 : (0 : Int) ≤ (l : Int) := by omega
          have hkk : (k : Int) ≤ (k : Int) + l := by omega
          clear hk h1 h2
          go_enter Tryz.func13, Tryz.ntmps13
          go_wp2_with fail
          go_ret
          exact ⟨by rw [← HX.out]; first | rfl | simp, rfl⟩
end Go.Proofs.YtgolcmafbenjbaaGreatDoor
