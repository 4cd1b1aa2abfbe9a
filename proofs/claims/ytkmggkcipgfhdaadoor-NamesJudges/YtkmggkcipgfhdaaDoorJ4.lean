/- What this text holds: the names above a name: the document's answer. -/
import Derived.Test.YtkmggkcipgfhdaaDoorJ3
namespace Go.Proofs.YtkmggkcipgfhdaaDoor
open Go.RowKit
set_option linter.unusedVariables false
set_option linter.unusedSimpArgs false

def upR (l : List UInt8) (k : Nat) : List (List UInt8) := (List.range k).map fun i => joinP ((parts l).take (i + 1))
theorem upR_next (l : List UInt8) (k : Nat) : upR l (k + 1) = upR l k ++ [joinP ((parts l).take (k + 1))] := by
  simp [upR, List.range_succ]
theorem upR_len (l : List UInt8) (k : Nat) : (upR l k).length = k := by simp [upR]
theorem upR_up (l : List UInt8) : ∀ k, k ≤ l.length → upR (l.take k) ((parts (l.take k)).length - 1) = upK l k
  | 0, _ => by simp [upR, upK, parts]
  | k + 1, h => by
    have ih := upR_up l k (by omega)
    have hp : 1 ≤ (parts (l.take k)).length := by rw [parts_len]; omega
    rw [upK_next, ← ih, take_next l k (by omega)]
    by_cases hc : l.getD k 0 = 47
    · rw [if_pos hc, hc]
      have e : parts (l.take k ++ [47]) = parts (l.take k) ++ [[]] := by rw [parts_two]; rfl
      have el : (parts (l.take k ++ [47])).length - 1 = ((parts (l.take k)).length - 1) + 1 := by rw [e, List.length_append]; simp; omega
      rw [el, upR_next]
      congr 1
      · unfold upR
        apply List.map_congr_left
        intro i hi
        rw [List.mem_range] at hi
        rw [e, List.take_append_of_le_length (by omega)]
      · rw [e, List.take_append_of_le_length (by omega), List.take_of_length_le (by omega), join_parts]
    · rw [if_neg hc, List.append_nil, parts_snoc _ _ hc]
      have e := parts_snoc (l.take k) _ hc
      have el : ((parts (l.take k)).dropLast ++ [(parts (l.take k)).getLastD [] ++ [l.getD k 0]]).length - 1 = (parts (l.take k)).length - 1 := by simp
      rw [el]
      unfold upR
      apply List.map_congr_left
      intro i hi
      rw [List.mem_range] at hi
      rw [e, List.take_append_of_le_length (by rw [List.length_dropLast]; omega), List.dropLast_eq_take, List.take_take, Nat.min_eq_left (by omega)]
theorem upR_all (l : List UInt8) : upR l ((parts l).length - 1) = upK l l.length := by
  have := upR_up l l.length (Nat.le_refl _)
  rwa [List.take_length] at this
theorem join_take_le (l : List UInt8) (k : Nat) : (joinP ((parts l).take k)).length ≤ l.length := by
  have := joinP_mono ((parts l).take k) ((parts l).drop k)
  rw [List.take_append_drop, join_parts] at this
  exact this

set_option maxRecDepth 100000 in
set_option maxHeartbeats 2000000 in
theorem rup_any (s : ByteArray) (w : World) (hs : s.size ≤ 90000) :
    Calls Tryd.prog 28 #[.string s] w fun e w' => (∃ v, e = .returned v ∧ SO w' w.heap.size v (upK s.data.toList s.size)) ∧ Below w.heap.size w w' := by
  have HA := hid (upR_all s.data.toList)
  rw [← Go.Lib.size_eq] at HA
  have hplen := parts_len s.data.toList
  have hcount := List.count_le_length (a := (47 : UInt8)) (l := s.data.toList)
  rw [← Go.Lib.size_eq] at hcount
  go_enter Tryd.func28, Tryd.ntmps28
  go_wp2_with fail
  refine (rparts_fn s w (by omega)).mono ?_
  rintro e w1 ⟨⟨v1, rfl, ho1⟩, hb1⟩
  have HB1 := hid hb1
  obtain ⟨g, n, c, rfl, hn⟩ := ho1.some (parts_ne _)
  have HS := hid ho1.sl
  have hc : n ≤ c := by
    obtain ⟨a', c', e, h1, _⟩ := ho1.sl
    cases e
    omega
  have hn1 : 1 ≤ n := by omega
  have hnb : n ≤ 90001 := by omega
  have HN := hid hn
  rw [hn] at HA
  clear hb1 ho1 hn hplen hcount
  go_wp2_with fail
  go_loopw [4, 5] (fun v i wr => ∃ k : Nat, k + 1 ≤ n ∧ i = .int .i64 ((k + 1 : Nat) : Int) ∧ SO wr w1.heap.size v (upR s.data.toList k) ∧ Below w1.heap.size w1 wr) (fun _ i _ => n - (intOf i).toNat)
  case atStart => exact ⟨0, by omega, rfl, ⟨rfl, .inl ⟨rfl, rfl⟩⟩, Below.refl _ _⟩
  case round =>
    obtain ⟨k, hk, rfl, ho, hb⟩ := hrel
    have HO := hid ho
    have HB := hid hb
    have HJ := hid (join_take_le s.data.toList (k + 1))
    obtain ⟨sa, sc', rfl⟩ := ho.slice
    rw [upR_len] at HO ⊢
    have HSw := hid (HS.out.later hb)
    clear ho hb
    generalize hm : k + 1 = m at *
    have HM := hid hm
    have hm1 : 1 ≤ m := by omega
    have hkb : k ≤ 90001 := by omega
    clear hm
    by_cases hlt : m < n
    · have hlt' : (m : Int) < n := by omega
      have hle : (m : Int) ≤ c := by omega
      have HE : Hid (upR s.data.toList m = upR s.data.toList k ++ [joinP ((parts s.data.toList).take m)]) := by
        rw [Hid, ← HM.out, upR_next]
      have HST : Hid (SL wr (.slice (some ⟨g, 0, none⟩) m c) ((parts s.data.toList).take m)) := by
        obtain ⟨a', c', e, h1, h2⟩ := HSw.out
        cases e
        rcases h2 with h2 | ⟨g', o', e, h2⟩
        · exact absurd h2 (parts_ne _)
        · cases e
          have hml : ((parts s.data.toList).take m).length = m := by rw [List.length_take, HN.out]; omega
          refine ⟨_, c, by rw [hml], by rw [hml]; omega, .inr ⟨g, 0, rfl, fun j q hq => h2 j q ?_⟩⟩
          rw [List.getElem?_take] at hq
          split at hq
          · exact hq
          · cases hq
      go_wp2_with fail
      have C := rjoin_any HST.out (by have := HJ.out; rw [← Go.Lib.size_eq] at this; omega) (by rw [List.length_take]; omega)
      refine C.mono ?_
      clear C
      rintro e w2 ⟨rfl, rfl⟩
      generalize hx : joinP ((parts s.data.toList).take m) = x at *
      obtain ⟨v', w2, hrun, ho2, hb2⟩ := so_more (w := w2.alloc (.cells #[.string (str x)] 9)) (HO.out.later ((Below.refl _ _).alloc (Nat.le_refl _) _)) (by have := HB.out.size; simp; omega) (sl_one _ x) (by rw [upR_len]; omega) (by simp) (by simp)
      have HRun := hid hrun
      have HO2 := hid ho2
      have HB2 := hid ((HB.out.alloc HB.out.size _).trans hb2)
      obtain ⟨sa2, sc2, rfl⟩ := ho2.slice
      clear hrun ho2 hb2 hx
      go_wp2_with (at_builtin; refine wpList_append_run rfl rfl HRun.out ?_)
      go_roundw
      case rel => exact ⟨m, by omega, by go_num, by rw [HE.out]; have := HO2.out; rw [List.length_append] at this; exact this, HB2.out⟩
      case measure => simp [intOf]; omega
    · have HF : Hid (k = n - 1) := by unfold Hid; have := HM.out; omega
      have HO3 : Hid (SO wr w1.heap.size (.slice sa k sc') (upK s.data.toList s.size)) := by
        rw [← HA.out, ← HF.out]; exact HO.out
      go_wp2_with fail
      go_ret
      exact ⟨⟨_, rfl, ownsRow_base HO3.out HB1.out.size⟩, HB1.out.trans (HB.out.mono HB1.out.size)⟩
end Go.Proofs.YtkmggkcipgfhdaaDoor
