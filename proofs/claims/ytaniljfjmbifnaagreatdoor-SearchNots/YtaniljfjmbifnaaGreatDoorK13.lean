/- What this text holds: a text within a text, as the document asks it. -/
import Derived.Test.YtaniljfjmbifnaaGreatDoorKY2
import Derived.Test.YtaniljfjmbifnaaGreatDoorWR1
import Derived.Lib.IndexMore
namespace Go.Proofs.YtaniljfjmbifnaaGreatDoor.H
open Go.RowKit
set_option linter.unusedVariables false
set_option linter.unusedSimpArgs false

theorem con_iff (s t : Bs) : Go.Lib.contains s t = true ↔ ∃ i, i + t.length ≤ s.length ∧ (s.drop i).take t.length = t := by
  unfold Go.Lib.contains
  rw [decide_eq_true_eq]
  constructor
  · intro h
    have hroom := Go.Lib.index_room s t h
    rcases Go.Lib.index_spec s t with ⟨h1, _⟩ | ⟨i, h1, h2, h3, _⟩
    · omega
    · refine ⟨i, by omega, ?_⟩
      unfold Go.Lib.occAt at h3
      have := List.isPrefixOf_iff_prefix.1 h3
      rw [List.prefix_iff_eq_take] at this
      exact this.symm
  · rintro ⟨i, h1, h2⟩
    rcases Go.Lib.index_spec s t with ⟨_, h3⟩ | ⟨j, h3, _⟩
    · exfalso
      have := h3 i (by omega)
      unfold Go.Lib.occAt at this
      have hp : t.isPrefixOf (s.drop i) = true := List.isPrefixOf_iff_prefix.2 (List.prefix_iff_eq_take.2 h2.symm)
      rw [hp] at this
      cases this
    · omega
theorem con_part {s t u : Bs} (h : Go.Lib.contains s t = true) (f g : Nat) (hu : (t.drop f).take g = u) : Go.Lib.contains s u = true := by
  obtain ⟨i, h1, h2⟩ := (con_iff s t).1 h
  subst hu
  refine (con_iff _ _).2 ⟨i + min f t.length, ?_, ?_⟩
  · rw [List.length_take, List.length_drop]; omega
  · by_cases hf : f ≤ t.length
    · rw [Nat.min_eq_left hf, ← List.drop_drop]
      have h3 : (t.drop f).take g = (((s.drop i).drop f).take (t.length - f)).take g := by
        conv => lhs; rw [← h2]
        rw [List.drop_take]
      have hl : ((t.drop f).take g).length = min g (t.length - f) := by rw [List.length_take, List.length_drop]
      rw [hl]
      rw [h3, List.take_take]
    · have he : t.drop f = [] := List.drop_eq_nil_of_le (by omega)
      rw [he]
      simp
theorem con_end (s t : Bs) : Go.Lib.contains (s ++ t) t = true := (con_iff _ _).2 ⟨s.length, by simp, by simp⟩
theorem low_app (s t : Bs) : low (s ++ t) = low s ++ low t := by unfold low; rw [List.map_append]
theorem conB_part {s t : Bs} (h : conB s t = true) (f g : Nat) : conB s ((t.drop f).take g) = true := by
  unfold conB at *
  refine con_part h f g ?_
  unfold low
  rw [← List.map_drop, ← List.map_take]
theorem conB_end (s t : Bs) : conB (s ++ t) t = true := by
  unfold conB
  rw [low_app]
  exact con_end _ _
theorem low_same (l : Bs) : W.low l = low l := rfl
set_option maxRecDepth 100000 in
theorem rlower_any (l : Bs) (w : World) (hs : l.length ≤ 10000000) : Calls Tryz.prog 21 #[.string (str l)] w fun e w' => e = .returned (.string (str (low l))) ∧ Below w.heap.size w w' := W.rlower_any l w hs
set_option maxRecDepth 100000 in
set_option maxHeartbeats 2000000 in
theorem rcon_any (s t : Bs) (w : World) (hs : s.length ≤ 1000000) (ht : t.length ≤ 1000000) : Calls Tryz.prog 9 #[.string (str s), .string (str t)] w fun e w' => e = .returned (.bool (conB s t)) ∧ Below w.heap.size w w' := by
  have C1 := rlower_any s w (by omega)
  have hls : (low s).length ≤ 1000000 := by unfold low; simpa using hs
  have hlt : (low t).length ≤ 1000000 := by unfold low; simpa using ht
  have HC := hid (fun w0 => rlower_any t w0 (by omega))
  have HV : Hid (conB s t = Go.Lib.contains (low s) (low t)) := rfl
  generalize conB s t = V at *
  generalize low s = x at *
  generalize low t = y at *
  have hxz := str_size x
  have hyz := str_size y
  clear hs ht
  go_enter Tryz.func9, Tryz.ntmps9
  go_wp2_with fail
  refine C1.mono ?_
  rintro e w2 ⟨rfl, b2⟩
  have B2 := hid b2
  clear b2 C1
  go_wp2_with fail
  refine (HC.out _).mono ?_
  rintro e w3 ⟨rfl, b3⟩
  have B3 := hid (B2.out.trans (b3.mono B2.out.size))
  clear b3 HC
  go_wp2_with fail
  go_loop [5] (fun i => ∃ k : Nat, i = .int .i64 k ∧ k ≤ x.length + 1 ∧ ∀ j, j < k → ¬ (j + y.length ≤ x.length ∧ (x.drop j).take y.length = y)) (fun i => x.length + 1 - (intOf i).toNat)
  case atStart => exact ⟨0, rfl, by omega, fun j hj => by omega⟩
  case round =>
    obtain ⟨k, rfl, hk, hno⟩ := hrel
    have HN := hid hno
    clear hno
    by_cases hr : k + y.length ≤ x.length
    · have hr' : (k : Int) + y.length ≤ x.length := by omega
      have HM : Hid ((str x).extract k (k + y.length) = str ((x.drop k).take y.length)) := by
        rw [Hid, mid_str, show k + y.length - k = y.length by omega]
      by_cases he : (x.drop k).take y.length = y
      · have g1 : (((str x).extract k (k + y.length)).toList == (str y).toList) = true := by rw [HM.out, he]; simp
        have HT : Hid (V = true) := by rw [Hid, HV.out]; exact (con_iff _ _).2 ⟨k, hr, he⟩
        clear he
        go_wp2_with fail
        go_ret
        rw [HT.out]
        exact ⟨rfl, B3.out⟩
      · have g1 : (((str x).extract k (k + y.length)).toList == (str y).toList) = false := by rw [HM.out, toL, toL, beq_eq_false_iff_ne]; exact he
        have HN2 : Hid (∀ j, j < k + 1 → ¬ (j + y.length ≤ x.length ∧ (x.drop j).take y.length = y)) := by
          intro j hj
          by_cases hjk : j = k
          · subst hjk; exact fun h => he h.2
          · exact HN.out j (by omega)
        clear he
        go_wp2_with fail
        go_round
        case rel => exact ⟨k + 1, by go_num, by omega, HN2.out⟩
        case measure => simp [intOf]; omega
    · have hr' : ¬ (k : Int) + y.length ≤ x.length := by omega
      have HF : Hid (V = false) := by
        rw [Hid, HV.out, Bool.eq_false_iff]
        intro h
        obtain ⟨i, h1, h2⟩ := (con_iff _ _).1 h
        exact HN.out i (by omega) ⟨h1, h2⟩
      go_wp2_with fail
      go_ret
      rw [HF.out]
      exact ⟨rfl, B3.out⟩
end Go.Proofs.YtaniljfjmbifnaaGreatDoor.H
