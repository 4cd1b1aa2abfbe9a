/- What this text holds: the flags of a list; a text within a text; lists that are the same. -/
import Derived.Test.YtaniljfjmbifnaaGreatDoorK2
namespace Go.Proofs.YtaniljfjmbifnaaGreatDoor.H
open Go.RowKit
set_option linter.unusedVariables false
set_option linter.unusedSimpArgs false

theorem all_len (l : List Bs) : (allP l).length ≤ l.length := by
  unfold allP
  have h1 := Go.Lib.compact_length_le (sortP (l.filterMap keptP))
  have h2 := sort_len (l.filterMap keptP)
  have h3 := filter_len l
  omega
set_option maxRecDepth 100000 in
theorem own_cases {w : World} {B : Nat} {u : Value} {m : List Bs} (h : RO w B 9 1 u (m.map sR)) : (u = .slice none 0 0 ∧ m = []) ∨
    ∃ g c, u = .slice (some ⟨g, 0, none⟩) m.length c ∧ (m.length : Int) ≤ c ∧ (c : Int) ≤ 9223372036854775807 ∧ RL w (.slice (some ⟨g, 0, none⟩) (min m.length 20) c) 1 ((m.take (min m.length 20)).map sR) := by
  have ho := own_of h
  rcases id ho.2 with ⟨hu, h0⟩ | ⟨g, cap, cur, hu, hB, hb, hc, hm, hs, ht⟩
  · exact .inl ⟨hu, List.length_eq_zero_iff.1 h0⟩
  · subst hu
    have hp := own_prefix (n := min m.length 20) ho (by omega)
    have HP := (of_own hp).rl
    rw [List.length_take, Nat.min_eq_left (by omega)] at HP
    unfold maxLen at hm
    exact .inr ⟨g, cap, rfl, by omega, by omega, HP⟩
set_option maxRecDepth 100000 in
set_option maxHeartbeats 1000000 in
theorem flags_any {w : World} {v : Value} {l : List Bs} (h : RL w v 1 (l.map sR)) (hl : l.length ≤ 1000000) (hf : ∀ f ∈ l, f.length ≤ 10000000) :
    Calls Tryz.prog 18 #[v] w fun e w' => (∃ u, e = .returned u ∧ RL w' u 1 ((flagsP l).map sR)) ∧ Below w.heap.size w w' := by
  have C := allKept_any h hl hf
  have hal := all_len l
  have HF : Hid (flagsP l = (allP l).take (min (allP l).length 20)) := rfl
  obtain ⟨a, c, rfl, _⟩ := h.2
  rw [List.length_map] at C ⊢
  clear h hf
  generalize flagsP l = F at *
  generalize allP l = m at *
  go_enter Tryz.func18, Tryz.ntmps18
  go_wp2_with fail
  refine C.mono ?_
  rintro e w2 ⟨⟨u, rfl, ho⟩, b2⟩
  have B2 := hid b2
  have HC := own_cases ho
  clear ho b2
  rcases HC with ⟨rfl, rfl⟩ | ⟨g, cap, rfl, hc, hm, hp⟩
  · go_wp2_with fail
    go_ret
    rw [HF.out]
    exact ⟨⟨_, rfl, (RO.nil _ 0 9 1).rl⟩, B2.out⟩
  · rw [← HF.out] at hp
    have HP := hid hp
    clear HF hp
    generalize m.length = n at *
    have hmin : (min (n : Int) 20).toNat = min n 20 := by omega
    go_wp2_with fail
    go_ret
    exact ⟨⟨_, rfl, HP.out⟩, B2.out⟩
def conB (s t : Bs) : Bool := Go.Lib.contains (low s) (low t)
set_option maxRecDepth 100000 in
theorem con_any (s t : Bs) {w : World} (he : Env w) (hs : s.length ≤ 10000000) (ht : t.length ≤ 10000000) : Calls Tryz.prog 8 #[.string (str s), .string (str t)] w fun e w' => e = .returned (.bool (conB s t)) ∧ Below w.heap.size w w' := by
  have hpos := he.pos
  have HE := hid he
  have C1 := lower_any s w hs
  have HL : Hid ((low s).length = s.length) := by unfold Hid low; simp
  go_enter Tryz.func8, Tryz.ntmps8
  go_wp2_with fail
  refine C1.mono ?_
  rintro e w2 ⟨rfl, b2⟩
  have B2 := hid b2
  clear b2
  go_wp2_with fail
  refine (lower_any t w2 ht).mono ?_
  rintro e w3 ⟨rfl, b3⟩
  have B3 := hid (B2.out.trans (b3.mono B2.out.size))
  clear b3
  obtain ⟨m, hm⟩ := HE.out.later B3.out
  have C3 := Tryz.strings_Contains (str (low s)) (str (low t)) m w3 (by rw [str_size, HL.out]; omega) hm
  go_wp2_with fail
  refine C3.mono ?_
  rintro e w4 ⟨rfl, rfl⟩
  go_wp2_with fail
  go_ret
  exact ⟨rfl, B3.out⟩
set_option maxRecDepth 100000 in
set_option maxHeartbeats 4000000 in
theorem same_any {w : World} {va vb : Value} {l m : List Bs} (h : RL w va 1 (l.map sR)) (h' : RL w vb 1 (m.map sR)) (hl : l.length ≤ 1000000) (hm : m.length ≤ 1000000) :
    Calls Tryz.prog 17 #[va, vb] w fun e w' => e = .returned (.bool (decide (l = m))) ∧ Below w.heap.size w w' := by
  obtain ⟨hw, a, c, rfl, hc, hr⟩ := h
  obtain ⟨hw', a', c', rfl, hc', hr'⟩ := h'
  simp only [List.length_map] at *
  by_cases hlen : l.length = m.length
  · rcases hr with hr | ⟨g, o, rfl, hr, hg⟩
    · have e1 : l = [] := by simpa using hr
      have e2 : m = [] := List.eq_nil_of_length_eq_zero (by rw [← hlen, e1]; rfl)
      subst e1 e2
      go_enter Tryz.func17, Tryz.ntmps17
      go_wp2_with fail
      go_loopw [5] (fun i wr => i = .int .i64 0 ∧ wr = w) (fun _ _ => 0)
      case atStart => exact ⟨rfl, rfl⟩
      case round =>
        obtain ⟨rfl, rfl⟩ := hrel
        go_wp2_with fail
        go_ret
        exact ⟨rfl, Below.refl _ _⟩
    · rcases hr' with hr' | ⟨g', o', rfl, hr', hg'⟩
      · have e1 : m = [] := by simpa using hr'
        have e2 : l = [] := List.eq_nil_of_length_eq_zero (by rw [hlen, e1]; rfl)
        subst e1 e2
        go_enter Tryz.func17, Tryz.ntmps17
        go_wp2_with fail
        go_loopw [5] (fun i wr => i = .int .i64 0 ∧ wr = w) (fun _ _ => 0)
        case atStart => exact ⟨rfl, rfl⟩
        case round =>
          obtain ⟨rfl, rfl⟩ := hrel
          go_wp2_with fail
          go_ret
          exact ⟨rfl, Below.refl _ _⟩
      · have HR := hid hr
        have HR' := hid hr'
        have HL := hid hlen
        rw [← hlen]
        clear hr hr' hlen
        go_enter Tryz.func17, Tryz.ntmps17
        go_wp2_with fail
        go_loopw [5] (fun i wr => ∃ k : Nat, k ≤ l.length ∧ i = .int .i64 k ∧ l.take k = m.take k ∧ Below w.heap.size w wr) (fun i _ => l.length - (intOf i).toNat)
        case atStart => exact ⟨0, by omega, rfl, by simp, Below.refl _ _⟩
        case round =>
          obtain ⟨k, hk, rfl, ht, hb⟩ := hrel
          have HT := hid ht
          have HB := hid hb
          clear ht hb
          by_cases hlt : k < l.length
          · have hlt' : (k : Int) < l.length := by omega
            have hlm : k < m.length := by rw [← HL.out]; exact hlt
            have hx0 : wr.cell? ⟨g, o + k, none⟩ = some (.string (str l[k])) := by
              have := (HR.out.later HB.out).rec k (sR l[k]) (by rw [List.getElem?_map, List.getElem?_eq_getElem hlt]; rfl) 0 _ rfl
              rw [Nat.mul_one] at this
              exact this
            have hy0 : wr.cell? ⟨g', o' + k, none⟩ = some (.string (str m[k])) := by
              have := (HR'.out.later HB.out).rec k (sR m[k]) (by rw [List.getElem?_map, List.getElem?_eq_getElem hlm]; rfl) 0 _ rfl
              rw [Nat.mul_one] at this
              exact this
            have HS : Hid (l[k] = m[k] → l.take (k + 1) = m.take (k + 1)) := fun h => by rw [List.take_succ_eq_append_getElem hlt, List.take_succ_eq_append_getElem hlm, HT.out, h]
            have HN : Hid (l[k] ≠ m[k] → decide (l = m) = false) := fun h => by simp; intro e; subst e; exact h rfl
            generalize l[k] = x at *
            generalize m[k] = y at *
            by_cases hxy : x = y
            · have HF := hid (HS.out hxy)
              have q0 : (str x).toList = (str y).toList := by rw [hxy]
              clear hxy
              go_wp2_with fail
              go_quiet (fail)
              go_wp2_with fail
              go_roundw
              case rel => exact ⟨k + 1, by omega, by go_num, HF.out, HB.out.trans (drewN_below _ _ _)⟩
              case measure => simp [intOf]; omega
            · have HF := hid (HN.out hxy)
              by_cases b0 : x = y
              · skip
                exact absurd (b0) hxy
              · skip
                have q0 : ((str x).toList == (str y).toList) = false := by rw [toL, toL]; simp [b0]
                clear b0
                go_wp2_with fail
                go_quiet (fail)
                go_wp2_with fail
                go_ret
                exact ⟨by rw [HF.out]; rfl, HB.out.trans (drewN_below _ _ _)⟩
          · have hlt' : ¬ (k : Int) < l.length := by omega
            have HF : Hid (decide (l = m) = true) := by
              have := HT.out
              rw [List.take_of_length_le (by omega), List.take_of_length_le (by have := HL.out; omega)] at this
              simp [Hid, this]
            go_wp2_with fail
            go_ret
            exact ⟨by rw [HF.out]; rfl, HB.out⟩
  · have HF : Hid (decide (l = m) = false) := by simp [Hid]; intro e; subst e; exact hlen rfl
    have hlen' : ¬ (l.length : Int) = m.length := by omega
    clear hr hr' hlen
    rw [HF.out]
    go_enter Tryz.func17, Tryz.ntmps17
    go_wp2_with fail
    go_ret
    exact ⟨rfl, Below.refl _ _⟩

end Go.Proofs.YtaniljfjmbifnaaGreatDoor.H
