/- What this text holds: the document's mark. -/
import Derived.Test.YtikcbgoocljgnaaDoorM25
import Derived.Test.YtikcbgoocljgnaaDoorP4
namespace Go.Proofs.YtikcbgoocljgnaaDoor
open Go.RowKit
set_option linter.unusedVariables false
set_option linter.unusedSimpArgs false

def MarkIs (l : Bs) (w : World) (e : Ending) (w' : World) : Prop := ∃ k n on, e = .returned (.tuple #[.int .i64 k, .int .i64 n, .bool on]) ∧ (k < 0 → markP l = none) ∧ w' = w
theorem MarkIs.no {l : Bs} {w : World} (h : markP l = none) : MarkIs l w (.returned (.tuple #[.int .i64 (-1), .int .i64 0, .bool false])) w := ⟨_, _, _, rfl, fun _ => h, rfl⟩
theorem MarkIs.yes {l : Bs} {w : World} (k : Nat) (n : Int) (on : Bool) : MarkIs l w (.returned (.tuple #[.int .i64 k, .int .i64 n, .bool on])) w := ⟨_, _, _, rfl, fun h => by omega, rfl⟩
set_option maxRecDepth 100000 in
set_option maxHeartbeats 8000000 in
theorem mark_any (l : Bs) (hl : l.length ≤ 9223372036854775807) (w : World) : Calls Tryd.prog 27 #[.string (str l)] w (MarkIs l w) := by
  have hz := str_size l
  rcases List.eq_nil_or_concat l with h0 | ⟨m, d, h0⟩
  · have HN := hid (mark_no (l := l) (by rw [h0]; simp))
    have hz0 : (str l).size = 0 := by rw [hz, h0]; rfl
    clear h0 hz
    go_enter Tryd.func27, Tryd.ntmps27
    go_wp2_with fail
    go_ret3
    exact MarkIs.no HN.out
  · rw [List.concat_eq_append] at h0
    have hk : l.length = m.length + 1 := by rw [h0]; simp
    have hz2 : (str l).size = m.length + 1 := by rw [hz, hk]
    have hn : m.length < (str l).size := by omega
    have hd0 : (str l)[m.length]'hn = d := by
      show l[m.length]'_ = d
      simp [h0]
    have hle : m.length + 1 ≤ 9223372036854775807 := by omega
    have HL := hid h0
    clear hz hk h0 hl
    generalize hmn : m.length = n at *
    have Hn := hid hmn
    clear hmn
    by_cases h125 : d = 125
    · subst h125
      have q125 : (((125 : UInt8).toNat : Int) == 125) = true := rfl
      have HKn : Hid (n ≤ l.length) := by rw [Hid, ← str_size]; omega
      by_cases hn0 : n = 0
      · have p1 : ¬ (0 : Int) < n := by omega
        have HIn : Hid (sufT (sufT l 125) 43 = l.take n) := by
          rw [Hid, HL.out, ← Hn.out]
          exact inner_no m (by have := Hn.out; rw [hn0] at this; rw [List.eq_nil_of_length_eq_zero this]; simp)
        have HK := HKn
        have Hn0 := hid hn0
        clear hn0 HL Hn HKn
        go_enter Tryd.func27, Tryd.ntmps27
        go_wp2_with fail
        go_loop [7] (fun v => ∃ i : Nat, v = .int .i64 i ∧ i ≤ n ∧ (∀ j, i ≤ j → j < n → ∀ c, l[j]? = some c → c ∈ dgs)) (fun v => (intOf v).toNat)
        case atStart => exact ⟨n, rfl, Nat.le_refl _, fun j h1 h2 => by omega⟩
        case round =>
          obtain ⟨i, rfl, hiK, hD⟩ := hrel
          have HD := hid hD
          clear hD
          by_cases hi0 : i = 0
          · have p0 : ¬ (0 : Int) < i := by omega
            have HTr := hid (trim_at l n i HK.out hiK HD.out (.inl hi0))
            by_cases e1 : i = n
            · have q1 : ((i : Int) == (n : Int)) = true := by simp [e1]
              have HNo := hid (mark_none_of l n i HIn.out HTr.out HK.out hiK (.inl e1))
              clear e1 hi0
              go_wp2_with fail
              all_goals
                go_ret3
                exact MarkIs.no HNo.out
            · have q1 : ((i : Int) == (n : Int)) = false := by simp; omega
              by_cases e2 : 6 < n - i
              · have q2 : (6 : Int) < (n : Int) - i := by omega
                have HNo := hid (mark_none_of l n i HIn.out HTr.out HK.out hiK (.inr (.inl e2)))
                clear e1 e2 hi0
                go_wp2_with fail
                all_goals
                  go_ret3
                  exact MarkIs.no HNo.out
              · have q2 : ¬ (6 : Int) < (n : Int) - i := by omega
                have q3 : ((i : Int) == 0) = true := by simp [hi0]
                have HNo := hid (mark_none_of l n i HIn.out HTr.out HK.out hiK (.inr (.inr (.inl hi0))))
                clear e1 e2 hi0
                go_wp2_with fail
                all_goals
                  go_ret3
                  exact MarkIs.no HNo.out
          · exfalso
            have := Hn0.out
            omega
      · have p1 : (0 : Int) < n := by omega
        obtain ⟨n', hn'⟩ : ∃ n', n = n' + 1 := ⟨n - 1, by omega⟩
        have hsub : (n : Int) - 1 = (n' : Int) := by omega
        have hns : n' < (str l).size := by omega
        obtain ⟨p, hp⟩ : ∃ p, (str l)[n']'hns = p := ⟨_, rfl⟩
        have hpm : m.getLast? = some p := by
          have h1 : l[n']? = some p := by rw [← hp]; exact List.getElem?_eq_getElem (by rw [str_size] at hns; exact hns)
          have hm := Hn.out
          rw [HL.out, List.getElem?_append_left (by omega)] at h1
          rw [List.getLast?_eq_getElem?, hm, hn']
          exact h1
        by_cases hp43 : p = 43
        · subst hp43
          have q43 : (((43 : UInt8).toNat : Int) == 43) = true := rfl
          have HIn : Hid (sufT (sufT l 125) 43 = l.take n') := by
            obtain ⟨m2, hm2⟩ : ∃ m2, m = m2 ++ [43] := by
              rcases List.eq_nil_or_concat m with e | ⟨m2, d2, e⟩
              · rw [e] at hpm; simp at hpm
              · rw [List.concat_eq_append] at e
                rw [e] at hpm
                simp at hpm
                exact ⟨m2, by rw [e, hpm]⟩
            have hl2 : m2.length = n' := by have := Hn.out; rw [hm2] at this; simp at this; omega
            rw [Hid, HL.out, hm2, ← hl2]
            exact inner_plus m2
          have HK : Hid (n' ≤ l.length) := by have := HKn.out; rw [Hid]; omega
          clear hn' HL Hn HKn hpm
          go_enter Tryd.func27, Tryd.ntmps27
          go_wp2_with fail
          go_loop [7] (fun v => ∃ i : Nat, v = .int .i64 i ∧ i ≤ n' ∧ (∀ j, i ≤ j → j < n' → ∀ c, l[j]? = some c → c ∈ dgs)) (fun v => (intOf v).toNat)
          case atStart => exact ⟨n', rfl, Nat.le_refl _, fun j h1 h2 => by omega⟩
          case round =>
            obtain ⟨i, rfl, hiK, hD⟩ := hrel
            have HD := hid hD
            clear hD
            by_cases hi0 : i = 0
            · have p0 : ¬ (0 : Int) < i := by omega
              have HTr := hid (trim_at l n' i HK.out hiK HD.out (.inl hi0))
              by_cases e1 : i = n'
              · have q1 : ((i : Int) == (n' : Int)) = true := by simp [e1]
                have HNo := hid (mark_none_of l n' i HIn.out HTr.out HK.out hiK (.inl e1))
                clear e1 hi0
                go_wp2_with fail
                all_goals
                  go_ret3
                  exact MarkIs.no HNo.out
              · have q1 : ((i : Int) == (n' : Int)) = false := by simp; omega
                by_cases e2 : 6 < n' - i
                · have q2 : (6 : Int) < (n' : Int) - i := by omega
                  have HNo := hid (mark_none_of l n' i HIn.out HTr.out HK.out hiK (.inr (.inl e2)))
                  clear e1 e2 hi0
                  go_wp2_with fail
                  all_goals
                    go_ret3
                    exact MarkIs.no HNo.out
                · have q2 : ¬ (6 : Int) < (n' : Int) - i := by omega
                  have q3 : ((i : Int) == 0) = true := by simp [hi0]
                  have HNo := hid (mark_none_of l n' i HIn.out HTr.out HK.out hiK (.inr (.inr (.inl hi0))))
                  clear e1 e2 hi0
                  go_wp2_with fail
                  all_goals
                    go_ret3
                    exact MarkIs.no HNo.out
            · have p0 : (0 : Int) < i := by omega
              obtain ⟨j, hj⟩ : ∃ j, i = j + 1 := ⟨i - 1, by omega⟩
              have hsub2 : (i : Int) - 1 = (j : Int) := by omega
              have hjs : j < (str l).size := by rw [str_size]; have := HK.out; omega
              obtain ⟨c, hc⟩ : ∃ c, (str l)[j]'hjs = c := ⟨_, rfl⟩
              have Hc : Hid (l[i - 1]? = some c) := by
                rw [Hid, ← hc, show i - 1 = j by omega]
                exact List.getElem?_eq_getElem (by rw [str_size] at hjs; exact hjs)
              have Hj := hid hj
              clear hj
              by_cases c48 : 48 ≤ c.toNat
              · have a48 : (48 : Int) ≤ c.toNat := by omega
                by_cases c57 : c.toNat ≤ 57
                · have a57 : (c.toNat : Int) ≤ 57 := by omega
                  have HD2 : Hid (∀ j', j ≤ j' → j' < n' → ∀ c, l[j']? = some c → c ∈ dgs) := fun j' h1 h2 c' h3 => by
                    by_cases e : j' = j
                    · subst e
                      have hcc := Hc.out
                      rw [show i - 1 = j' by have := Hj.out; omega, h3] at hcc
                      rw [Option.some.inj hcc]
                      exact (dig_iff c).1 ⟨c48, c57⟩
                    · exact HD.out j' (by have := Hj.out; omega) h2 c' h3
                  clear hi0
                  go_wp2_with fail
                  go_round
                  case rel => exact ⟨j, by go_num, by have := Hj.out; omega, HD2.out⟩
                  case measure => simp [intOf]; have := Hj.out; omega
                · have a57 : ¬ (c.toNat : Int) ≤ 57 := by omega
                  have HTr := hid (trim_at l n' i HK.out hiK HD.out (.inr ⟨c, Hc.out, fun e => c57 ((dig_iff c).2 e).2⟩))
                  by_cases e1 : i = n'
                  · have q1 : ((i : Int) == (n' : Int)) = true := by simp [e1]
                    have HNo := hid (mark_none_of l n' i HIn.out HTr.out HK.out hiK (.inl e1))
                    clear e1 hi0
                    go_wp2_with fail
                    all_goals
                      go_ret3
                      exact MarkIs.no HNo.out
                  · have q1 : ((i : Int) == (n' : Int)) = false := by simp; omega
                    by_cases e2 : 6 < n' - i
                    · have q2 : (6 : Int) < (n' : Int) - i := by omega
                      have HNo := hid (mark_none_of l n' i HIn.out HTr.out HK.out hiK (.inr (.inl e2)))
                      clear e1 e2 hi0
                      go_wp2_with fail
                      all_goals
                        go_ret3
                        exact MarkIs.no HNo.out
                    · have q2 : ¬ (6 : Int) < (n' : Int) - i := by omega
                      have q3 : ((i : Int) == 0) = false := by simp; omega
                      by_cases e4 : c = 123
                      · have q4 : ((c.toNat : Int) == 123) = true := is_c e4
                        have q4' : ((c.toNat : Int) != 123) = false := by rw [bne, q4]; rfl
                        have HK6 : Hid (n' - i ≤ 6) := by rw [Hid]; omega
                        clear e1 e2 e4 hi0
                        go_wp2_with fail
                        go_loop [8, 9] (fun xv qv => ∃ x q : Nat, xv = .int .i64 x ∧ qv = .int .i64 q ∧ i ≤ q ∧ q ≤ n' ∧ x + 1 ≤ 10 ^ (q - i)) (fun _ qv => n' - (intOf qv).toNat)
                        case atStart => exact ⟨0, i, rfl, rfl, by omega, hiK, by simp⟩
                        case round =>
                          obtain ⟨x, q, rfl, rfl, hq1, hq2, hx⟩ := hrel
                          by_cases hqK : q < n'
                          · have hqK' : (q : Int) < n' := by omega
                            have hqs : q < (str l).size := by rw [str_size]; have := HK.out; omega
                            obtain ⟨cq, hcq⟩ : ∃ cq, (str l)[q]'hqs = cq := ⟨_, rfl⟩
                            have hcd : cq ∈ dgs := HD.out q hq1 hqK cq (by rw [← hcq]; exact List.getElem?_eq_getElem (by rw [str_size] at hqs; exact hqs))
                            obtain ⟨d1, d2⟩ := (dig_iff cq).2 hcd
                            have hx6 : 10 ^ (q - i) ≤ 10 ^ 6 := Nat.pow_le_pow_right (by omega) (by have := HK6.out; omega)
                            have hxb : x ≤ 1000000 := by omega
                            have HX2 : Hid (10 * x + (cq.toNat - 48) + 1 ≤ 10 ^ (q + 1 - i)) := by rw [Hid, show q + 1 - i = (q - i) + 1 by omega, Nat.pow_succ]; omega
                            clear hx hx6 hcd
                            go_wp2_with fail
                            go_round
                            case rel => exact ⟨10 * x + (cq.toNat - 48), q + 1, by go_num, by go_num, by omega, by omega, HX2.out⟩
                            case measure => simp [intOf]; omega
                          · have hqK' : ¬ (q : Int) < n' := by omega
                            clear hx
                            go_wp2_with fail
                            go_ret3
                            exact MarkIs.yes j _ _
                      · have q4 : ((c.toNat : Int) == 123) = false := no_c e4
                        have q4' : ((c.toNat : Int) != 123) = true := by rw [bne, q4]; rfl
                        have HNo := hid (mark_none_of l n' i HIn.out HTr.out HK.out hiK (.inr (.inr (.inr ⟨c, Hc.out, e4⟩))))
                        clear e1 e2 e4 hi0
                        go_wp2_with fail
                        all_goals
                          go_ret3
                          exact MarkIs.no HNo.out
              · have a48 : ¬ (48 : Int) ≤ c.toNat := by omega
                have HTr := hid (trim_at l n' i HK.out hiK HD.out (.inr ⟨c, Hc.out, fun e => c48 ((dig_iff c).2 e).1⟩))
                by_cases e1 : i = n'
                · have q1 : ((i : Int) == (n' : Int)) = true := by simp [e1]
                  have HNo := hid (mark_none_of l n' i HIn.out HTr.out HK.out hiK (.inl e1))
                  clear e1 hi0
                  go_wp2_with fail
                  all_goals
                    go_ret3
                    exact MarkIs.no HNo.out
                · have q1 : ((i : Int) == (n' : Int)) = false := by simp; omega
                  by_cases e2 : 6 < n' - i
                  · have q2 : (6 : Int) < (n' : Int) - i := by omega
                    have HNo := hid (mark_none_of l n' i HIn.out HTr.out HK.out hiK (.inr (.inl e2)))
                    clear e1 e2 hi0
                    go_wp2_with fail
                    all_goals
                      go_ret3
                      exact MarkIs.no HNo.out
                  · have q2 : ¬ (6 : Int) < (n' : Int) - i := by omega
                    have q3 : ((i : Int) == 0) = false := by simp; omega
                    by_cases e4 : c = 123
                    · exfalso
                      rw [e4] at c48
                      exact c48 (by decide)
                    · have q4 : ((c.toNat : Int) == 123) = false := no_c e4
                      have q4' : ((c.toNat : Int) != 123) = true := by rw [bne, q4]; rfl
                      have HNo := hid (mark_none_of l n' i HIn.out HTr.out HK.out hiK (.inr (.inr (.inr ⟨c, Hc.out, e4⟩))))
                      clear e1 e2 e4 hi0
                      go_wp2_with fail
                      all_goals
                        go_ret3
                        exact MarkIs.no HNo.out
        · have q43 : ((p.toNat : Int) == 43) = false := no_c hp43
          have HIn : Hid (sufT (sufT l 125) 43 = l.take n) := by
            rw [Hid, HL.out, ← Hn.out]
            exact inner_no m (by rw [hpm]; simpa using hp43)
          have HK := HKn
          clear hn' HL Hn HKn hpm hp43
          go_enter Tryd.func27, Tryd.ntmps27
          go_wp2_with fail
          go_loop [7] (fun v => ∃ i : Nat, v = .int .i64 i ∧ i ≤ n ∧ (∀ j, i ≤ j → j < n → ∀ c, l[j]? = some c → c ∈ dgs)) (fun v => (intOf v).toNat)
          case atStart => exact ⟨n, rfl, Nat.le_refl _, fun j h1 h2 => by omega⟩
          case round =>
            obtain ⟨i, rfl, hiK, hD⟩ := hrel
            have HD := hid hD
            clear hD
            by_cases hi0 : i = 0
            · have p0 : ¬ (0 : Int) < i := by omega
              have HTr := hid (trim_at l n i HK.out hiK HD.out (.inl hi0))
              by_cases e1 : i = n
              · have q1 : ((i : Int) == (n : Int)) = true := by simp [e1]
                have HNo := hid (mark_none_of l n i HIn.out HTr.out HK.out hiK (.inl e1))
                clear e1 hi0
                go_wp2_with fail
                all_goals
                  go_ret3
                  exact MarkIs.no HNo.out
              · have q1 : ((i : Int) == (n : Int)) = false := by simp; omega
                by_cases e2 : 6 < n - i
                · have q2 : (6 : Int) < (n : Int) - i := by omega
                  have HNo := hid (mark_none_of l n i HIn.out HTr.out HK.out hiK (.inr (.inl e2)))
                  clear e1 e2 hi0
                  go_wp2_with fail
                  all_goals
                    go_ret3
                    exact MarkIs.no HNo.out
                · have q2 : ¬ (6 : Int) < (n : Int) - i := by omega
                  have q3 : ((i : Int) == 0) = true := by simp [hi0]
                  have HNo := hid (mark_none_of l n i HIn.out HTr.out HK.out hiK (.inr (.inr (.inl hi0))))
                  clear e1 e2 hi0
                  go_wp2_with fail
                  all_goals
                    go_ret3
                    exact MarkIs.no HNo.out
            · have p0 : (0 : Int) < i := by omega
              obtain ⟨j, hj⟩ : ∃ j, i = j + 1 := ⟨i - 1, by omega⟩
              have hsub2 : (i : Int) - 1 = (j : Int) := by omega
              have hjs : j < (str l).size := by rw [str_size]; have := HK.out; omega
              obtain ⟨c, hc⟩ : ∃ c, (str l)[j]'hjs = c := ⟨_, rfl⟩
              have Hc : Hid (l[i - 1]? = some c) := by
                rw [Hid, ← hc, show i - 1 = j by omega]
                exact List.getElem?_eq_getElem (by rw [str_size] at hjs; exact hjs)
              have Hj := hid hj
              clear hj
              by_cases c48 : 48 ≤ c.toNat
              · have a48 : (48 : Int) ≤ c.toNat := by omega
                by_cases c57 : c.toNat ≤ 57
                · have a57 : (c.toNat : Int) ≤ 57 := by omega
                  have HD2 : Hid (∀ j', j ≤ j' → j' < n → ∀ c, l[j']? = some c → c ∈ dgs) := fun j' h1 h2 c' h3 => by
                    by_cases e : j' = j
                    · subst e
                      have hcc := Hc.out
                      rw [show i - 1 = j' by have := Hj.out; omega, h3] at hcc
                      rw [Option.some.inj hcc]
                      exact (dig_iff c).1 ⟨c48, c57⟩
                    · exact HD.out j' (by have := Hj.out; omega) h2 c' h3
                  clear hi0
                  go_wp2_with fail
                  go_round
                  case rel => exact ⟨j, by go_num, by have := Hj.out; omega, HD2.out⟩
                  case measure => simp [intOf]; have := Hj.out; omega
                · have a57 : ¬ (c.toNat : Int) ≤ 57 := by omega
                  have HTr := hid (trim_at l n i HK.out hiK HD.out (.inr ⟨c, Hc.out, fun e => c57 ((dig_iff c).2 e).2⟩))
                  by_cases e1 : i = n
                  · have q1 : ((i : Int) == (n : Int)) = true := by simp [e1]
                    have HNo := hid (mark_none_of l n i HIn.out HTr.out HK.out hiK (.inl e1))
                    clear e1 hi0
                    go_wp2_with fail
                    all_goals
                      go_ret3
                      exact MarkIs.no HNo.out
                  · have q1 : ((i : Int) == (n : Int)) = false := by simp; omega
                    by_cases e2 : 6 < n - i
                    · have q2 : (6 : Int) < (n : Int) - i := by omega
                      have HNo := hid (mark_none_of l n i HIn.out HTr.out HK.out hiK (.inr (.inl e2)))
                      clear e1 e2 hi0
                      go_wp2_with fail
                      all_goals
                        go_ret3
                        exact MarkIs.no HNo.out
                    · have q2 : ¬ (6 : Int) < (n : Int) - i := by omega
                      have q3 : ((i : Int) == 0) = false := by simp; omega
                      by_cases e4 : c = 123
                      · have q4 : ((c.toNat : Int) == 123) = true := is_c e4
                        have q4' : ((c.toNat : Int) != 123) = false := by rw [bne, q4]; rfl
                        have HK6 : Hid (n - i ≤ 6) := by rw [Hid]; omega
                        clear e1 e2 e4 hi0
                        go_wp2_with fail
                        go_loop [8, 9] (fun xv qv => ∃ x q : Nat, xv = .int .i64 x ∧ qv = .int .i64 q ∧ i ≤ q ∧ q ≤ n ∧ x + 1 ≤ 10 ^ (q - i)) (fun _ qv => n - (intOf qv).toNat)
                        case atStart => exact ⟨0, i, rfl, rfl, by omega, hiK, by simp⟩
                        case round =>
                          obtain ⟨x, q, rfl, rfl, hq1, hq2, hx⟩ := hrel
                          by_cases hqK : q < n
                          · have hqK' : (q : Int) < n := by omega
                            have hqs : q < (str l).size := by rw [str_size]; have := HK.out; omega
                            obtain ⟨cq, hcq⟩ : ∃ cq, (str l)[q]'hqs = cq := ⟨_, rfl⟩
                            have hcd : cq ∈ dgs := HD.out q hq1 hqK cq (by rw [← hcq]; exact List.getElem?_eq_getElem (by rw [str_size] at hqs; exact hqs))
                            obtain ⟨d1, d2⟩ := (dig_iff cq).2 hcd
                            have hx6 : 10 ^ (q - i) ≤ 10 ^ 6 := Nat.pow_le_pow_right (by omega) (by have := HK6.out; omega)
                            have hxb : x ≤ 1000000 := by omega
                            have HX2 : Hid (10 * x + (cq.toNat - 48) + 1 ≤ 10 ^ (q + 1 - i)) := by rw [Hid, show q + 1 - i = (q - i) + 1 by omega, Nat.pow_succ]; omega
                            clear hx hx6 hcd
                            go_wp2_with fail
                            go_round
                            case rel => exact ⟨10 * x + (cq.toNat - 48), q + 1, by go_num, by go_num, by omega, by omega, HX2.out⟩
                            case measure => simp [intOf]; omega
                          · have hqK' : ¬ (q : Int) < n := by omega
                            clear hx
                            go_wp2_with fail
                            go_ret3
                            exact MarkIs.yes j _ _
                      · have q4 : ((c.toNat : Int) == 123) = false := no_c e4
                        have q4' : ((c.toNat : Int) != 123) = true := by rw [bne, q4]; rfl
                        have HNo := hid (mark_none_of l n i HIn.out HTr.out HK.out hiK (.inr (.inr (.inr ⟨c, Hc.out, e4⟩))))
                        clear e1 e2 e4 hi0
                        go_wp2_with fail
                        all_goals
                          go_ret3
                          exact MarkIs.no HNo.out
              · have a48 : ¬ (48 : Int) ≤ c.toNat := by omega
                have HTr := hid (trim_at l n i HK.out hiK HD.out (.inr ⟨c, Hc.out, fun e => c48 ((dig_iff c).2 e).1⟩))
                by_cases e1 : i = n
                · have q1 : ((i : Int) == (n : Int)) = true := by simp [e1]
                  have HNo := hid (mark_none_of l n i HIn.out HTr.out HK.out hiK (.inl e1))
                  clear e1 hi0
                  go_wp2_with fail
                  all_goals
                    go_ret3
                    exact MarkIs.no HNo.out
                · have q1 : ((i : Int) == (n : Int)) = false := by simp; omega
                  by_cases e2 : 6 < n - i
                  · have q2 : (6 : Int) < (n : Int) - i := by omega
                    have HNo := hid (mark_none_of l n i HIn.out HTr.out HK.out hiK (.inr (.inl e2)))
                    clear e1 e2 hi0
                    go_wp2_with fail
                    all_goals
                      go_ret3
                      exact MarkIs.no HNo.out
                  · have q2 : ¬ (6 : Int) < (n : Int) - i := by omega
                    have q3 : ((i : Int) == 0) = false := by simp; omega
                    by_cases e4 : c = 123
                    · exfalso
                      rw [e4] at c48
                      exact c48 (by decide)
                    · have q4 : ((c.toNat : Int) == 123) = false := no_c e4
                      have q4' : ((c.toNat : Int) != 123) = true := by rw [bne, q4]; rfl
                      have HNo := hid (mark_none_of l n i HIn.out HTr.out HK.out hiK (.inr (.inr (.inr ⟨c, Hc.out, e4⟩))))
                      clear e1 e2 e4 hi0
                      go_wp2_with fail
                      all_goals
                        go_ret3
                        exact MarkIs.no HNo.out
    · have q1 : ((d.toNat : Int) == 125) = false := no_c h125
      have q1' : ((d.toNat : Int) != 125) = true := by rw [bne, q1]; rfl
      have HN := hid (mark_no (l := l) (by rw [HL.out]; simpa using h125))
      clear h125
      go_enter Tryd.func27, Tryd.ntmps27
      go_wp2_with fail
      go_ret3
      exact MarkIs.no HN.out
end Go.Proofs.YtikcbgoocljgnaaDoor
